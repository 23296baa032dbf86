/- The law's same: a net and the document's own tell the same. (gennetad.py wrote it.) -/
import Derived.Test.YtmbonngjkgcijaaGreatDoorZNraH
set_option linter.unusedSimpArgs false
set_option linter.unusedVariables false
set_option linter.unnecessarySimpa false
namespace Go.Proofs.YtmbonngjkgcijaaGreatDoor
open Go.RowKit Go.Shelf
/-- The sites that are cut off, both ways. -/
structure CutOk (C : List Int) (ct : Nat → Bool) : Prop where
  mem : ∀ s : Nat, (s : Int) ∈ C ↔ (1 ≤ s ∧ s ≤ 3 ∧ ct s = true)
  sub : ∀ s ∈ C, 1 ≤ s ∧ s ≤ 3
  one : C.Nodup
  zero : ct 0 = false
def b2n (b : Bool) : Nat := if b then 1 else 0
/-- How many sites below s are cut off. -/
def cntC (ct : Nat → Bool) : Nat → Nat
  | 0 => 0
  | 1 => 0
  | 2 => b2n (ct 1)
  | 3 => b2n (ct 1) + b2n (ct 2)
  | _ => b2n (ct 1) + b2n (ct 2) + b2n (ct 3)
theorem CutOk.len {C : List Int} {ct : Nat → Bool} (h : CutOk C ct) : C.length = cntC ct 4 := by
  have hp : C.Perm ((([1, 2, 3] : List Nat).filter (fun s => ct s)).map (fun s : Nat => (s : Int))) := by
    refine (List.perm_ext_iff_of_nodup h.one ?_).2 (fun a => ?_)
    · cases h1 : ct 1 <;> cases h2 : ct 2 <;> cases h3 : ct 3 <;> simp [h1, h2, h3]
    · constructor
      · intro ha
        have hs := h.sub a ha
        obtain ⟨n, rfl⟩ := Int.eq_ofNat_of_zero_le (a := a) (by omega)
        have := (h.mem n).1 ha
        refine List.mem_map.2 ⟨n, List.mem_filter.2 ⟨?_, this.2.2⟩, rfl⟩
        have h3 : n = 1 ∨ n = 2 ∨ n = 3 := by omega
        rcases h3 with e | e | e <;> rw [e] <;> decide
      · intro ha
        obtain ⟨n, hn, rfl⟩ := List.mem_map.1 ha
        obtain ⟨h1, h2⟩ := List.mem_filter.1 hn
        refine (h.mem n).2 ⟨?_, ?_, h2⟩ <;> simp at h1 <;> omega
  rw [hp.length_eq, List.length_map]
  unfold cntC b2n
  cases h1 : ct 1 <;> cases h2 : ct 2 <;> cases h3 : ct 3 <;> simp [h1, h2, h3]
theorem cnt_step (ct : Nat → Bool) {s : Nat} (h : 1 ≤ s ∧ s ≤ 3) : cntC ct (s + 1) = cntC ct s + b2n (ct s) ∧ cntC ct (s + 1) ≤ cntC ct 4 := by
  have h3 : s = 1 ∨ s = 2 ∨ s = 3 := by omega
  rcases h3 with rfl | rfl | rfl <;> simp [cntC] <;> omega
theorem bytesL_at {Q : List RP} {i : Nat} {x : RP} (h : Q[i]? = some x) : bytesL (Q.map RP.p) (i : Int) = x.bs := by
  have hl := (List.getElem?_eq_some_iff.1 h).1
  have hi : inP (Q.map RP.p) (i : Int) := ⟨by omega, by rw [List.length_map]; omega⟩
  unfold bytesL
  rw [if_pos hi, Int.toNat_natCast, List.getElem?_map, h]
  rfl
theorem bytesL_out {Q : List RP} {i : Int} (h : ¬ inP (Q.map RP.p) i) : bytesL (Q.map RP.p) i = [] := by unfold bytesL; rw [if_neg h]
theorem waits_at {Q : List RP} {i : Nat} {x : RP} (h : Q[i]? = some x) : (if inP (Q.map RP.p) (i : Int) then (((Q.map RP.p)[(i : Int).toNat]?.map (·.2.2)).getD 0) else 0) = x.waits := by
  have hl := (List.getElem?_eq_some_iff.1 h).1
  have hi : inP (Q.map RP.p) (i : Int) := ⟨by omega, by rw [List.length_map]; omega⟩
  rw [if_pos hi, Int.toNat_natCast, List.getElem?_map, h]
  rfl
theorem xor3 (y : UInt8) : ∃ z : UInt8, bits .xor .u8 (y.toNat : Int) 3 = (z.toNat : Int) := by
  have h3 : (3 : Nat) < 256 := by decide
  have := u8_xor_nat y.toNat 3 (UInt8.toNat_lt y) h3
  have hlt : y.toNat ^^^ 3 < 256 := Nat.xor_lt_two_pow (n := 8) (UInt8.toNat_lt y) h3
  exact ⟨UInt8.ofNat (y.toNat ^^^ 3), by rw [UInt8.toNat_ofNat', Nat.mod_eq_of_lt hlt]; exact this⟩
section
variable {w0 w : World} {b r : Nat} {most : Int} {C : List Int} {Q : List RP} {ct : Nat → Bool} {v : Value} {F : Nat → Prop}
set_option maxRecDepth 100000 in
set_option maxHeartbeats 8000000 in
theorem lsame_any (h : NPF w0 w b r most (Q.map RP.p) C Q ct v F) (hC : CutOk C ct) (hl : Q.length ≤ 1000) :
    Calls Tryz.prog 13 #[.pointer (some ⟨b, 0, none⟩), .pointer (some ⟨r, 0, none⟩)] w fun e w' => e = .returned (.bool true) ∧ Below w.heap.size w w' := by
  have qE : ∀ (w : World) (p : Addr), (binOp .eql 23 (.pointer (some p)) (.pointer none)).run Tryz.prog w = .ok (.bool false) w := fun w p => by kernel_rfl
  have HN := Lib.hid (fun W (hW : Below w.heap.size w W) => h.net.below hW)
  have HR := Lib.hid (fun W (hW : Below w.heap.size w W) => h.ref.below hW)
  have HBY : Hid (∀ x ∈ Q, ∀ W, Below w.heap.size w W → BIs W x.v x.bs) := Lib.hid (fun x hx W hW => h.by_ x hx W (.of_below hW))
  have HFEW : Hid (∀ x ∈ Q, x.bs ≠ [] ∧ x.bs.length ≤ 20000) := Lib.hid (fun x hx => (nc_few h.net).2 x.p (List.mem_map_of_mem hx))
  have HCU := Lib.hid hC
  obtain ⟨n, hn⟩ : ∃ n, Q.length = n := ⟨_, rfl⟩
  have HQN := Lib.hid hn
  obtain ⟨vA, cp, hv, _⟩ := id (RowIs.form h.ref.row)
  rw [hn] at hv hl
  have HV := Lib.hid hv
  have HKR : Hid (∀ W, Below w.heap.size w W → W.cell? ⟨r, 1, none⟩ = some (.slice vA n cp)) := Lib.hid (fun W hW => (cell_of (h.ref.below hW).head 1).trans (congrArg some hv))
  have HCT : Hid (∀ W, Below w.heap.size w W → W.cell? ⟨r, 3, none⟩ = some (.bool (ct 1)) ∧ W.cell? ⟨r, 4, none⟩ = some (.bool (ct 2)) ∧ W.cell? ⟨r, 5, none⟩ = some (.bool (ct 3))) := Lib.hid (fun W hW => ⟨cell_of (h.ref.below hW).head 3, cell_of (h.ref.below hW).head 4, cell_of (h.ref.below hW).head 5⟩)
  have HLE : Hid (∀ W, Below w.heap.size w W → Calls Tryz.prog 16 #[.pointer (some ⟨b, 0, none⟩)] W fun e w' => e = .returned (.int .i64 n) ∧ w' = W) := Lib.hid (fun W hW => by have := nc_len (h.net.below hW); rw [List.length_map, hn] at this; exact this)
  have HB0 := Lib.hid (below_drew (Below.refl w.heap.size w))
  clear h hC hn hv
  go_enter Tryz.func13, Tryz.ntmps13
  go_upto_region 1 with fail
  refine wp_only ?_
  refine wp_region_held_drew (S := fun W => W.cell? ⟨r, 1, none⟩ = some (.slice vA n cp)) (by kernel_rfl) (HKR.out _ HB0.out) (fun hHeld => ?_)
  refine tkH (i := 0) (oi := { dst := some 13, op := .move (.tmp 0), type := 23, pos := "law.go:63", after := #[], guard := none }) (v := ?vv1) ?hy1 ?rest1
  case hy1 => (refine Or.inl ⟨by rfl, ?_⟩; intro W hSw; (try dsimp only at hSw); go_simp; (try with_reducible rfl))
  try simp only [Act.put, pzz]
  refine tkH (i := 1) (oi := { dst := some 14, op := .binOp .eql 23 (.tmp 13) (.const (.pointer none)) 23, type := 4, pos := "law.go:63", after := #[⟨0, .data⟩], guard := none }) (v := (.bool false)) ?hy2 ?rest2
  case hy2 => ((refine Or.inl ⟨by rfl, ?_⟩; intro W hSw; (try dsimp only at hSw); go_simp; (try exact qE _ _)))
  try simp only [Act.put, pzz]
  refine tkH (i := 2) (oi := { dst := some 15, op := .move (.tmp 14), type := 4, pos := "law.go:63", after := #[⟨1, .data⟩], guard := none }) (v := ?vv3) ?hy3 ?rest3
  case hy3 => (refine Or.inl ⟨by rfl, ?_⟩; intro W hSw; (try dsimp only at hSw); go_simp; (try with_reducible rfl))
  try simp only [Act.put, pzz]
  refine tkH (i := 3) (oi := { dst := some 16, op := .move (.tmp 0), type := 23, pos := "law.go:63", after := #[⟨2, .guard⟩], guard := some (2, false) }) (v := ?vv4) ?hy4 ?rest4
  case hy4 => (refine Or.inl ⟨by rfl, ?_⟩; intro W hSw; (try dsimp only at hSw); go_simp; (try with_reducible rfl))
  try simp only [Act.put, pzz]
  refine tkH (i := 5) (oi := { dst := some 18, op := .move (.tmp 1), type := 28, pos := "law.go:63", after := #[⟨2, .guard⟩], guard := some (2, false) }) (v := ?vv5) ?hy5 ?rest5
  case hy5 => (refine Or.inl ⟨by rfl, ?_⟩; intro W hSw; (try dsimp only at hSw); go_simp; (try with_reducible rfl))
  try simp only [Act.put, pzz]
  refine tkH (i := 6) (oi := { dst := some 19, op := .nilCheck (.tmp 18), type := 0, pos := "law.go:63", after := #[⟨5, .data⟩, ⟨2, .guard⟩], guard := some (2, false) }) (v := ?vv6) ?hy6 ?rest6
  case hy6 => (refine Or.inl ⟨by rfl, ?_⟩; intro W hSw; (try dsimp only at hSw); go_simp; (try with_reducible rfl))
  try simp only [Act.put, pzz]
  refine tkH (i := 7) (oi := { dst := some 20, op := .fieldAddr 32 (.tmp 19) 1, type := 0, pos := "law.go:63", after := #[⟨6, .data⟩, ⟨2, .guard⟩], guard := some (2, false) }) (v := ?vv7) ?hy7 ?rest7
  case hy7 => (refine Or.inl ⟨by rfl, ?_⟩; intro W hSw; (try dsimp only at hSw); go_simp; (try with_reducible rfl))
  try simp only [Act.put, pzz]
  refine tkH (i := 8) (oi := { dst := some 21, op := .load 29 (.tmp 20), type := 29, pos := "law.go:63", after := #[⟨7, .data⟩, ⟨2, .guard⟩], guard := some (2, false) }) (v := ?vv8) ?hy8 ?rest8
  case hy8 => (refine Or.inl ⟨by rfl, ?_⟩; intro W hSw; (try dsimp only at hSw); go_simp; (try with_reducible rfl))
  try simp only [Act.put, pzz]
  refine tkH (i := 9) (oi := { dst := some 22, op := .call { callee := .builtin .len, args := #[.tmp 21], argTypes := #[29] }, type := 3, pos := "law.go:63", after := #[⟨8, .data⟩, ⟨2, .guard⟩], guard := some (2, false) }) (v := ?vv9) ?hy9 ?rest9
  case hy9 => (refine Or.inl ⟨by rfl, ?_⟩; intro W hSw; (try dsimp only at hSw); go_simp; (try with_reducible rfl))
  try simp only [Act.put, pzz]
  refine wpAnyH_ready (rs := [4]) (by kernel_rfl) (by simp) ?_
  refine AllReadyH.cons (o := { dst := some 17, op := .call { callee := .value (.func 16), args := #[.tmp 16], argTypes := #[23] }, type := 3, pos := "law.go:63", after := #[⟨3, .data⟩, ⟨2, .chain⟩, ⟨2, .guard⟩], guard := some (2, false) }) rfl (fun K hK => ?step10) ?more10
  case more10 => exact AllReadyH.nil
  ((go_simp; go_at_call 16; refine (HLE.out _ HB0.out).mono ?_; rintro e x1 ⟨rfl, rfl⟩; go_wp2_with fail))
  refine hK.out _ _ ?hS10 (fun hHeld => ?rr10)
  case hS10 => (exact HKR.out _ HB0.out)
  clear hK K
  try simp only [Act.put, pzz]
  refine tkH (i := 10) (oi := { dst := some 23, op := .binOp .neq 3 (.tmp 17) (.tmp 22) 3, type := 4, pos := "law.go:63", after := #[⟨4, .data⟩, ⟨9, .data⟩, ⟨2, .guard⟩], guard := some (2, false) }) (v := (.bool false)) ?hy11 ?rest11
  case hy11 => ((refine Or.inl ⟨by rfl, ?_⟩; intro W hSw; (try dsimp only at hSw); go_simp; (try simp)))
  try simp only [Act.put, pzz]
  refine tkH (i := 11) (oi := { dst := some 24, op := .pick (.tmp 15) (.const (.bool true)) (.tmp 23), type := 4, pos := "law.go:63", after := #[⟨2, .data⟩, ⟨10, .data⟩], guard := none }) (v := ?vv12) ?hy12 ?rest12
  case hy12 => (refine Or.inl ⟨by rfl, ?_⟩; intro W hSw; (try dsimp only at hSw); go_simp; (try with_reducible rfl))
  try simp only [Act.put, pzz]
  refine wpAnyH_done (by kernel_rfl) ?_ _
  clear hHeld
  dsimp only [onlyN]
  generalize w.drew = w1 at *
  have kr1 := HKR.out w1 HB0.out
  go_wp2_with fail
  clear kr1
  go_loopw [30] (fun iv wr => ∃ i : Nat, i ≤ n ∧ iv = .int .i64 i ∧ Below w.heap.size w wr) (fun iv _ => n - (intOf iv).toNat)
  case atStart => exact ⟨0, Nat.zero_le _, rfl, HB0.out⟩
  case round =>
    obtain ⟨i, hi, rfl, hb⟩ := hrel
    by_cases hlt : i < n
    · obtain ⟨x, hx⟩ : ∃ x, Q[i]? = some x := ⟨_, List.getElem?_eq_getElem (by rw [HQN.out]; exact hlt)⟩
      have hxm := List.mem_of_getElem? hx
      obtain ⟨g, cp', e, c0, c1, c2⟩ := rp_cells (HR.out wr hb).row hx
      rw [HV.out, HQN.out] at e
      injection e with e1 _ e3
      subst e1 e3
      unfold RP.v at c0
      have hb1 := below_new (w := wr) (.cells x.a 102)
      have hat1 := alloc_at wr (.cells x.a 102)
      obtain ⟨W1, hW1⟩ : ∃ W, W = wr.alloc (.cells x.a 102) := ⟨_, rfl⟩
      rw [← hW1] at hb1 hat1
      have hB1 := hb.trans (hb1.mono hb.size)
      have HA1 := Lib.hid (And.intro hat1 (And.intro hB1 hxm))
      have HPK := nc_packet (HN.out W1 hB1) (i : Int)
      rw [bytesL_at hx] at HPK
      have HPK := Lib.hid HPK
      have HX := Lib.hid hx
      have HW1 := Lib.hid hW1
      have HLT := Lib.hid hlt
      have hiI : (i : Int) < (n : Int) := by omega
      have hwi : IntKind.i64.wrap ((i : Int) + 1) = (i : Int) + 1 := IntWalk.i64_in _ (by omega)
      clear hx hxm hb1 hat1 hW1 hB1 hb hi hlt
      go_upto_region 6 with fail
      change Code.wp _ _ _ _ (World.alloc wr (.cells #[.slice x.A x.bs.length x.cap, .int .i64 x.site, .int .i64 x.waits] 102))
      rw [show (World.alloc wr (.cells #[.slice x.A x.bs.length x.cap, .int .i64 x.site, .int .i64 x.waits] 102)) = W1 from HW1.out.symm]
      clear c0 c1 c2
      go_wp2_with fail
      refine (HPK.out).mono ?_
      rintro e w2 ⟨v2, rfl, ho2, hb2⟩
      have HO2 := Lib.hid (And.intro ho2 hb2)
      have hne := (HFEW.out x HA1.out.2.2).1
      obtain ⟨nx, hnx⟩ : ∃ k, x.bs.length = k := ⟨_, rfl⟩
      obtain ⟨g2, c2, rfl, hc2⟩ : ∃ g2 c2, v2 = .slice (some ⟨g2, 0, none⟩) nx c2 ∧ OwnC w2 W1.heap.size g2 c2 x.bs := by
        rcases ho2 with ⟨_, e⟩ | ⟨g2, c2, e, hc⟩
        · exact (hne e).elim
        · exact ⟨g2, c2, by rw [e, hnx], hc⟩
      have HC2 := Lib.hid (And.intro hc2 hnx)
      have HB2 := Lib.hid (HA1.out.2.1.trans (hb2.mono HA1.out.2.1.size))
      have HNX := Lib.hid (HFEW.out x HA1.out.2.2)
      have HWT := nc_waits (HN.out w2.drew (below_drew HB2.out)) (i : Int)
      rw [waits_at HX.out] at HWT
      have HWT := Lib.hid HWT
      have HSC : Hid (∀ W, Below w2.heap.size w2 W → W.cell? ⟨wr.heap.size, 0, none⟩ = some (.slice x.A nx x.cap) ∧ W.cell? ⟨wr.heap.size, 2, none⟩ = some (.int .i64 x.waits) ∧ BIs W (.slice (some ⟨g2, 0, none⟩) nx c2) x.bs ∧ BIs W (.slice x.A nx x.cap) x.bs) := Lib.hid (fun W hW => by
        have e := ((HO2.out.2.trans (hW.mono HO2.out.2.size)).block _ (heap_lt HA1.out.1)).trans HA1.out.1
        have q1 := HBY.out x HA1.out.2.2 W (HB2.out.trans (hW.mono HB2.out.size))
        unfold RP.v at q1
        rw [hnx] at q1
        have e0 : W.cell? ⟨wr.heap.size, 0, none⟩ = some (.slice x.A x.bs.length x.cap) := cell_of e 0
        rw [hnx] at e0
        refine ⟨e0, cell_of e 2, ?_, q1⟩
        have := OwnBy.bis (.inr ⟨g2, c2, rfl, HC2.out.1.keep hW.size (hW.block _ HC2.out.1.lt)⟩ : OwnBy W W1.heap.size (.slice (some ⟨g2, 0, none⟩) x.bs.length c2) x.bs)
        rw [hnx] at this
        exact this)
      clear ho2 hb2 hne hc2 hnx
      go_upto_region 7 with fail
      refine wp_only ?_
      refine wp_region_held_drew (S := fun W => W.cell? ⟨wr.heap.size, 0, none⟩ = some (.slice x.A nx x.cap) ∧ W.cell? ⟨wr.heap.size, 2, none⟩ = some (.int .i64 x.waits) ∧ BIs W (.slice (some ⟨g2, 0, none⟩) nx c2) x.bs ∧ BIs W (.slice x.A nx x.cap) x.bs) (by kernel_rfl) (HSC.out _ (below_drew (Below.refl _ _))) (fun hHeld => ?_)
      refine tkH (i := 0) (oi := { dst := some 38, op := .move (.tmp 7), type := 54, pos := "law.go:68", after := #[], guard := none }) (v := ?vv13) ?hy13 ?rest13
      case hy13 => (refine Or.inl ⟨by rfl, ?_⟩; intro W hSw; (try dsimp only at hSw); go_simp; (try with_reducible rfl))
      try simp only [Act.put, pzz]
      refine tkH (i := 1) (oi := { dst := some 39, op := .convert 54 9 (.tmp 38), type := 9, pos := "law.go:68", after := #[⟨0, .data⟩], guard := none }) (v := (.string ⟨x.bs.toArray⟩)) ?hy14 ?rest14
      case hy14 => ((refine Or.inl ⟨by rfl, ?_⟩; intro W hSw; have hcv := bis_string hSw.2.2.1; clear hSw; go_simp))
      try simp only [Act.put, pzz]
      refine tkH (i := 2) (oi := { dst := some 40, op := .fieldAddr 102 (.tmp 6) 0, type := 0, pos := "law.go:68", after := #[], guard := none }) (v := ?vv15) ?hy15 ?rest15
      case hy15 => (refine Or.inl ⟨by rfl, ?_⟩; intro W hSw; (try dsimp only at hSw); go_simp; (try with_reducible rfl))
      try simp only [Act.put, pzz]
      refine tkH (i := 3) (oi := { dst := some 41, op := .load 54 (.tmp 40), type := 54, pos := "law.go:68", after := #[⟨2, .data⟩], guard := none }) (v := ?vv16) ?hy16 ?rest16
      case hy16 => (refine Or.inl ⟨by rfl, ?_⟩; intro W hSw; (try dsimp only at hSw); go_simp; (try with_reducible rfl))
      try simp only [Act.put, pzz]
      refine tkH (i := 4) (oi := { dst := some 42, op := .convert 54 9 (.tmp 41), type := 9, pos := "law.go:68", after := #[⟨3, .data⟩], guard := none }) (v := (.string ⟨x.bs.toArray⟩)) ?hy17 ?rest17
      case hy17 => ((refine Or.inl ⟨by rfl, ?_⟩; intro W hSw; have hcv := bis_string hSw.2.2.2; clear hSw; go_simp))
      try simp only [Act.put, pzz]
      refine tkH (i := 5) (oi := { dst := some 43, op := .binOp .neq 9 (.tmp 39) (.tmp 42) 9, type := 4, pos := "law.go:68", after := #[⟨1, .data⟩, ⟨4, .data⟩], guard := none }) (v := (.bool false)) ?hy18 ?rest18
      case hy18 => ((refine Or.inl ⟨by rfl, ?_⟩; intro W hSw; (try dsimp only at hSw); go_simp; (try simp)))
      try simp only [Act.put, pzz]
      refine tkH (i := 6) (oi := { dst := some 44, op := .move (.tmp 43), type := 4, pos := "law.go:68", after := #[⟨5, .data⟩], guard := none }) (v := ?vv19) ?hy19 ?rest19
      case hy19 => (refine Or.inl ⟨by rfl, ?_⟩; intro W hSw; (try dsimp only at hSw); go_simp; (try with_reducible rfl))
      try simp only [Act.put, pzz]
      refine tkH (i := 7) (oi := { dst := some 45, op := .move (.tmp 0), type := 23, pos := "law.go:68", after := #[⟨6, .guard⟩], guard := some (6, false) }) (v := ?vv20) ?hy20 ?rest20
      case hy20 => (refine Or.inl ⟨by rfl, ?_⟩; intro W hSw; (try dsimp only at hSw); go_simp; (try with_reducible rfl))
      try simp only [Act.put, pzz]
      refine tkH (i := 8) (oi := { dst := some 46, op := .move (.tmp 5), type := 3, pos := "law.go:68", after := #[⟨6, .guard⟩], guard := some (6, false) }) (v := ?vv21) ?hy21 ?rest21
      case hy21 => (refine Or.inl ⟨by rfl, ?_⟩; intro W hSw; (try dsimp only at hSw); go_simp; (try with_reducible rfl))
      try simp only [Act.put, pzz]
      refine tkH (i := 10) (oi := { dst := some 48, op := .fieldAddr 102 (.tmp 6) 2, type := 0, pos := "law.go:68", after := #[⟨6, .guard⟩], guard := some (6, false) }) (v := ?vv22) ?hy22 ?rest22
      case hy22 => (refine Or.inl ⟨by rfl, ?_⟩; intro W hSw; (try dsimp only at hSw); go_simp; (try with_reducible rfl))
      try simp only [Act.put, pzz]
      refine tkH (i := 11) (oi := { dst := some 49, op := .load 3 (.tmp 48), type := 3, pos := "law.go:68", after := #[⟨10, .data⟩, ⟨6, .guard⟩], guard := some (6, false) }) (v := ?vv23) ?hy23 ?rest23
      case hy23 => (refine Or.inl ⟨by rfl, ?_⟩; intro W hSw; (try dsimp only at hSw); go_simp; (try with_reducible rfl))
      try simp only [Act.put, pzz]
      refine wpAnyH_ready (rs := [9]) (by kernel_rfl) (by simp) ?_
      refine AllReadyH.cons (o := { dst := some 47, op := .call { callee := .value (.func 34), args := #[.tmp 45, .tmp 46], argTypes := #[23, 3] }, type := 3, pos := "law.go:68", after := #[⟨7, .data⟩, ⟨8, .data⟩, ⟨6, .chain⟩, ⟨6, .guard⟩], guard := some (6, false) }) rfl (fun K hK => ?step24) ?more24
      case more24 => exact AllReadyH.nil
      ((go_simp; go_at_call 34; refine (HWT.out).mono ?_; rintro e x1 ⟨rfl, hbx⟩; have HBX := Lib.hid (below_of_drew hbx); clear hbx; go_wp2_with fail))
      refine hK.out _ _ ?hS24 (fun hHeld => ?rr24)
      case hS24 => (exact HSC.out _ HBX.out)
      clear hK K
      try simp only [Act.put, pzz]
      refine tkH (i := 12) (oi := { dst := some 50, op := .binOp .neq 3 (.tmp 47) (.tmp 49) 3, type := 4, pos := "law.go:68", after := #[⟨9, .data⟩, ⟨11, .data⟩, ⟨6, .guard⟩], guard := some (6, false) }) (v := (.bool false)) ?hy25 ?rest25
      case hy25 => ((refine Or.inl ⟨by rfl, ?_⟩; intro W hSw; (try dsimp only at hSw); go_simp; (try simp)))
      try simp only [Act.put, pzz]
      refine tkH (i := 13) (oi := { dst := some 51, op := .pick (.tmp 44) (.const (.bool true)) (.tmp 50), type := 4, pos := "law.go:68", after := #[⟨6, .data⟩, ⟨12, .data⟩], guard := none }) (v := ?vv26) ?hy26 ?rest26
      case hy26 => (refine Or.inl ⟨by rfl, ?_⟩; intro W hSw; (try dsimp only at hSw); go_simp; (try with_reducible rfl))
      try simp only [Act.put, pzz]
      refine wpAnyH_done (by kernel_rfl) ?_ _
      clear hHeld
      dsimp only [onlyN]
      have HBx := Lib.hid (HB2.out.trans (HBX.out.mono HB2.out.size))
      have HCx : Hid (OwnC x1 w.heap.size g2 c2 x.bs) := Lib.hid (by
        have hk := HC2.out.1.keep HBX.out.size (HBX.out.block _ HC2.out.1.lt)
        exact ⟨Nat.le_trans HA1.out.2.1.size hk.new, hk.lt, hk.le, hk.max, hk.holds, hk.there⟩)
      have hnx2 : nx ≤ 20000 := by rw [← HC2.out.2]; exact HNX.out.2
      have HLX := Lib.hid HC2.out.2
      obtain ⟨wo, rfl⟩ : ∃ wo, wo = wr := ⟨_, rfl⟩
      go_wp2_with fail
      go_loopw [54] (fun kv wr => ∃ (k : Nat) (l : List UInt8), k ≤ nx ∧ kv = .int .i64 k ∧ l.length = nx ∧ OwnC wr w.heap.size g2 c2 l ∧ Below w.heap.size w wr) (fun kv _ => nx - (intOf kv).toNat)
      case atStart => exact ⟨0, x.bs, Nat.zero_le _, rfl, HLX.out, HCx.out, HBx.out⟩
      case round =>
        obtain ⟨k, l, hk, rfl, hll, hcl, hbl⟩ := hrel
        by_cases hkl : k < nx
        · obtain ⟨y, hy⟩ : ∃ y, l[k]? = some y := ⟨_, List.getElem?_eq_getElem (by omega)⟩
          obtain ⟨z, hz⟩ := xor3 y
          have hcell := hcl.holds k y hy
          have hfz := (hcl.there k (Nat.lt_of_lt_of_le (by omega) hcl.le)).2
          have hset := hcl.set (k := k) (by omega) z
          have hT : Touch (fun q => q = g2) wr (wr.setCell ⟨g2, k, none⟩ (.int .u8 (z.toNat : Int))) := (Touch.refl (fun q => q = g2) wr).setCell ⟨g2, k, none⟩ (fun _ => rfl) _
          have HS := Lib.hid (And.intro hset (And.intro (hbl.trans (hT.below (fun i e => by rw [e]; exact hcl.new) hbl.size)) (And.intro hll hkl)))
          have hkI : (k : Int) < (nx : Int) := by omega
          have hwk : IntKind.i64.wrap ((k : Int) + 1) = (k : Int) + 1 := IntWalk.i64_in _ (by omega)
          have hcap : nx ≤ c2 := by have := hcl.le; omega
          clear hy hset hT hcl hbl hll hk
          go_wp2_with fail
          go_roundw
          case rel => exact ⟨k + 1, l.set k z, HS.out.2.2.2, by go_num, by rw [List.length_set]; exact HS.out.2.2.1, HS.out.1, HS.out.2.1⟩
          case measure => have := HS.out.2.2.2; simp [intOf]; omega
        · obtain rfl : k = nx := by omega
          have HBL := Lib.hid hbl
          clear hll hcl hbl hk hkl
          go_wp2_with fail
          go_roundw
          case rel => exact ⟨i + 1, HLT.out, by go_num, HBL.out⟩
          case measure => have := HLT.out; simp [intOf]; omega
    · obtain rfl : i = n := by omega
      have HB := Lib.hid hb
      have HPA := Lib.hid (nc_parted (HN.out wr hb) HCU.out.sub (by rw [HCU.out.len]; unfold cntC b2n; cases ct 1 <;> cases ct 2 <;> cases ct 3 <;> decide))
      clear hb hi hlt
      go_wp2_with fail
      refine (HPA.out).mono ?_
      rintro e w2 ⟨vp, ns, rfl, hrow, hperm, hnew, hb2⟩
      have HB2 := Lib.hid (HB.out.trans (hb2.mono HB.out.size))
      have HRW := Lib.hid hrow
      obtain ⟨m, hm⟩ : ∃ m, ns.length = m := ⟨_, rfl⟩
      have hCl : C.length = m := by rw [← hm]; exact hperm.length_eq.symm
      have hm3 : m ≤ 3 := by rw [← hCl, HCU.out.len]; unfold cntC b2n; cases ct 1 <;> cases ct 2 <;> cases ct 3 <;> decide
      have HM := Lib.hid (And.intro hm hCl)
      have HPE := Lib.hid hperm
      obtain ⟨pA, pc, rfl, hp1, _⟩ := id (RowIs.form hrow)
      rw [hm] at hp1 ⊢
      clear hrow hperm hnew hb2 hCl hm
      go_wp2_with fail
      go_loopw [9, 68] (fun cv jv wr => ∃ j : Nat, j ≤ m ∧ jv = .int .i64 j ∧ cv = .int .i64 j ∧ Below w2.heap.size w2 wr) (fun _ jv _ => m - (intOf jv).toNat)
      case atStart => exact ⟨0, Nat.zero_le _, rfl, rfl, Below.refl _ _⟩
      case round =>
        obtain ⟨j, hj, rfl, rfl, hbj⟩ := hrel
        by_cases hjl : j < m
        · obtain ⟨z, hz⟩ : ∃ z, ns[j]? = some z := ⟨_, List.getElem?_eq_getElem (by rw [HM.out.1]; exact hjl)⟩
          have hzC : z ∈ C := HPE.out.mem_iff.1 (List.mem_of_getElem? hz)
          have hz3 := HCU.out.sub z hzC
          obtain ⟨zn, rfl⟩ := Int.eq_ofNat_of_zero_le (a := z) (by omega)
          have hct := ((HCU.out.mem zn).1 hzC)
          have hrw := HRW.out.below hbj
          obtain ⟨A9, c9, he9, _, _, _, _, h59⟩ := RowIs.form hrw
          obtain ⟨gp, hgp, hcell⟩ := h59 j (.int .i64 zn) (by rw [List.getElem?_map, hz]; rfl)
          cases he9
          subst hgp
          have hkc : wr.cell? ⟨r, 2 + zn, none⟩ = some (.bool true) := by
            obtain ⟨q1, q2, q3⟩ := HCT.out wr (HB2.out.trans (hbj.mono HB2.out.size))
            have h3 : zn = 1 ∨ zn = 2 ∨ zn = 3 := by omega
            rcases h3 with e | e | e <;> subst e
            · rw [hct.2.2] at q1; exact q1
            · rw [hct.2.2] at q2; exact q2
            · rw [hct.2.2] at q3; exact q3
          have HJ := Lib.hid (And.intro hjl hbj)
          have e1 : decide ((zn : Int) < 1) = false := decide_eq_false (by omega)
          have e2 : decide ((zn : Int) > 3) = false := decide_eq_false (by omega)
          have e3 : (zn : Int) < 4 := by omega
          have e4 : zn < 4 := by omega
          have hjI : (j : Int) < (m : Int) := by omega
          have hwj : IntKind.i64.wrap ((j : Int) + 1) = (j : Int) + 1 := IntWalk.i64_in _ (by omega)
          clear hz hzC hz3 hct hrw h59 hj hjl hbj
          go_wp2_with fail
          go_roundw
          case rel => exact ⟨j + 1, HJ.out.1, by go_num, by go_num, HJ.out.2⟩
          case measure => have := HJ.out.1; simp [intOf]; omega
        · obtain rfl : j = m := by omega
          have HBJ := Lib.hid (HB2.out.trans (hbj.mono HB2.out.size))
          clear hbj hj hjl
          go_wp2_with fail
          go_loopw [9, 12] (fun cv sv wr => ∃ s : Nat, 1 ≤ s ∧ s ≤ 4 ∧ sv = .int .i64 s ∧ cv = .int .i64 ((j - cntC ct s : Nat) : Int) ∧ Below w.heap.size w wr) (fun _ sv _ => 4 - (intOf sv).toNat)
          case atStart => exact ⟨1, by decide, by decide, rfl, by simp [cntC], HBJ.out⟩
          case round =>
            obtain ⟨q, hq1, hq4, rfl, rfl, hbq⟩ := hrel
            by_cases hql : q ≤ 3
            · have hst := cnt_step ct (s := q) ⟨hq1, hql⟩
              have hfull : cntC ct 4 = j := by rw [← HCU.out.len]; exact HM.out.2
              have hkc : wr.cell? ⟨r, 2 + q, none⟩ = some (.bool (ct q)) := by
                obtain ⟨q1, q2, q3⟩ := HCT.out wr hbq
                have h3 : q = 1 ∨ q = 2 ∨ q = 3 := by omega
                rcases h3 with e | e | e <;> subst e
                · exact q1
                · exact q2
                · exact q3
              have HQ := Lib.hid (And.intro hql (And.intro hst (And.intro hfull (And.intro hq1 hbq))))
              have e1 : decide ((q : Int) ≤ 3) = true := decide_eq_true (by omega)
              have e3 : (q : Int) < 4 := by omega
              have e4 : q < 4 := by omega
              have hwq : IntKind.i64.wrap ((q : Int) + 1) = (q : Int) + 1 := IntWalk.i64_in _ (by omega)
              have hwc : IntKind.i64.wrap (((j - cntC ct q : Nat) : Int) - 1) = ((j - cntC ct q : Nat) : Int) - 1 := IntWalk.i64_in _ (by omega)
              obtain ⟨cn, hcn⟩ : ∃ cn, j - cntC ct q = cn := ⟨_, rfl⟩
              have HCN := Lib.hid hcn
              rw [hcn] at hwc ⊢
              obtain ⟨cb, hcb⟩ : ∃ cb, ct q = cb := ⟨_, rfl⟩
              have HCB := Lib.hid hcb
              rw [hcb] at hkc
              clear hst hfull hql hq1 hq4 hbq hcn hcb
              cases cb with
              | true =>
                go_wp2_with fail
                go_roundw
                case rel => exact ⟨q + 1, by omega, by have := HQ.out.1; omega, by go_num, by
                  have h1 := HQ.out.2.1
                  have h2 := HQ.out.2.2.1
                  have h3 := HCN.out
                  rw [HCB.out] at h1
                  simp only [b2n, if_true] at h1
                  congr 1
                  omega, HQ.out.2.2.2.2⟩
                case measure => have := HQ.out.1; simp [intOf]; omega
              | false =>
                go_wp2_with fail
                go_roundw
                case rel => exact ⟨q + 1, by omega, by have := HQ.out.1; omega, by go_num, by
                  have h1 := HQ.out.2.1
                  have h3 := HCN.out
                  rw [HCB.out] at h1
                  have h4 : cntC ct (q + 1) = cntC ct q := by rw [h1.1]; rfl
                  rw [h4, h3], HQ.out.2.2.2.2⟩
                case measure => have := HQ.out.1; simp [intOf]; omega
            · obtain rfl : q = 4 := by omega
              have hfull : cntC ct 4 = j := by rw [← HCU.out.len]; exact HM.out.2
              rw [hfull, Nat.sub_self]
              have HBQ := Lib.hid hbq
              have hno : ¬ inP (Q.map RP.p) (i : Int) := fun e => by have := e.2; rw [List.length_map, HQN.out] at this; omega
              have hno2 : ¬ inP (Q.map RP.p) (-1) := fun e => by have := e.1; omega
              have hpk := nc_packet (HN.out wr hbq) (i : Int)
              rw [bytesL_out hno] at hpk
              have HPK := Lib.hid hpk
              have HWT : Hid (∀ W, Below w.heap.size w W → Calls Tryz.prog 34 #[.pointer (some ⟨b, 0, none⟩), .int .i64 (-1)] W fun e w' => e = .returned (.int .i64 0) ∧ Below W.heap.size W w') := Lib.hid (fun W hW => by have := nc_waits (HN.out W hW) (-1); rw [if_neg hno2] at this; exact this)
              have HL2 := Lib.hid (HLE.out wr hbq)
              clear hfull hbq hno hno2 hpk hq1 hq4 hql
              go_wp2_with fail
              refine (HL2.out).mono ?_
              rintro e w3 ⟨rfl, rfl⟩
              go_wp2_with fail
              refine (HPK.out).mono ?_
              rintro e w4 ⟨v4, rfl, ho4, hb4⟩
              have HB4 := Lib.hid (HBQ.out.trans (hb4.mono HBQ.out.size))
              obtain ⟨A4, c4, rfl⟩ : ∃ A4 c4, v4 = .slice A4 0 c4 := by
                rcases ho4 with ⟨e, _⟩ | ⟨g4, c4, e, _⟩
                · exact ⟨_, _, e⟩
                · exact ⟨_, _, e⟩
              have HW4 := Lib.hid (HWT.out w4 HB4.out)
              clear ho4 hb4
              go_wp2_with fail
              refine (HW4.out).mono ?_
              rintro e w5 ⟨rfl, hb5⟩
              have HB5 := Lib.hid (HB4.out.trans (hb5.mono HB4.out.size))
              clear hb5
              go_wp2_with fail
              go_ret
              exact ⟨rfl, HB5.out⟩
end
end Go.Proofs.YtmbonngjkgcijaaGreatDoor
