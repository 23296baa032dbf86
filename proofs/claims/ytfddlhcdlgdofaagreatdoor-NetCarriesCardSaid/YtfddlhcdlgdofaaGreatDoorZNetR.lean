/- The net: Move, Hold, Spoil where the number may not be; Twice where it is full. The net: a bit of a packet is turned. A law's own net, told by its packets and the sites that are cut off: each call, whatever its numbers. Calls of the law's, in a row that was given. -/
import Derived.Test.YtfddlhcdlgdofaaGreatDoorZNetL
import Derived.Test.YtfddlhcdlgdofaaGreatDoorZCrcF
import Derived.Test.YtfddlhcdlgdofaaGreatDoorZMefD
set_option linter.unusedSimpArgs false
set_option linter.unusedVariables false
set_option linter.unnecessarySimpa false
namespace Go.Proofs.YtfddlhcdlgdofaaGreatDoor
open Go.RowKit Go.Shelf
theorem codeOf_nam2 (s : ByteArray) {k : Lk} {r : List Lk} : codeOf (.nam s :: k :: r) = codeOf (k :: r) := rfl
/-- A wrapped error tells the same number. -/
theorem in_code {n : Int} {w0 w : World} {v : Value} (hG : Glob w) (s : ByteArray) (h : ErrN n w0 v w) : Calls Tryz.prog 74 #[.string s, v] w fun e w' => ∃ t u, e = .returned (.iface t u) ∧ Hid (Calls Tryz.prog 48 #[.iface t u] w' fun e w2 => e = .returned (.int .i64 n) ∧ Below w'.heap.size w' w2) ∧ Below w.heap.size w w' := by
  obtain ⟨⟨t, u, rfl⟩, ⟨ch, h1, h2, h3, h4⟩, _⟩ := h
  refine (in_some s t u w).mono ?_
  rintro e w' ⟨rfl, rfl⟩
  have hb := below_new (w := w) (.cells #[.iface t u, .string s] 200)
  refine ⟨_, _, rfl, Lib.hid ?_, hb⟩
  cases ch with
  | nil => cases h1
  | cons k r =>
    have hc := code_any (c := .nam s :: k :: r) (v := .iface 198 (.pointer (some ⟨w.heap.size, 0, none⟩))) (hG.below hb) ⟨by simp, _, _, rfl, alloc_at _ _, h1.below hb⟩ (numOk_cons (by simp) h2) (by rw [List.length_cons]; omega) (Below.refl _ _)
    rw [codeOf_nam2, h4] at hc
    exact hc
section
variable {w : World} {b : Nat} {most : Int} {v : Value} {L : List Pk} {mp : Nat} {C : List MapEntry} {c : Nat} {ro : Nat → Nat}
set_option maxRecDepth 100000 in
set_option maxHeartbeats 2000000 in
theorem nHold_arg (hG : Glob w) (h : NetAt w b most v L mp C c ro) {i : Nat} {x : Pk} (hi : L[i]? = some x) {k : Int} (hk : ¬ (0 ≤ k ∧ k ≤ 1000)) : Calls Tryz.prog 28 #[.pointer (some ⟨b, 0, none⟩), .int .i64 i, .int .i64 k] w fun e w' => e = .returned (.int .i64 2) ∧ Below w.heap.size w w' := by
  have HF := Lib.hid (nfind_ok h hi)
  have HW := Lib.hid (nwithin_no (w := w) hk)
  have HG := Lib.hid hG
  unfold Pk.ptr at HF
  clear h hi hG hk
  go_enter Tryz.func28, Tryz.ntmps28
  go_wp2_with fail
  refine (HF.out).mono ?_
  rintro e w1 ⟨rfl, rfl⟩
  go_wp2_with fail
  refine (HW.out).mono ?_
  rintro e w2 ⟨v2, rfl, he⟩
  have HB2 := Lib.hid he.2.2
  have HIN := Lib.hid (in_code (HG.out.below he.2.2) ⟨#[116, 105, 99, 107, 115]⟩ he)
  obtain ⟨⟨t2, u2, rfl⟩, _⟩ := he
  go_wp2_with fail
  refine (HIN.out).mono ?_
  rintro e w3 ⟨t, u, rfl, HC, hb3⟩
  have HB3 := Lib.hid (HB2.out.trans (hb3.mono HB2.out.size))
  clear hb3
  go_wp2_with fail
  refine (HC.out).mono ?_
  rintro e w4 ⟨rfl, hb4⟩
  have HB4 := Lib.hid (HB3.out.trans (hb4.mono HB3.out.size))
  clear hb4
  go_wp2_with fail
  go_ret
  exact ⟨rfl, HB4.out⟩
set_option maxRecDepth 100000 in
set_option maxHeartbeats 2000000 in
theorem nMove_arg (hG : Glob w) (h : NetAt w b most v L mp C c ro) {i : Nat} {x : Pk} (hi : L[i]? = some x) {k : Int} (hk : ¬ (0 ≤ k ∧ k < (L.length : Int))) : Calls Tryz.prog 27 #[.pointer (some ⟨b, 0, none⟩), .int .i64 i, .int .i64 k] w fun e w' => e = .returned (.int .i64 2) ∧ Below w.heap.size w w' := by
  have HF := Lib.hid (nfind_ok h hi)
  have HLE := Lib.hid (nlen_any h)
  have HW := Lib.hid (nwithin_no (w := w) (lo := 0) (hi := (L.length : Int) - 1) (n := k) (by omega))
  have hwr : IntKind.i64.wrap ((L.length : Int) - 1) = (L.length : Int) - 1 := IntWalk.i64_in _ (by have := h.few.1; omega)
  have HG := Lib.hid hG
  unfold Pk.ptr at HF
  clear h hi hG hk
  go_enter Tryz.func27, Tryz.ntmps27
  go_wp2_with fail
  refine (HF.out).mono ?_
  rintro e w1 ⟨rfl, rfl⟩
  go_wp2_with fail
  refine (HLE.out).mono ?_
  rintro e w2 ⟨rfl, rfl⟩
  go_wp2_with fail
  refine (HW.out).mono ?_
  rintro e w2 ⟨v2, rfl, he⟩
  have HB2 := Lib.hid he.2.2
  have HIN := Lib.hid (in_code (HG.out.below he.2.2) ⟨#[112, 108, 97, 99, 101]⟩ he)
  obtain ⟨⟨t2, u2, rfl⟩, _⟩ := he
  go_wp2_with fail
  refine (HIN.out).mono ?_
  rintro e w3 ⟨t, u, rfl, HC, hb3⟩
  have HB3 := Lib.hid (HB2.out.trans (hb3.mono HB2.out.size))
  clear hb3
  go_wp2_with fail
  refine (HC.out).mono ?_
  rintro e w4 ⟨rfl, hb4⟩
  have HB4 := Lib.hid (HB3.out.trans (hb4.mono HB3.out.size))
  clear hb4
  go_wp2_with fail
  go_ret
  exact ⟨rfl, HB4.out⟩
set_option maxRecDepth 100000 in
set_option maxHeartbeats 2000000 in
theorem nSpoil_arg (hG : Glob w) (h : NetAt w b most v L mp C c ro) {i : Nat} {x : Pk} (hi : L[i]? = some x) {k : Int} (hk : ¬ (0 ≤ k ∧ k < 8 * (x.bs.length : Int))) : Calls Tryz.prog 29 #[.pointer (some ⟨b, 0, none⟩), .int .i64 i, .int .i64 k] w fun e w' => e = .returned (.int .i64 2) ∧ Below w.heap.size w w' := by
  have HF := Lib.hid (nfind_ok h hi)
  have hx := List.mem_of_getElem? hi
  have hlen := (h.few.2 x hx).2
  have HW := Lib.hid (nwithin_no (w := w) (lo := 0) (hi := 8 * (x.bs.length : Int) - 1) (n := k) (by omega))
  have hwr0 : IntKind.i64.wrap (8 * (x.bs.length : Int)) = 8 * (x.bs.length : Int) := IntWalk.i64_in _ (by omega)
  have hwr : IntKind.i64.wrap (8 * (x.bs.length : Int) - 1) = 8 * (x.bs.length : Int) - 1 := IntWalk.i64_in _ (by omega)
  have hc := cell_of (h.pk x hx) 0
  unfold Pk.cells Pk.v at hc
  simp at hc
  have HG := Lib.hid hG
  unfold Pk.ptr at HF
  clear h hi hG hk hx hlen
  go_enter Tryz.func29, Tryz.ntmps29
  go_wp2_with fail
  refine (HF.out).mono ?_
  rintro e w1 ⟨rfl, rfl⟩
  go_wp2_with fail
  refine (HW.out).mono ?_
  rintro e w2 ⟨v2, rfl, he⟩
  have HB2 := Lib.hid he.2.2
  have HIN := Lib.hid (in_code (HG.out.below he.2.2) ⟨#[98, 105, 116]⟩ he)
  obtain ⟨⟨t2, u2, rfl⟩, _⟩ := he
  go_wp2_with fail
  refine (HIN.out).mono ?_
  rintro e w3 ⟨t, u, rfl, HC, hb3⟩
  have HB3 := Lib.hid (HB2.out.trans (hb3.mono HB2.out.size))
  clear hb3
  go_wp2_with fail
  refine (HC.out).mono ?_
  rintro e w4 ⟨rfl, hb4⟩
  have HB4 := Lib.hid (HB3.out.trans (hb4.mono HB3.out.size))
  clear hb4
  go_wp2_with fail
  go_ret
  exact ⟨rfl, HB4.out⟩
end
end Go.Proofs.YtfddlhcdlgdofaaGreatDoor

namespace Go.Proofs.YtfddlhcdlgdofaaGreatDoor
open Go.RowKit Go.Shelf
/-- A byte of which one bit was turned. -/
def flipU (x : UInt8) (j : Nat) : UInt8 := UInt8.ofNat (x.toNat ^^^ 2 ^ j)
theorem flipU_ok (x : UInt8) (j : Nat) (hj : j < 8) : bits .xor .u8 (x.toNat : Int) ((2 : Int) ^ j % 256) = ((flipU x j).toNat : Int) ∧ x ≠ flipU x j := by
  obtain ⟨y, h1, h2⟩ := flip x j hj
  have e : y = flipU x j := by
    have h3 : (2 : Int) ^ j % 256 = ((2 ^ j : Nat) : Int) := by
      match j, hj with
      | 0, _ | 1, _ | 2, _ | 3, _ | 4, _ | 5, _ | 6, _ | 7, _ => rfl
    have h4 : 2 ^ j < 256 := by
      match j, hj with
      | 0, _ | 1, _ | 2, _ | 3, _ | 4, _ | 5, _ | 6, _ | 7, _ => decide
    rw [h3, u8_xor_nat _ _ (UInt8.toNat_lt x) h4] at h1
    have h5 : y.toNat = x.toNat ^^^ 2 ^ j := by exact_mod_cast h1.symm
    unfold flipU
    rw [← h5]
    simp
  subst e
  exact ⟨h1, h2⟩
def spoilB (bs : List UInt8) (k : Nat) : List UInt8 := bs.set (k / 8) (flipU (bs[k / 8]?.getD 0) (k % 8))
theorem spoilB_len (bs : List UInt8) (k : Nat) : (spoilB bs k).length = bs.length := List.length_set
theorem decM_spoil {bs : List UInt8} {m : MsgV} (h : decM bs = some m) {k : Nat} (hk : k < 8 * bs.length) : decM (spoilB bs k) = none := by
  obtain ⟨rfl, hm, hi⟩ := decM_only h
  have hl := bodyM_le hm hi
  have hk8 : k / 8 < (frameB (bodyM m)).length := by
    have : encM m = frameB (bodyM m) := rfl
    rw [← this]; omega
  refine decM_no ?_
  have hx : (frameB (bodyM m))[k / 8] ≠ flipU ((frameB (bodyM m))[k / 8]) (k % 8) := (flipU_ok _ _ (by omega)).2
  have := set_one (l := bodyM m) (by omega) hk8 hx
  unfold wholeP
  refine decide_eq_false (fun hc => this ?_)
  have e : spoilB (encM m) k = (frameB (bodyM m)).set (k / 8) (flipU ((frameB (bodyM m))[k / 8]) (k % 8)) := by
    unfold spoilB encM
    rw [List.getElem?_eq_getElem hk8]
    rfl
  rw [← e]
  exact hc.2
section
variable {w : World} {b : Nat} {most : Int} {v : Value} {L : List Pk} {mp : Nat} {C : List MapEntry} {c : Nat} {ro : Nat → Nat}
set_option maxRecDepth 100000 in
set_option maxHeartbeats 4000000 in
theorem nSpoil_ok (hG : Glob w) (h0 : ro 1 = 0) (h : NetAt w b most v L mp C c ro) {i : Nat} {x : Pk} (hi : L[i]? = some x) {k : Nat} (hk : k < 8 * x.bs.length) : Calls Tryz.prog 29 #[.pointer (some ⟨b, 0, none⟩), .int .i64 i, .int .i64 k] w fun e w' => e = .returned (.int .i64 0) ∧ NetP w b most mp C c ro ((L.map Pk.p).set i (spoilB x.bs k, x.site, x.waits)) w' := by
  have HF := Lib.hid (nfind_ok h hi)
  have hx := List.mem_of_getElem? hi
  have hlen := (h.few.2 x hx).2
  have HW := Lib.hid (nwin_ok (lo := 0) (hi := 8 * (x.bs.length : Int) - 1) (n := (k : Int)) (by omega) (by omega) w)
  have HIN := Lib.hid (fun W => in_nil ⟨#[98, 105, 116]⟩ W)
  have hwr0 : IntKind.i64.wrap (8 * (x.bs.length : Int)) = 8 * (x.bs.length : Int) := IntWalk.i64_in _ (by omega)
  have hwr : IntKind.i64.wrap (8 * (x.bs.length : Int) - 1) = 8 * (x.bs.length : Int) - 1 := IntWalk.i64_in _ (by omega)
  have hpk := h.pk x hx
  have hc := cell_of hpk 0
  unfold Pk.cells Pk.v at hc
  simp at hc
  have hO := h.by_ x hx
  have hk8 : k / 8 < x.bs.length := by omega
  obtain ⟨y, hy⟩ : ∃ y, x.bs[k / 8]? = some y := ⟨_, List.getElem?_eq_getElem hk8⟩
  have hset := hO.set hk8 (flipU y (k % 8))
  have hgne : x.g ≠ x.pb := fun e => by have a1 := (h.rp x hx).1; have a2 := (h.rp x hx).2; rw [e, a1] at a2; cases a2
  have hT : Touch (fun q => q = x.g) w (w.setCell ⟨x.g, k / 8, none⟩ (.int .u8 ((flipU y (k % 8)).toNat : Int))) := (Touch.refl (fun q => q = x.g) w).setCell ⟨x.g, k / 8, none⟩ (fun _ => rfl) _
  have hsp : x.bs.set (k / 8) (flipU y (k % 8)) = spoilB x.bs k := by unfold spoilB; rw [hy]; rfl
  rw [hsp] at hset
  have hnet := h.edit (x' := { x with bs := spoilB x.bs k }) hi rfl rfl rfl hT (fun _ e => .inr e) ((hT.block _ (heap_lt hpk) (fun e => hgne e.symm)).trans (by
    rw [hpk]
    unfold Pk.cells Pk.v
    simp only [spoilB_len])) hset ⟨fun e => by
      have := congrArg List.length e
      rw [spoilB_len] at this
      exact (h.few.2 x hx).1 (List.length_eq_zero_iff.1 this), by rw [spoilB_len]; exact hlen⟩
  have hst : Step w (w.setCell ⟨x.g, k / 8, none⟩ (.int .u8 ((flipU y (k % 8)).toNat : Int))) ro ro := Step.same hT (fun q e => by rw [e, (h.rp x hx).2]; decide)
  have HN : Hid (NetP w b most mp C c ro ((L.map Pk.p).set i (spoilB x.bs k, x.site, x.waits)) (w.setCell ⟨x.g, k / 8, none⟩ (.int .u8 ((flipU y (k % 8)).toNat : Int)))) := Lib.hid ⟨v, ro, _, hnet, hst, map_set L i _⟩
  have HC := Lib.hid (codeNil ((hG.step h0 hst).below (below_drew (Below.refl _ _))))
  have HC2 : Hid ((w.setCell ⟨x.g, k / 8, none⟩ (.int .u8 ((flipU y (k % 8)).toNat : Int))).drew.cell? ⟨x.pb, 0, none⟩ = some (.slice (some ⟨x.g, 0, none⟩) x.bs.length x.cap)) := Lib.hid ((World.cell?_setCell_other _ _ _ _ (fun e => hgne (by first | exact congrArg Addr.block e | exact (congrArg Addr.block e).symm))).trans hc)
  have hcell := hO.holds (k / 8) y hy
  have hfz := (hO.there (k / 8) (Nat.lt_of_lt_of_le hk8 hO.le)).2
  have hfl := (flipU_ok y (k % 8) (by omega)).1
  have hq5 : IntKind.i64.wrap ((k : Int) / 8) = ((k / 8 : Nat) : Int) := by rw [IntWalk.i64_in _ (by omega)]; omega
  have hq9 : (k : Int) % 8 = ((k % 8 : Nat) : Int) := by omega
  have hr8 : k % 8 < 8 := by omega
  have hcap := hO.le
  unfold Pk.ptr at HF
  generalize k / 8 = q at *
  generalize k % 8 = r at *
  have hq8I : (q : Int) < (x.bs.length : Int) := by omega
  clear h hi hG hx hlen hpk hO hset hgne hT hsp hnet hst hy
  go_enter Tryz.func29, Tryz.ntmps29
  go_wp2_with fail
  refine (HF.out).mono ?_
  rintro e w1 ⟨rfl, rfl⟩
  go_wp2_with fail
  refine (HW.out).mono ?_
  rintro e w2 ⟨rfl, rfl⟩
  go_wp2_with fail
  refine (HIN.out _).mono ?_
  rintro e w3 ⟨rfl, rfl⟩
  go_wp2_with fail
  refine wp_only ?_
  refine wp_region_held_drew (S := fun W => W.cell? ⟨x.pb, 0, none⟩ = some (.slice (some ⟨x.g, 0, none⟩) x.bs.length x.cap)) (by kernel_rfl) hc (fun hHeld => ?_)
  refine wpAnyH_take (i := 0) (oi := { dst := some 29, op := Op.move (Operand.tmp 7), type := 120, pos := "packet.go:80", after := #[], guard := none }) (v := ?vv1) rfl (by kernel_rfl) (by kernel_rfl) (by kernel_rfl) (fun _ _ _ h => h) ?hy1 (by assumption) ?rest1
  case hy1 => (refine Or.inl ⟨by rfl, ?_⟩; intro W hSw; (try dsimp only at hSw); go_simp; (try with_reducible rfl))
  try simp only [Act.put, List.setIfInBounds_toArray, List.set_cons_zero, List.set_cons_succ]
  refine wpAnyH_take (i := 1) (oi := { dst := some 30, op := Op.nilCheck (Operand.tmp 29), type := 0, pos := "packet.go:80", after := #[{ on := 0, ground := Ground.data }], guard := none }) (v := ?vv2) rfl (by kernel_rfl) (by kernel_rfl) (by kernel_rfl) (fun _ _ _ h => h) ?hy2 (by assumption) ?rest2
  case hy2 => (refine Or.inl ⟨by rfl, ?_⟩; intro W hSw; (try dsimp only at hSw); go_simp; (try with_reducible rfl))
  try simp only [Act.put, List.setIfInBounds_toArray, List.set_cons_zero, List.set_cons_succ]
  refine wpAnyH_take (i := 2) (oi := { dst := some 31, op := Op.fieldAddr 125 (Operand.tmp 30) 0, type := 0, pos := "packet.go:80", after := #[{ on := 1, ground := Ground.data }], guard := none }) (v := ?vv3) rfl (by kernel_rfl) (by kernel_rfl) (by kernel_rfl) (fun _ _ _ h => h) ?hy3 (by assumption) ?rest3
  case hy3 => (refine Or.inl ⟨by rfl, ?_⟩; intro W hSw; (try dsimp only at hSw); go_simp; (try with_reducible rfl))
  try simp only [Act.put, List.setIfInBounds_toArray, List.set_cons_zero, List.set_cons_succ]
  refine wpAnyH_take (i := 3) (oi := { dst := some 32, op := Op.load 54 (Operand.tmp 31), type := 54, pos := "packet.go:80", after := #[{ on := 2, ground := Ground.data }], guard := none }) (v := ?vv4) rfl (by kernel_rfl) (by kernel_rfl) (by kernel_rfl) (fun _ _ _ h => h) ?hy4 (by assumption) ?rest4
  case hy4 => (refine Or.inl ⟨by rfl, ?_⟩; intro W hSw; (try dsimp only at hSw); go_simp; (try with_reducible rfl))
  try simp only [Act.put, List.setIfInBounds_toArray, List.set_cons_zero, List.set_cons_succ]
  refine wpAnyH_take (i := 4) (oi := { dst := some 33, op := Op.move (Operand.tmp 2), type := 3, pos := "packet.go:80", after := #[], guard := none }) (v := ?vv5) rfl (by kernel_rfl) (by kernel_rfl) (by kernel_rfl) (fun _ _ _ h => h) ?hy5 (by assumption) ?rest5
  case hy5 => (refine Or.inl ⟨by rfl, ?_⟩; intro W hSw; (try dsimp only at hSw); go_simp; (try with_reducible rfl))
  try simp only [Act.put, List.setIfInBounds_toArray, List.set_cons_zero, List.set_cons_succ]
  refine wpAnyH_take (i := 5) (oi := { dst := some 34, op := Op.binOp BinOp.quo 3 (Operand.tmp 33) (Operand.const (Value.int IntKind.i64 8)) 3, type := 3, pos := "packet.go:80", after := #[{ on := 4, ground := Ground.data }], guard := none }) (v := (.int .i64 (q : Int))) rfl (by kernel_rfl) (by kernel_rfl) (by kernel_rfl) (fun _ _ _ h => h) ?hy6 (by assumption) ?rest6
  case hy6 => ((refine Or.inl ⟨by rfl, ?_⟩; intro W hSw; (try dsimp only at hSw); go_simp; (try exact hq5)))
  try simp only [Act.put, List.setIfInBounds_toArray, List.set_cons_zero, List.set_cons_succ]
  refine wpAnyH_take (i := 6) (oi := { dst := some 35, op := Op.indexAddr 54 (Operand.tmp 32) (Operand.tmp 34), type := 0, pos := "packet.go:80", after := #[{ on := 3, ground := Ground.data }, { on := 5, ground := Ground.data }], guard := none }) (v := ?vv7) rfl (by kernel_rfl) (by kernel_rfl) (by kernel_rfl) (fun _ _ _ h => h) ?hy7 (by assumption) ?rest7
  case hy7 => (refine Or.inl ⟨by rfl, ?_⟩; intro W hSw; (try dsimp only at hSw); go_simp; (try with_reducible rfl))
  try simp only [Act.put, List.setIfInBounds_toArray, List.set_cons_zero, List.set_cons_succ]
  refine wpAnyH_take (i := 8) (oi := { dst := some 37, op := Op.move (Operand.tmp 2), type := 3, pos := "packet.go:80", after := #[], guard := none }) (v := ?vv8) rfl (by kernel_rfl) (by kernel_rfl) (by kernel_rfl) (fun _ _ _ h => h) ?hy8 (by assumption) ?rest8
  case hy8 => (refine Or.inl ⟨by rfl, ?_⟩; intro W hSw; (try dsimp only at hSw); go_simp; (try with_reducible rfl))
  try simp only [Act.put, List.setIfInBounds_toArray, List.set_cons_zero, List.set_cons_succ]
  refine wpAnyH_take (i := 9) (oi := { dst := some 38, op := Op.binOp BinOp.rem 3 (Operand.tmp 37) (Operand.const (Value.int IntKind.i64 8)) 3, type := 3, pos := "packet.go:80", after := #[{ on := 8, ground := Ground.data }], guard := none }) (v := (.int .i64 (r : Int))) rfl (by kernel_rfl) (by kernel_rfl) (by kernel_rfl) (fun _ _ _ h => h) ?hy9 (by assumption) ?rest9
  case hy9 => ((refine Or.inl ⟨by rfl, ?_⟩; intro W hSw; (try dsimp only at hSw); go_simp; (try exact hq9)))
  try simp only [Act.put, List.setIfInBounds_toArray, List.set_cons_zero, List.set_cons_succ]
  refine wpAnyH_take (i := 10) (oi := { dst := some 39, op := Op.binOp BinOp.shl 5 (Operand.const (Value.int IntKind.u8 1)) (Operand.tmp 38) 3, type := 5, pos := "packet.go:80", after := #[{ on := 9, ground := Ground.data }], guard := none }) (v := ?vv10) rfl (by kernel_rfl) (by kernel_rfl) (by kernel_rfl) (fun _ _ _ h => h) ?hy10 (by assumption) ?rest10
  case hy10 => (refine Or.inl ⟨by rfl, ?_⟩; intro W hSw; (try dsimp only at hSw); go_simp; (try with_reducible rfl))
  try simp only [Act.put, List.setIfInBounds_toArray, List.set_cons_zero, List.set_cons_succ]
  refine wpAnyH_ready (rs := [7]) (by kernel_rfl) (by simp) ?_
  refine AllReadyH.cons (o := { dst := some 36, op := Op.load 5 (Operand.tmp 35), type := 5, pos := "packet.go:80", after := #[{ on := 6, ground := Ground.data }], guard := none }) rfl (fun K hK => ?step11) ?more11
  case more11 => exact AllReadyH.nil
  ((go_simp; go_wp2_with fail))
  refine hK.out _ _ ?hS11 (fun hHeld => ?rr11)
  case hS11 => (exact hc)
  clear hK K
  try simp only [Act.put, List.setIfInBounds_toArray, List.set_cons_zero, List.set_cons_succ]
  refine wpAnyH_take (i := 11) (oi := { dst := some 40, op := Op.binOp BinOp.xor 5 (Operand.tmp 36) (Operand.tmp 39) 5, type := 5, pos := "packet.go:80", after := #[{ on := 7, ground := Ground.data }, { on := 10, ground := Ground.data }], guard := none }) (v := (.int .u8 ((flipU y r).toNat : Int))) rfl (by kernel_rfl) (by kernel_rfl) (by kernel_rfl) (fun _ _ _ h => h) ?hy12 (by assumption) ?rest12
  case hy12 => ((refine Or.inl ⟨by rfl, ?_⟩; intro W hSw; (try dsimp only at hSw); go_simp; (try exact hfl)))
  try simp only [Act.put, List.setIfInBounds_toArray, List.set_cons_zero, List.set_cons_succ]
  refine wpAnyH_take (i := 12) (oi := { dst := some 41, op := Op.indexAddr 54 (Operand.tmp 32) (Operand.tmp 34), type := 0, pos := "packet.go:80", after := #[{ on := 3, ground := Ground.data }, { on := 5, ground := Ground.data }, { on := 0, ground := Ground.phase }, { on := 1, ground := Ground.phase }, { on := 2, ground := Ground.phase }, { on := 3, ground := Ground.phase }, { on := 4, ground := Ground.phase }, { on := 5, ground := Ground.phase }, { on := 6, ground := Ground.phase }, { on := 7, ground := Ground.phase }, { on := 8, ground := Ground.phase }, { on := 9, ground := Ground.phase }, { on := 10, ground := Ground.phase }, { on := 11, ground := Ground.phase }], guard := none }) (v := ?vv13) rfl (by kernel_rfl) (by kernel_rfl) (by kernel_rfl) (fun _ _ _ h => h) ?hy13 (by assumption) ?rest13
  case hy13 => (refine Or.inl ⟨by rfl, ?_⟩; intro W hSw; (try dsimp only at hSw); go_simp; (try with_reducible rfl))
  try simp only [Act.put, List.setIfInBounds_toArray, List.set_cons_zero, List.set_cons_succ]
  have hc2 : (w2.setCell ⟨x.g, q, none⟩ (.int .u8 ((flipU y r).toNat : Int))).drew.cell? ⟨x.pb, 0, none⟩ = some (.slice (some ⟨x.g, 0, none⟩) x.bs.length x.cap) := HC2.out
  refine wpAnyH_ready (rs := [13]) (by kernel_rfl) (by simp) ?_
  refine AllReadyH.cons (o := { dst := none, op := Op.store 5 (Operand.tmp 41) (Operand.tmp 40), type := 0, pos := "packet.go:80", after := #[{ on := 12, ground := Ground.data }, { on := 11, ground := Ground.data }, { on := 0, ground := Ground.phase }, { on := 1, ground := Ground.phase }, { on := 2, ground := Ground.phase }, { on := 3, ground := Ground.phase }, { on := 4, ground := Ground.phase }, { on := 5, ground := Ground.phase }, { on := 6, ground := Ground.phase }, { on := 7, ground := Ground.phase }, { on := 8, ground := Ground.phase }, { on := 9, ground := Ground.phase }, { on := 10, ground := Ground.phase }, { on := 11, ground := Ground.phase }], guard := none }) rfl (fun K hK => ?step14) ?more14
  case more14 => exact AllReadyH.nil
  ((go_simp; go_wp2_with fail))
  refine hK.out _ _ ?hS14 (fun hHeld => ?rr14)
  case hS14 => (exact hc2)
  clear hK K
  try simp only [Act.put, List.setIfInBounds_toArray, List.set_cons_zero, List.set_cons_succ]
  refine wpAnyH_done (by kernel_rfl) ?_ _
  clear hHeld
  dsimp only [onlyN]
  have HD := Lib.hid (HN.out.after (below_drew (Below.refl _ _)))
  generalize (w2.setCell ⟨x.g, q, none⟩ (.int .u8 ((flipU y r).toNat : Int))).drew = W4 at *
  go_wp2_with fail
  refine (HC.out).mono ?_
  rintro e w5 ⟨rfl, hb⟩
  have HN5 := Lib.hid (HD.out.after hb)
  clear hb
  go_wp2_with fail
  go_ret
  exact ⟨rfl, HN5.out⟩
end
end Go.Proofs.YtfddlhcdlgdofaaGreatDoor

namespace Go.Proofs.YtfddlhcdlgdofaaGreatDoor
open Go.RowKit Go.Shelf
/-- A net made since w0, the sites of C cut off; F: blocks that are none of its. -/
def NC (w0 W : World) (b : Nat) (most : Int) (P : List P3) (C : List Int) (F : Nat → Prop) : Prop :=
  ∃ v ro L mp E c, NetAt W b most v L mp E c ro ∧ L.map Pk.p = P ∧ E.map (·.key) = C.map (Value.int .i64 ·) ∧ (∀ k, ro k ≠ 0 → w0.heap.size ≤ k ∧ ¬ F k) ∧ Below w0.heap.size w0 W ∧ ∀ k, F k → k < W.heap.size
/-- What a call of the net leaves. -/
def NCP (w0 w : World) (b : Nat) (most : Int) (P : List P3) (C : List Int) (F : Nat → Prop) (w' : World) : Prop := NC w0 w' b most P C F ∧ Touch (fun k => w0.heap.size ≤ k ∧ ¬ F k) w w'
def inP (P : List P3) (i : Int) : Prop := 0 ≤ i ∧ i < (P.length : Int)
instance (P : List P3) (i : Int) : Decidable (inP P i) := inferInstanceAs (Decidable (_ ∧ _))
theorem inP_get {P : List P3} {i : Int} (h : inP P i) : ∃ (j : Nat) (p : P3), i = (j : Int) ∧ P[j]? = some p ∧ j < P.length := by
  obtain ⟨j, rfl⟩ := Int.eq_ofNat_of_zero_le h.1
  have := h.2
  exact ⟨j, P[j]'(by omega), rfl, List.getElem?_eq_getElem (by omega), by omega⟩
theorem keys_not {E : List MapEntry} {C : List Int} {s : Int} (h : E.map (·.key) = C.map (Value.int .i64 ·)) (hs : s ∉ C) : ∀ e ∈ E, e.key ≠ .int .i64 s := fun e he q => by
  have h1 : e.key ∈ E.map (·.key) := List.mem_map_of_mem he
  rw [h] at h1
  obtain ⟨x, hx, hxe⟩ := List.mem_map.1 h1
  rw [← hxe] at q
  cases q
  exact hs hx
section
variable {w0 w : World} {b : Nat} {most : Int} {P : List P3} {C : List Int} {F : Nat → Prop}
theorem NC.below (h : NC w0 w b most P C F) {W : World} (hb : Below w.heap.size w W) : NC w0 W b most P C F := by
  obtain ⟨v, ro, L, mp, E, c, h1, h2, hk, h3, h4, h5⟩ := h
  exact ⟨v, ro, L, mp, E, c, h1.below hb, h2, hk, h3, h4.trans (hb.mono h4.size), fun k hk => Nat.lt_of_lt_of_le (h5 k hk) hb.size⟩
theorem NC.pbelow (h : NC w0 w b most P C F) {W : World} (hb : Below w.heap.size w W) : NCP w0 w b most P C F W := ⟨h.below hb, .of_below hb⟩
theorem NC.bel (h : NC w0 w b most P C F) : Below w0.heap.size w0 w := by
  obtain ⟨_, _, _, _, _, _, _, _, _, _, h4, _⟩ := h
  exact h4
theorem NCP.after {W W' : World} (h : NCP w0 w b most P C F W) (hb : Below W.heap.size W W') : NCP w0 w b most P C F W' := ⟨h.1.below hb, h.2.after hb⟩
theorem NC.next {v : Value} {ro : Nat → Nat} {L : List Pk} {mp c : Nat} {E : List MapEntry} (h1 : NetAt w b most v L mp E c ro) (hk : E.map (·.key) = C.map (Value.int .i64 ·)) (h3 : ∀ k, ro k ≠ 0 → w0.heap.size ≤ k ∧ ¬ F k) (h4 : Below w0.heap.size w0 w) (h5 : ∀ k, F k → k < w.heap.size) {P' : List P3} {W : World} (hp : NetP w b most mp E c ro P' W) : NCP w0 w b most P' C F W := by
  obtain ⟨v', ro', L', q1, q2, q3⟩ := hp
  have hT : Touch (fun k => w0.heap.size ≤ k ∧ ¬ F k) w W := q2.1.mono (fun k _ e => h3 k e)
  refine ⟨⟨v', ro', L', mp, E, c, q1, q3, hk, fun k hk => ?_, h4.trans (hT.below (fun i e => e.1) h4.size), fun k hk => Nat.lt_of_lt_of_le (h5 k hk) hT.size⟩, hT⟩
  by_cases hlt : k < w.heap.size
  · rw [q2.2 k hlt] at hk; exact h3 k hk
  · exact ⟨Nat.le_trans h4.size (Nat.le_of_not_lt hlt), fun e => hlt (h5 k e)⟩
theorem NC.more (h : NC w0 w b most P C F) {G : Nat → Prop} (hG : ∀ k, G k → F k) : NC w0 w b most P C G := by
  obtain ⟨v, ro, L, mp, E, c, h1, h2, hk, h3, h4, h5⟩ := h
  exact ⟨v, ro, L, mp, E, c, h1, h2, hk, fun k hk => ⟨(h3 k hk).1, fun e => (h3 k hk).2 (hG k e)⟩, h4, fun k hk => h5 k (hG k hk)⟩
theorem NC.add (h : NC w0 w b most P C F) {W : World} (hb : Below w.heap.size w W) : NC w0 W b most P C (fun k => F k ∨ (w.heap.size ≤ k ∧ k < W.heap.size)) := by
  obtain ⟨v, ro, L, mp, E, c, h1, h2, hk, h3, h4, h5⟩ := h
  refine ⟨v, ro, L, mp, E, c, h1.below hb, h2, hk, fun k hk => ⟨(h3 k hk).1, fun e => ?_⟩, h4.trans (hb.mono h4.size), fun k hk => ?_⟩
  · rcases e with e | e
    · exact (h3 k hk).2 e
    · have := h1.lt k hk; omega
  · rcases hk with e | e
    · exact Nat.lt_of_lt_of_le (h5 k e) hb.size
    · exact e.2
/-- The net beside a change of blocks that are none of its. -/
theorem NC.keepF (h : NC w0 w b most P C F) {S : Nat → Prop} {W : World} (hT : Touch S w W) (hS : ∀ k, S k → F k ∧ w0.heap.size ≤ k) : NC w0 W b most P C F := by
  obtain ⟨v, ro, L, mp, E, c, h1, h2, hk, h3, h4, h5⟩ := h
  refine ⟨v, ro, L, mp, E, c, h1.keep hT (fun k e => ?_), h2, hk, h3, h4.trans (hT.below (fun i e => (hS i e).2) h4.size), fun k hk => Nat.lt_of_lt_of_le (h5 k hk) hT.size⟩
  by_cases q : ro k = 0
  · exact q
  · exact ((h3 k q).2 (hS k e).1).elim
theorem NC.grown {sv : Value} (h : NC w0 w b most P C F) (hown : ∀ k, sv.ownBlock = some k → F k ∧ w0.heap.size ≤ k) {W1 : World} (hgr : w.grownBy W1 sv.ownBlock) : NC w0 W1 b most P C (fun k => F k ∨ (w.heap.size ≤ k ∧ k < W1.heap.size)) := by
  have hT2 : Touch (fun k => sv.ownBlock = some k) w W1 := (Touch.refl _ _).grown hgr (fun k e _ => e)
  obtain ⟨v, ro, L, mp, E, c, h1, h2, hke, h3, h4, h5⟩ := h
  refine ⟨v, ro, L, mp, E, c, h1.keep hT2 (fun k e => ?_), h2, hke, fun k hk => ⟨(h3 k hk).1, fun e => ?_⟩, h4.trans (hT2.below (fun i e => (hown i e).2) h4.size), fun k hk => ?_⟩
  · by_cases q : ro k = 0
    · exact q
    · exact ((h3 k q).2 (hown k e).1).elim
  · rcases e with e | e
    · exact (h3 k hk).2 e
    · have := h1.lt k hk; omega
  · rcases hk with e | e
    · exact Nat.lt_of_lt_of_le (h5 k e) hT2.size
    · exact e.2
theorem nc_new {most : Int} (h1 : 1 ≤ most) (h2 : most ≤ 1024) : Calls Tryz.prog 11 #[.int .i64 most] w fun e w' => ∃ b, e = .returned (.tuple #[.pointer (some ⟨b, 0, none⟩), .int .i64 0]) ∧ NC w w' b most [] [] (fun _ => False) := by
  refine (nnew_ok h1 h2).mono ?_
  rintro e w' ⟨b, mp, ro, rfl, hn, hr, hb⟩
  exact ⟨b, rfl, _, ro, [], mp, [], 0, hn, rfl, rfl, fun k hk => ⟨hr k hk, fun e => e⟩, hb, fun k e => e.elim⟩
theorem nc_len (h : NC w0 w b most P C F) : Calls Tryz.prog 16 #[.pointer (some ⟨b, 0, none⟩)] w fun e w' => e = .returned (.int .i64 P.length) ∧ w' = w := by
  obtain ⟨v, ro, L, mp, E, c, h1, rfl, hk, h3, h4, h5⟩ := h
  rw [List.length_map]
  exact nlen_any h1
theorem nc_few (h : NC w0 w b most P C F) : P.length ≤ 1024 ∧ ∀ p ∈ P, p.1 ≠ [] ∧ p.1.length ≤ 20000 := by
  obtain ⟨v, ro, L, mp, E, c, h1, rfl, hk, h3, h4, h5⟩ := h
  refine ⟨by rw [List.length_map]; exact h1.few.1, fun p hp => ?_⟩
  obtain ⟨x, hx, rfl⟩ := List.mem_map.1 hp
  exact h1.few.2 x hx
theorem nc_drop (hG : Glob w0) (h : NC w0 w b most P C F) (i : Int) : Calls Tryz.prog 25 #[.pointer (some ⟨b, 0, none⟩), .int .i64 i] w fun e w' => e = .returned (.int .i64 (if inP P i then 0 else 3)) ∧ NCP w0 w b most (if inP P i then P.eraseIdx i.toNat else P) C F w' := by
  have h' := h
  obtain ⟨v, ro, L, mp, E, c, h1, rfl, hk, h3, h4, h5⟩ := h
  by_cases hi : inP (L.map Pk.p) i
  · rw [if_pos hi, if_pos hi]
    obtain ⟨j, p, rfl, hj, hl⟩ := inP_get hi
    rw [List.length_map] at hl
    refine (nDrop_ok (hG.below h4) (old_errT hG h3) h1 hl).mono ?_
    rintro e w' ⟨rfl, hp⟩
    exact ⟨rfl, NC.next h1 hk h3 h4 h5 hp⟩
  · rw [if_neg hi, if_neg hi]
    refine (nDrop_no (hG.below h4) (nfind_no h1 (fun e => hi ⟨e.1, by rw [List.length_map]; exact e.2⟩))).mono ?_
    rintro e w' ⟨rfl, hb⟩
    exact ⟨rfl, h'.pbelow hb⟩
/-- What a doubled packet leaves. -/
def dupL (P : List P3) (j : Nat) : List P3 := match P[j]? with
  | some p => P ++ [(p.1, p.2.1, 0)]
  | none => P
theorem nc_twice (hG : Glob w0) (h : NC w0 w b most P C F) (hm : most ≤ 1024) (hl : (P.length : Int) < most) (i : Int) : Calls Tryz.prog 26 #[.pointer (some ⟨b, 0, none⟩), .int .i64 i] w fun e w' => e = .returned (.int .i64 (if inP P i then 0 else 3)) ∧ NCP w0 w b most (if inP P i then dupL P i.toNat else P) C F w' := by
  have h' := h
  obtain ⟨v, ro, L, mp, E, c, h1, rfl, hk, h3, h4, h5⟩ := h
  rw [List.length_map] at hl
  by_cases hi : inP (L.map Pk.p) i
  · rw [if_pos hi, if_pos hi]
    obtain ⟨j, p, rfl, hj, hjl⟩ := inP_get hi
    obtain ⟨x, hx, rfl⟩ := get_p hj
    refine (nTwice_ok (hG.below h4) (old_errT hG h3) h1 hm hx hl).mono ?_
    rintro e w' ⟨rfl, hp⟩
    refine ⟨rfl, NC.next h1 hk h3 h4 h5 ?_⟩
    rw [Int.toNat_natCast, dupL, hj]
    exact hp
  · rw [if_neg hi, if_neg hi]
    refine (nTwice_no (hG.below h4) (nfind_no h1 (fun e => hi ⟨e.1, by rw [List.length_map]; exact e.2⟩))).mono ?_
    rintro e w' ⟨rfl, hb⟩
    exact ⟨rfl, h'.pbelow hb⟩
/-- What a moved packet leaves. -/
def moveL (P : List P3) (j k : Nat) : List P3 := match P[j]? with
  | some p => (P.eraseIdx j).insertIdx k p
  | none => P
theorem nc_move (hG : Glob w0) (h : NC w0 w b most P C F) (i k : Int) : Calls Tryz.prog 27 #[.pointer (some ⟨b, 0, none⟩), .int .i64 i, .int .i64 k] w fun e w' => e = .returned (.int .i64 (if inP P i then (if inP P k then 0 else 2) else 3)) ∧ NCP w0 w b most (if inP P i ∧ inP P k then moveL P i.toNat k.toNat else P) C F w' := by
  have h' := h
  obtain ⟨v, ro, L, mp, E, c, h1, rfl, hke, h3, h4, h5⟩ := h
  by_cases hi : inP (L.map Pk.p) i
  · rw [if_pos hi]
    obtain ⟨j, p, rfl, hj, hjl⟩ := inP_get hi
    obtain ⟨x, hx, rfl⟩ := get_p hj
    by_cases hk : inP (L.map Pk.p) k
    · rw [if_pos hk, if_pos ⟨hi, hk⟩]
      obtain ⟨q, _, rfl, _, hql⟩ := inP_get hk
      rw [List.length_map] at hql
      refine (nMove_ok (hG.below h4) (old_errT hG h3) h1 hx hql).mono ?_
      rintro e w' ⟨rfl, hp⟩
      refine ⟨rfl, NC.next h1 hke h3 h4 h5 ?_⟩
      rw [Int.toNat_natCast, Int.toNat_natCast, moveL, hj]
      exact hp
    · rw [if_neg hk, if_neg (fun e => hk e.2)]
      refine (nMove_arg (hG.below h4) h1 hx (fun e => hk ⟨e.1, by rw [List.length_map]; exact e.2⟩)).mono ?_
      rintro e w' ⟨rfl, hb⟩
      exact ⟨rfl, h'.pbelow hb⟩
  · rw [if_neg hi, if_neg (fun e => hi e.1)]
    refine (nMove_no (hG.below h4) (nfind_no h1 (fun e => hi ⟨e.1, by rw [List.length_map]; exact e.2⟩))).mono ?_
    rintro e w' ⟨rfl, hb⟩
    exact ⟨rfl, h'.pbelow hb⟩
/-- What a packet that is held leaves. -/
def holdL (P : List P3) (j : Nat) (k : Int) : List P3 := match P[j]? with
  | some p => P.set j (p.1, p.2.1, k)
  | none => P
theorem nc_hold (hG : Glob w0) (h : NC w0 w b most P C F) (i k : Int) : Calls Tryz.prog 28 #[.pointer (some ⟨b, 0, none⟩), .int .i64 i, .int .i64 k] w fun e w' => e = .returned (.int .i64 (if inP P i then (if 0 ≤ k ∧ k ≤ 1000 then 0 else 2) else 3)) ∧ NCP w0 w b most (if inP P i ∧ 0 ≤ k ∧ k ≤ 1000 then holdL P i.toNat k else P) C F w' := by
  have h' := h
  obtain ⟨v, ro, L, mp, E, c, h1, rfl, hke, h3, h4, h5⟩ := h
  by_cases hi : inP (L.map Pk.p) i
  · rw [if_pos hi]
    obtain ⟨j, p, rfl, hj, hjl⟩ := inP_get hi
    obtain ⟨x, hx, rfl⟩ := get_p hj
    by_cases hk : 0 ≤ k ∧ k ≤ 1000
    · rw [if_pos hk, if_pos ⟨hi, hk⟩]
      refine (nHold_ok (hG.below h4) (old_errT hG h3) h1 hx hk).mono ?_
      rintro e w' ⟨rfl, hp⟩
      refine ⟨rfl, NC.next h1 hke h3 h4 h5 ?_⟩
      rw [Int.toNat_natCast, holdL, hj]
      exact hp
    · rw [if_neg hk, if_neg (fun e => hk e.2)]
      refine (nHold_arg (hG.below h4) h1 hx hk).mono ?_
      rintro e w' ⟨rfl, hb⟩
      exact ⟨rfl, h'.pbelow hb⟩
  · rw [if_neg hi, if_neg (fun e => hi e.1)]
    refine (nHold_no (hG.below h4) (nfind_no h1 (fun e => hi ⟨e.1, by rw [List.length_map]; exact e.2⟩))).mono ?_
    rintro e w' ⟨rfl, hb⟩
    exact ⟨rfl, h'.pbelow hb⟩
/-- How many bits a packet has; what a packet of which one is turned leaves. -/
def bitsP (P : List P3) (j : Nat) : Int := match P[j]? with
  | some p => 8 * (p.1.length : Int)
  | none => 0
def spoilL (P : List P3) (j k : Nat) : List P3 := match P[j]? with
  | some p => P.set j (spoilB p.1 k, p.2.1, p.2.2)
  | none => P
theorem nc_spoil (hG : Glob w0) (h : NC w0 w b most P C F) (i k : Int) : Calls Tryz.prog 29 #[.pointer (some ⟨b, 0, none⟩), .int .i64 i, .int .i64 k] w fun e w' => e = .returned (.int .i64 (if inP P i then (if 0 ≤ k ∧ k < bitsP P i.toNat then 0 else 2) else 3)) ∧ NCP w0 w b most (if inP P i ∧ 0 ≤ k ∧ k < bitsP P i.toNat then spoilL P i.toNat k.toNat else P) C F w' := by
  have h' := h
  obtain ⟨v, ro, L, mp, E, c, h1, rfl, hke, h3, h4, h5⟩ := h
  by_cases hi : inP (L.map Pk.p) i
  · rw [if_pos hi]
    obtain ⟨j, p, rfl, hj, hjl⟩ := inP_get hi
    obtain ⟨x, hx, rfl⟩ := get_p hj
    have hbit : bitsP (L.map Pk.p) j = 8 * (x.bs.length : Int) := by unfold bitsP; rw [hj]; rfl
    rw [Int.toNat_natCast, hbit]
    by_cases hk : 0 ≤ k ∧ k < 8 * (x.bs.length : Int)
    · rw [if_pos hk, if_pos ⟨hi, hk⟩]
      obtain ⟨q, rfl⟩ := Int.eq_ofNat_of_zero_le hk.1
      have := hk.2
      refine (nSpoil_ok (hG.below h4) (old_errT hG h3) h1 hx (k := q) (by omega)).mono ?_
      rintro e w' ⟨rfl, hp⟩
      refine ⟨rfl, NC.next h1 hke h3 h4 h5 ?_⟩
      rw [Int.toNat_natCast, spoilL, hj]
      exact hp
    · rw [if_neg hk, if_neg (fun e => hk e.2)]
      refine (nSpoil_arg (hG.below h4) h1 hx hk).mono ?_
      rintro e w' ⟨rfl, hb⟩
      exact ⟨rfl, h'.pbelow hb⟩
  · rw [if_neg hi, if_neg (fun e => hi e.1)]
    refine (nSpoil_no (hG.below h4) (nfind_no h1 (fun e => hi ⟨e.1, by rw [List.length_map]; exact e.2⟩))).mono ?_
    rintro e w' ⟨rfl, hb⟩
    exact ⟨rfl, h'.pbelow hb⟩
/-- The bytes of a packet. -/
def bytesL (P : List P3) (i : Int) : List UInt8 := if inP P i then ((P[i.toNat]?.map (·.1)).getD []) else []
theorem nc_packet (h : NC w0 w b most P C F) (i : Int) : Calls Tryz.prog 21 #[.pointer (some ⟨b, 0, none⟩), .int .i64 i] w fun e w' => ∃ v', e = .returned v' ∧ OwnBy w' w.heap.size v' (bytesL P i) ∧ Below w.heap.size w w' := by
  obtain ⟨v, ro, L, mp, E, c, h1, rfl, hke, h3, h4, h5⟩ := h
  unfold bytesL
  by_cases hi : inP (L.map Pk.p) i
  · rw [if_pos hi]
    obtain ⟨j, p, rfl, hj, hjl⟩ := inP_get hi
    obtain ⟨x, hx, rfl⟩ := get_p hj
    rw [Int.toNat_natCast, hj]
    exact nPacket_ok h1 hx
  · rw [if_neg hi]
    refine (nPacket_no (nfind_no h1 (fun e => hi ⟨e.1, by rw [List.length_map]; exact e.2⟩))).mono ?_
    rintro e w' ⟨rfl, hb⟩
    exact ⟨_, rfl, .inl ⟨rfl, rfl⟩, hb⟩
theorem nc_waits (h : NC w0 w b most P C F) (i : Int) : Calls Tryz.prog 34 #[.pointer (some ⟨b, 0, none⟩), .int .i64 i] w fun e w' => e = .returned (.int .i64 (if inP P i then ((P[i.toNat]?.map (·.2.2)).getD 0) else 0)) ∧ Below w.heap.size w w' := by
  obtain ⟨v, ro, L, mp, E, c, h1, rfl, hke, h3, h4, h5⟩ := h
  by_cases hi : inP (L.map Pk.p) i
  · rw [if_pos hi]
    obtain ⟨j, p, rfl, hj, hjl⟩ := inP_get hi
    obtain ⟨x, hx, rfl⟩ := get_p hj
    rw [Int.toNat_natCast, hj]
    refine (nWaits_ok h1 hx).mono ?_
    rintro e w' ⟨rfl, rfl⟩
    exact ⟨rfl, Below.refl _ _⟩
  · rw [if_neg hi]
    exact nWaits_no (nfind_no h1 (fun e => hi ⟨e.1, by rw [List.length_map]; exact e.2⟩))
theorem nc_tick (h : NC w0 w b most P C F) (hw : ∀ p ∈ P, 0 ≤ p.2.2 ∧ p.2.2 ≤ 1000) : Calls Tryz.prog 30 #[.pointer (some ⟨b, 0, none⟩)] w fun e w' => e = .returned (.tuple #[]) ∧ NCP w0 w b most (P.map tickP) C F w' := by
  obtain ⟨v, ro, L, mp, E, c, h1, rfl, hke, h3, h4, h5⟩ := h
  refine (nTick_any h1 (fun e he => hw _ (List.mem_map_of_mem he))).mono ?_
  rintro e w' ⟨rfl, hp⟩
  exact ⟨rfl, NC.next h1 hke h3 h4 h5 hp⟩
theorem nc_none (hG : Glob w0) (h : NC w0 w b most P C F) {i : Int} (hi : ¬ inP P i) : Calls Tryz.prog 22 #[.pointer (some ⟨b, 0, none⟩), .int .i64 i] w fun e w' => e = .returned (.tuple #[zeroM, .int .i64 3]) ∧ NCP w0 w b most P C F w' := by
  have h' := h
  obtain ⟨v, ro, L, mp, E, c, h1, rfl, hke, h3, h4, h5⟩ := h
  refine (nDeliver_no (hG.below h4) (fun W hW => nfind_no (h1.below hW) (fun e => hi ⟨e.1, by rw [List.length_map]; exact e.2⟩))).mono ?_
  rintro e w' ⟨rfl, hb⟩
  exact ⟨rfl, h'.pbelow hb⟩
theorem nc_busy (hG : Glob w0) (h : NC w0 w b most P C F) {i : Nat} {p : P3} (hi : P[i]? = some p) (hw : 0 < p.2.2) : Calls Tryz.prog 22 #[.pointer (some ⟨b, 0, none⟩), .int .i64 i] w fun e w' => e = .returned (.tuple #[zeroM, .int .i64 20]) ∧ NCP w0 w b most P C F w' := by
  have h' := h
  obtain ⟨v, ro, L, mp, E, c, h1, rfl, hke, h3, h4, h5⟩ := h
  obtain ⟨x, hx, rfl⟩ := get_p hi
  refine (nDeliver_busy (hG.below h4) h1 hx hw).mono ?_
  rintro e w' ⟨rfl, hb⟩
  exact ⟨rfl, h'.pbelow hb⟩
theorem nc_deliver (hG : Glob w0) (hM : Mov w0) (h : NC w0 w b most P C F) {i : Nat} {p : P3} (hi : P[i]? = some p) (hw : p.2.2 = 0) (hs : -9223372036854775808 ≤ p.2.1 ∧ p.2.1 ≤ 9223372036854775807) (hc : p.2.1 ∉ C) : Calls Tryz.prog 22 #[.pointer (some ⟨b, 0, none⟩), .int .i64 i] w fun e w' => NCP w0 w b most (P.eraseIdx i) C F w' ∧ ((decM p.1 = none ∧ e = .returned (.tuple #[zeroM, .int .i64 6])) ∨ ∃ m v, decM p.1 = some m ∧ e = .returned (.tuple #[v, .int .i64 0]) ∧ MsgIs w' v m) := by
  obtain ⟨v, ro, L, mp, E, c, h1, rfl, hke, h3, h4, h5⟩ := h
  obtain ⟨x, hx, rfl⟩ := get_p hi
  refine (nDeliver_ok (hG.below h4) (hM.below h4) ⟨old_errT hG h3, old_moved hM h3⟩ h1 hx hw hs (keys_not hke hc)).mono ?_
  rintro e w' ⟨hp, hc⟩
  exact ⟨NC.next h1 hke h3 h4 h5 hp, hc⟩
/-- Send of messages that lie in a row, to sites that are not cut off; they stay while the net changes. -/
theorem nc_send (hG : Glob w0) (hM : Mov w0) (h : NC w0 w b most P C F) (hm : most ≤ 1024) {g cap : Nat} {ms : List MsgV} (hle : ms.length ≤ cap) (hlen : ms.length ≤ 1000)
    (hms : ∀ (i : Nat) (m : MsgV), ms[i]? = some m → (mayM m = true → MsgIn m ∧ siteM m ∉ C) ∧ ∃ tA tc oA oc, ∀ W, Touch (fun k => w0.heap.size ≤ k ∧ ¬ F k) w W → M11 W ⟨g, i * 11, none⟩ m tA tc oA oc ∧ MsgIs W (.agg (msgCells m tA tc oA oc)) m) :
    Calls Tryz.prog 18 #[.pointer (some ⟨b, 0, none⟩), .slice (some ⟨g, 0, none⟩) ms.length cap] w fun e w' => e = .returned (.int .i64 (((ms.foldl (sendL most) P).length : Int) - (P.length : Int))) ∧ NCP w0 w b most (ms.foldl (sendL most) P) C F w' := by
  obtain ⟨v, ro, L, mp, E, c, h1, rfl, hke, h3, h4, h5⟩ := h
  refine (nSend_any (hG.below h4) (hM.below h4) ⟨old_errT hG h3, old_moved hM h3⟩ h1 hm hle hlen (fun i m hi => ?_)).mono ?_
  · obtain ⟨q1, tA, tc, oA, oc, q2⟩ := hms i m hi
    exact ⟨fun hmay => ⟨(q1 hmay).1, site_in hmay, keys_not hke (q1 hmay).2⟩, tA, tc, oA, oc, fun W ro' hs => q2 W (hs.1.mono (fun k _ e => h3 k e))⟩
  · rintro e w' ⟨P', rfl, hp, rfl⟩
    rw [List.length_map]
    exact ⟨rfl, NC.next h1 hke h3 h4 h5 hp⟩
end
end Go.Proofs.YtfddlhcdlgdofaaGreatDoor

namespace Go.Proofs.YtfddlhcdlgdofaaGreatDoor
open Go.RowKit Go.Shelf
/-- A call: its kind, whether it is about packets that there are, a message, two numbers. -/
structure OpN where
  kd : Int
  nr : Bool
  m : MsgV
  i : Int
  k : Int
abbrev cellN (o : OpN) (tA : Option Addr) (tc : Nat) (oA : Option Addr) (oc : Nat) : Array Value := #[.int .i64 o.kd, .bool o.nr, .int .i64 o.m.kd, .int .i64 o.m.fr, .int .i64 o.m.tt, .int .i64 o.m.g, .int .i64 o.m.nd, .int .i64 o.m.tr, .int .i64 o.m.lw, .int .i64 o.m.co, .int .i64 o.m.ti, .slice tA o.m.tl.length tc, .slice oA o.m.os.length oc, .int .i64 o.i, .int .i64 o.k]
/-- A call's fifteen cells from an address on. -/
def N15 (W : World) (p : Addr) (o : OpN) (tA : Option Addr) (tc : Nat) (oA : Option Addr) (oc : Nat) : Prop := W.cell? p = some (.int .i64 o.kd) ∧ W.cell? ⟨p.block, p.off + 1, none⟩ = some (.bool o.nr) ∧ W.cell? ⟨p.block, p.off + 2, none⟩ = some (.int .i64 o.m.kd) ∧ W.cell? ⟨p.block, p.off + 3, none⟩ = some (.int .i64 o.m.fr) ∧ W.cell? ⟨p.block, p.off + 4, none⟩ = some (.int .i64 o.m.tt) ∧ W.cell? ⟨p.block, p.off + 5, none⟩ = some (.int .i64 o.m.g) ∧ W.cell? ⟨p.block, p.off + 6, none⟩ = some (.int .i64 o.m.nd) ∧ W.cell? ⟨p.block, p.off + 7, none⟩ = some (.int .i64 o.m.tr) ∧ W.cell? ⟨p.block, p.off + 8, none⟩ = some (.int .i64 o.m.lw) ∧ W.cell? ⟨p.block, p.off + 9, none⟩ = some (.int .i64 o.m.co) ∧ W.cell? ⟨p.block, p.off + 10, none⟩ = some (.int .i64 o.m.ti) ∧ W.cell? ⟨p.block, p.off + 11, none⟩ = some (.slice tA o.m.tl.length tc) ∧ W.cell? ⟨p.block, p.off + 12, none⟩ = some (.slice oA o.m.os.length oc) ∧ W.cell? ⟨p.block, p.off + 13, none⟩ = some (.int .i64 o.i) ∧ W.cell? ⟨p.block, p.off + 14, none⟩ = some (.int .i64 o.k)
theorem N15.below {w w' : World} {p : Addr} {o : OpN} {tA oA : Option Addr} {tc oc : Nat} (h : N15 w p o tA tc oA oc) (hp : p.block < w.heap.size) (hb : Below w.heap.size w w') : N15 w' p o tA tc oA oc := by
  unfold N15 at h ⊢
  obtain ⟨a0, a1, a2, a3, a4, a5, a6, a7, a8, a9, a10, a11, a12, a13, a14⟩ := h
  have k := fun (j : Nat) => hb.cell (p := ⟨p.block, p.off + j, none⟩) hp
  exact ⟨(hb.cell hp).trans a0, (k 1).trans a1, (k 2).trans a2, (k 3).trans a3, (k 4).trans a4, (k 5).trans a5, (k 6).trans a6, (k 7).trans a7, (k 8).trans a8, (k 9).trans a9, (k 10).trans a10, (k 11).trans a11, (k 12).trans a12, (k 13).trans a13, (k 14).trans a14⟩
/-- A slice of calls that was given. -/
def OpnsAt (w : World) (v : Value) (l : List OpN) : Prop := ∃ A cap, v = .slice A l.length cap ∧ l.length ≤ cap ∧ cap ≤ maxLen ∧ ∀ (i : Nat) (o : OpN), l[i]? = some o → ∃ (a : Addr) (tA : Option Addr) (tc : Nat) (oA : Option Addr) (oc : Nat), A = some a ∧ a.block < w.heap.size ∧ N15 w (a.add (i * 15)) o tA tc oA oc ∧ NumsAt w (.slice tA o.m.tl.length tc) o.m.tl ∧ OpsAt w (.slice oA o.m.os.length oc) o.m.os
/-- What is known of the packets of a net beside what was sent. -/
def QOk (S : List MsgV) (P : List P3) : Prop := ∀ p ∈ P, (∀ m, decM p.1 = some m → m ∈ S) ∧ (0 ≤ p.2.2 ∧ p.2.2 ≤ 1000) ∧ (-9223372036854775808 ≤ p.2.1 ∧ p.2.1 ≤ 9223372036854775807)
theorem mem_insI {α : Type} {l : List α} {k : Nat} {a x : α} (h : x ∈ l.insertIdx k a) : x = a ∨ x ∈ l := by
  induction l generalizing k with
  | nil => cases k with
    | zero => exact .inl (List.mem_singleton.1 h)
    | succ k => simp at h
  | cons y r ih => cases k with
    | zero => exact List.mem_cons.1 h
    | succ k =>
      rw [List.insertIdx_succ_cons] at h
      rcases List.mem_cons.1 h with e | e
      · exact .inr (by rw [e]; exact List.mem_cons_self)
      · rcases ih e with q | q
        · exact .inl q
        · exact .inr (List.mem_cons_of_mem _ q)
section
variable {S : List MsgV} {P : List P3}
theorem QOk.nil : QOk S [] := fun p h => by cases h
theorem QOk.send (h : QOk S P) {m : MsgV} (hm : mayM m = true) (hi : MsgIn m) {most : Int} : QOk (S ++ [m]) (sendL most P m) := by
  have h' : QOk (S ++ [m]) P := fun p hp => ⟨fun x hx => List.mem_append.2 (.inl ((h p hp).1 x hx)), (h p hp).2⟩
  unfold sendL
  split
  · intro p hp
    rcases List.mem_append.1 hp with q | q
    · exact h' p q
    · rw [List.mem_singleton.1 q]
      refine ⟨fun x hx => ?_, ⟨Int.le_refl _, by show (0 : Int) ≤ 1000; decide⟩, site_in hm⟩
      rw [decM_back hm hi] at hx
      rw [← Option.some.inj hx]
      exact List.mem_append.2 (.inr (List.mem_singleton.2 rfl))
  · exact h'
theorem QOk.erase (h : QOk S P) (i : Nat) : QOk S (P.eraseIdx i) := fun p hp => h p (List.mem_of_mem_eraseIdx hp)
theorem QOk.set (h : QOk S P) (i : Nat) {q : P3} (hq : (∀ m, decM q.1 = some m → m ∈ S) ∧ (0 ≤ q.2.2 ∧ q.2.2 ≤ 1000) ∧ (-9223372036854775808 ≤ q.2.1 ∧ q.2.1 ≤ 9223372036854775807)) : QOk S (P.set i q) := fun p hp => by
  rcases List.mem_or_eq_of_mem_set hp with e | e
  · exact h p e
  · rw [e]; exact hq
theorem QOk.dup (h : QOk S P) (j : Nat) : QOk S (dupL P j) := by
  unfold dupL
  split
  · rename_i p hp
    have := h p (List.mem_of_getElem? hp)
    intro x hx
    rcases List.mem_append.1 hx with q | q
    · exact h x q
    · rw [List.mem_singleton.1 q]; exact ⟨this.1, ⟨Int.le_refl _, by show (0 : Int) ≤ 1000; decide⟩, this.2.2⟩
  · exact h
theorem QOk.move (h : QOk S P) (j k : Nat) : QOk S (moveL P j k) := by
  unfold moveL
  split
  · rename_i p hp
    intro x hx
    rcases mem_insI hx with q | q
    · rw [q]; exact h p (List.mem_of_getElem? hp)
    · exact h x (List.mem_of_mem_eraseIdx q)
  · exact h
theorem QOk.hold (h : QOk S P) (j : Nat) {k : Int} (hk : 0 ≤ k ∧ k ≤ 1000) : QOk S (holdL P j k) := by
  unfold holdL
  split
  · rename_i p hp
    have := h p (List.mem_of_getElem? hp)
    exact h.set j ⟨this.1, hk, this.2.2⟩
  · exact h
theorem QOk.tick (h : QOk S P) : QOk S (P.map tickP) := fun p hp => by
  obtain ⟨x, hx, rfl⟩ := List.mem_map.1 hp
  have := h x hx
  refine ⟨this.1, ?_, this.2.2⟩
  show 0 ≤ (tickP x).2.2 ∧ _
  unfold tickP
  have := this.2.1
  simp only
  omega
theorem QOk.spoil (h : QOk S P) (j k : Nat) {p : P3} (hp : P[j]? = some p) (hd : decM (spoilB p.1 k) = none) : QOk S (spoilL P j k) := by
  unfold spoilL
  rw [hp]
  have := h p (List.mem_of_getElem? hp)
  exact h.set j ⟨fun m hm => (by rw [hd] at hm; cases hm), this.2⟩
end
end Go.Proofs.YtfddlhcdlgdofaaGreatDoor
