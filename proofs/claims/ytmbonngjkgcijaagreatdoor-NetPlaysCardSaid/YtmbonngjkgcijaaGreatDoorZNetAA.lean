/- The net: Twice where it is full; which sites are cut off; a bound that may not be. The net, the sites of D cut off: each call, whatever its numbers. The document's own net in memory: put, take. -/
import Derived.Test.YtmbonngjkgcijaaGreatDoorZMefD
import Derived.Test.YtmbonngjkgcijaaGreatDoorZPosB
import Derived.Test.YtmbonngjkgcijaaGreatDoorZNetT
set_option linter.unusedSimpArgs false
set_option linter.unusedVariables false
set_option linter.unnecessarySimpa false
namespace Go.Proofs.YtmbonngjkgcijaaGreatDoor
open Go.RowKit Go.Sort Go.Shelf
section
variable {w : World} {b : Nat} {most : Int} {v : Value} {L : List Pk} {mp : Nat} {C : List MapEntry} {c : Nat} {ro : Nat → Nat}
set_option maxRecDepth 100000 in
set_option maxHeartbeats 2000000 in
theorem nTwice_full (hG : Glob w) (h : NetAt w b most v L mp C c ro) {i : Nat} {x : Pk} (hi : L[i]? = some x) (hl : most ≤ (L.length : Int)) : Calls Tryz.prog 26 #[.pointer (some ⟨b, 0, none⟩), .int .i64 i] w fun e w' => e = .returned (.int .i64 5) ∧ Below w.heap.size w w' := by
  have HF := Lib.hid (nfind_ok h hi)
  have HFU := Lib.hid (nfull_any h)
  rw [decide_eq_true hl] at HFU
  have HG := Lib.hid hG
  have HH := Lib.hid h
  unfold Pk.ptr at HF
  clear h hi hG hl
  go_enter Tryz.func26, Tryz.ntmps26
  go_wp2_with fail
  refine (HF.out).mono ?_
  rintro e w1 ⟨rfl, rfl⟩
  go_wp2_with fail
  refine (HFU.out).mono ?_
  rintro e w2 ⟨rfl, hb2⟩
  have HB2 := Lib.hid hb2
  clear hb2
  go_wp2_with fail
  have HS : Hid (∀ W, Below w1.heap.size w1 W → W.cell? ⟨b, 0, none⟩ = some (.int .i64 most)) := Lib.hid (fun W hW => cell_of (HH.out.below hW).head 0)
  refine wp_only ?_
  refine wp_region_held_drew (S := fun W => W.cell? ⟨b, 0, none⟩ = some (.int .i64 most)) (by kernel_rfl) (HS.out _ (below_drew HB2.out)) (fun hHeld => ?_)
  refine tkH (i := 0) (oi := { dst := some 19, op := .move (.tmp 0), type := 23, pos := "packet.go:40", after := #[], guard := none }) (v := ?vv1) ?hy1 ?rest1
  case hy1 => (refine Or.inl ⟨by rfl, ?_⟩; intro W hSw; (try dsimp only at hSw); go_simp; (try with_reducible rfl))
  try simp only [Act.put, pzz]
  refine tkH (i := 1) (oi := { dst := some 20, op := .nilCheck (.tmp 19), type := 0, pos := "packet.go:40", after := #[⟨0, .data⟩], guard := none }) (v := ?vv2) ?hy2 ?rest2
  case hy2 => (refine Or.inl ⟨by rfl, ?_⟩; intro W hSw; (try dsimp only at hSw); go_simp; (try with_reducible rfl))
  try simp only [Act.put, pzz]
  refine tkH (i := 2) (oi := { dst := some 21, op := .fieldAddr 100 (.tmp 20) 0, type := 0, pos := "packet.go:40", after := #[⟨1, .data⟩], guard := none }) (v := ?vv3) ?hy3 ?rest3
  case hy3 => (refine Or.inl ⟨by rfl, ?_⟩; intro W hSw; (try dsimp only at hSw); go_simp; (try with_reducible rfl))
  try simp only [Act.put, pzz]
  refine tkH (i := 3) (oi := { dst := some 22, op := .load 3 (.tmp 21), type := 3, pos := "packet.go:40", after := #[⟨2, .data⟩], guard := none }) (v := ?vv4) ?hy4 ?rest4
  case hy4 => (refine Or.inl ⟨by rfl, ?_⟩; intro W hSw; (try dsimp only at hSw); go_simp; (try with_reducible rfl))
  try simp only [Act.put, pzz]
  refine tkH (i := 4) (oi := { dst := some 23, op := .move (.tmp 0), type := 23, pos := "packet.go:40", after := #[], guard := none }) (v := ?vv5) ?hy5 ?rest5
  case hy5 => (refine Or.inl ⟨by rfl, ?_⟩; intro W hSw; (try dsimp only at hSw); go_simp; (try with_reducible rfl))
  try simp only [Act.put, pzz]
  refine tkH (i := 7) (oi := { dst := some 26, op := .move (.tmp 1), type := 3, pos := "packet.go:40", after := #[], guard := none }) (v := ?vv6) ?hy6 ?rest6
  case hy6 => (refine Or.inl ⟨by rfl, ?_⟩; intro W hSw; (try dsimp only at hSw); go_simp; (try with_reducible rfl))
  try simp only [Act.put, pzz]
  refine wpAnyH_ready (rs := [5]) (by kernel_rfl) (by simp) ?_
  refine AllReadyH.cons (o := { dst := some 24, op := .call { callee := .value (.func 16), args := #[.tmp 23], argTypes := #[23] }, type := 3, pos := "packet.go:40", after := #[⟨4, .data⟩], guard := none }) rfl (fun K hK => ?step7) ?more7
  case more7 => exact AllReadyH.nil
  ((go_simp; go_at_call 16; refine (nlen_any (HH.out.below (below_drew HB2.out))).mono ?_; rintro e x1 ⟨rfl, rfl⟩; go_wp2_with fail))
  refine hK.out _ _ ?hS7 (fun hHeld => ?rr7)
  case hS7 => (exact HS.out _ (below_drew HB2.out))
  clear hK K
  try simp only [Act.put, pzz]
  refine tkH (i := 6) (oi := { dst := some 25, op := .binOp .add 2 (.tmp 24) (.const (.int .i64 1)) 2, type := 2, pos := "packet.go:40", after := #[⟨5, .data⟩], guard := none }) (v := ?vv8) ?hy8 ?rest8
  case hy8 => (refine Or.inl ⟨by rfl, ?_⟩; intro W hSw; (try dsimp only at hSw); go_simp; (try with_reducible rfl))
  try simp only [Act.put, pzz]
  refine wpAnyH_ready (rs := [8]) (by kernel_rfl) (by simp) ?_
  refine AllReadyH.cons (o := { dst := some 27, op := .call { callee := .value (.func 68), args := #[.const (.int .i64 5)], argTypes := #[24] }, type := 94, pos := "packet.go:40", after := #[⟨5, .chain⟩], guard := none }) rfl (fun K hK => ?step9) ?more9
  case more9 => exact AllReadyH.nil
  ((go_simp; go_at_call 68; refine (new_num 5 (by decide) _).mono ?_; rintro e x1 ⟨rfl, rfl⟩; go_wp2_with fail))
  refine hK.out _ _ ?hS9 (fun hHeld => ?rr9)
  case hS9 => (exact HS.out _ (below_drew HB2.out))
  clear hK K
  try simp only [Act.put, pzz]
  refine wpAnyH_ready (rs := [9]) (by kernel_rfl) (by simp) ?_
  have hb3 := below_new (w := w2.drew) (.cells #[.iface 159 (.agg #[.int .i64 5]), .int .i64 i] 194)
  have HB3 := Lib.hid ((below_drew HB2.out).trans (hb3.mono (below_drew HB2.out).size))
  have hat3 := alloc_at w2.drew (.cells #[.iface 159 (.agg #[.int .i64 5]), .int .i64 i] 194)
  obtain ⟨W3, hW3⟩ : ∃ W, W = w2.drew.alloc (.cells #[.iface 159 (.agg #[.int .i64 5]), .int .i64 i] 194) := ⟨_, rfl⟩
  rw [← hW3] at hat3 HB3
  have HA3 := Lib.hid hat3
  have HW3 := Lib.hid hW3
  clear hb3 hat3 hW3
  refine AllReadyH.cons (o := { dst := some 28, op := .call { callee := .value (.func 67), args := #[.tmp 26, .tmp 27], argTypes := #[3, 94] }, type := 94, pos := "packet.go:40", after := #[⟨7, .data⟩, ⟨8, .data⟩, ⟨8, .chain⟩], guard := none }) rfl (fun K hK => ?step10) ?more10
  case more10 => exact AllReadyH.nil
  ((go_simp; go_at_call 67; refine (at_some (i : Int) 159 (.agg #[.int .i64 5]) _).mono ?_; rintro e x1 ⟨rfl, rfl⟩; rw [← HW3.out]; go_wp2_with fail))
  refine hK.out _ _ ?hS10 (fun hHeld => ?rr10)
  case hS10 => (exact HS.out _ HB3.out)
  clear hK K
  try simp only [Act.put, pzz]
  refine wpAnyH_ready (rs := [10]) (by kernel_rfl) (by simp) ?_
  obtain ⟨G, hG⟩ : ∃ G : Int, G = IntKind.i64.wrap ((L.length : Int) + 1) := ⟨_, rfl⟩
  refine AllReadyH.cons (o := { dst := some 29, op := .call { callee := .value (.func 73), args := #[.tmp 22, .tmp 25, .tmp 28], argTypes := #[2, 2, 94] }, type := 94, pos := "packet.go:40", after := #[⟨3, .data⟩, ⟨6, .data⟩, ⟨9, .data⟩, ⟨9, .chain⟩], guard := none }) rfl (fun K hK => ?step11) ?more11
  case more11 => exact AllReadyH.nil
  ((go_simp; go_at_call 73; refine (bound_some most _ 190 _ W3).mono ?_; rintro e x1 ⟨rfl, hx1⟩; have HX1 := Lib.hid hx1; clear hx1; go_wp2_with fail))
  refine hK.out _ _ ?hS11 (fun hHeld => ?rr11)
  case hS11 => (exact HS.out _ (by rw [← HX1.out]; exact HB3.out.trans ((below_new _).mono HB3.out.size)))
  clear hK K
  try simp only [Act.put, pzz]
  refine tkH (i := 11) (oi := { dst := some 6, op := .assign (.tmp 29), type := 94, pos := "packet.go:40", after := #[⟨10, .data⟩, ⟨10, .chain⟩, ⟨0, .phase⟩, ⟨1, .phase⟩, ⟨2, .phase⟩, ⟨3, .phase⟩, ⟨4, .phase⟩, ⟨5, .phase⟩, ⟨6, .phase⟩, ⟨7, .phase⟩, ⟨8, .phase⟩, ⟨9, .phase⟩, ⟨10, .phase⟩], guard := none }) (v := ?vv12) ?hy12 ?rest12
  case hy12 => (refine Or.inl ⟨by rfl, ?_⟩; intro W hSw; (try dsimp only at hSw); go_simp; (try with_reducible rfl))
  try simp only [Act.put, pzz]
  refine wpAnyH_done (by kernel_rfl) ?_ _
  clear hHeld hG
  dsimp only [onlyN]
  have hbx : Below W3.heap.size W3 x1 := by rw [← HX1.out]; exact below_new _
  have HBX := Lib.hid (HB3.out.trans (hbx.mono HB3.out.size))
  have HCO : Hid (Calls Tryz.prog 48 #[.iface 195 (.pointer (some ⟨W3.heap.size, 0, none⟩))] x1 fun e w' => e = .returned (.int .i64 5) ∧ Below x1.heap.size x1 w') := Lib.hid (by
    have hA := alloc_at W3 (.cells #[.iface 190 (.pointer (some ⟨w2.drew.heap.size, 0, none⟩)), .int .i64 most, .int .i64 (IntKind.i64.wrap ((L.length : Int) + 1))] 197)
    have hx := HX1.out
    subst hx
    refine code_any (c := [.bnd most _, .plc i, .num 5]) (HG.out.below HBX.out) ⟨by simp, _, _, rfl, hA, by simp, _, _, rfl, (hbx.block _ (heap_lt HA3.out)).trans HA3.out, rfl, rfl⟩ (numOk_cons (by simp) (numOk_cons (by simp) (numOk_one (by decide)))) (by simp) (Below.refl _ _))
  clear hbx
  go_wp2_with fail
  refine (HCO.out).mono ?_
  rintro e w4 ⟨rfl, hb4⟩
  have HB4 := Lib.hid (HBX.out.trans (hb4.mono HBX.out.size))
  clear hb4
  go_wp2_with fail
  go_ret
  exact ⟨rfl, HB4.out⟩
theorem nkeys_any (mo : Option Nat) (W : World) : Calls Tryz.prog 78 #[.map mo] W fun e w' => e = .returned (.func (.func 119) #[] #[.pointer (some ⟨W.heap.size, 0, none⟩)]) ∧ w' = W.alloc (.cells #[.map mo] 97) :=
  callsIn_wide.1 (AnyZI.keys_in Tryz.keysB Fence.wide 5 trivial rfl mo W)
set_option maxRecDepth 100000 in
theorem nkeys_perm {E : List MapEntry} {C : List Int} (hk : E.map pairE = C.map pairC) (hC : ∀ s ∈ C, 1 ≤ s ∧ s ≤ 3) : (intKeys (.map ((E.map (Go.WideElems.rg Tryz.prog 3 anyP)).foldr DataW.insert []) : DataW Unit)).Perm C := by
  have h1 := (Go.WideShapes.sorted_perm (E.map (Go.WideElems.rg Tryz.prog 3 anyP))).map (fun p : Lit × DataW Unit => Go.intOf p.1)
  refine h1.trans ?_
  rw [List.map_map]
  have hgen : ∀ (E : List MapEntry) (C : List Int), E.map pairE = C.map pairC → (∀ s ∈ C, 1 ≤ s ∧ s ≤ 3) → E.map ((fun p : Lit × DataW Unit => Go.intOf p.1) ∘ Go.WideElems.rg Tryz.prog 3 anyP) = C := by
    intro E
    induction E with
    | nil => intro C h _; cases C with
      | nil => rfl
      | cons s r => simp at h
    | cons e r ih => intro C h hC; cases C with
      | nil => simp at h
      | cons s q =>
        rw [List.map_cons, List.map_cons] at h
        obtain ⟨h1, h2⟩ := List.cons.inj h
        rw [List.map_cons, ih q h2 (fun x hx => hC x (List.mem_cons_of_mem _ hx))]
        have hs := hC s List.mem_cons_self
        have hkey : e.key = .int .i64 s := congrArg Prod.fst h1
        have := key_i (s := s) (by omega)
        congr 1
        simp only [Function.comp, Go.WideElems.rg, Go.WideElems.rd, anyP, hkey, this]
        rfl
  exact List.Perm.of_eq (hgen E C hk hC)
/-- What Parted tells. -/
def PartedP (w : World) (C : List Int) (x : Ending) (w' : World) : Prop := ∃ (v : Value) (ns : List Int), x = .returned v ∧ RowIs w' 1 v ns.length (ns.map (Value.int .i64)) ∧ ns.Perm C ∧ (∀ g, v.ownBlock = some g → w.heap.size ≤ g) ∧ Below w.heap.size w w'
set_option maxRecDepth 100000 in
set_option maxHeartbeats 1000000 in
theorem nParted_ok {D : List Int} (h : NetAt w b most v L mp C c ro) (hk : C.map pairE = D.map pairC) (hD : ∀ s ∈ D, 1 ≤ s ∧ s ≤ 3) (hl : D.length ≤ 1000) : Calls Tryz.prog 35 #[.pointer (some ⟨b, 0, none⟩)] w (PartedP w D) := by
  have hc : w.cell? ⟨b, 2, none⟩ = some (.map (some mp)) := cell_of h.head 2
  have HK := Lib.hid (nkeys_any (some mp) w)
  have HNO := Lib.hid (nnone_any h.head)
  have hb0 := below_new (w := w) (.cells #[.map (some mp)] 97)
  have hcb : (w.alloc (.cells #[.map (some mp)] 97)).cell? ⟨w.heap.size, 0, none⟩ = some (.map (some mp)) := cell_of (alloc_at w _) 0
  have hcl : C.length = D.length := by have := congrArg List.length hk; simpa using this
  have hS : Calls Tryz.prog 77 #[.func (.func 119) #[] #[.pointer (some ⟨w.heap.size, 0, none⟩)]] (w.alloc (.cells #[.map (some mp)] 97)) (PartedP w D) := by
    have hm := h.map
    have hlt := MapIs.lt hm
    have hm' : MapIs Tryz.prog 3 (w.alloc (.cells #[.map (some mp)] 97)) mp C c := hm.keep (Below.heap_alloc _ _ _ hlt)
    have hown := powns_any hm' (by unfold maxLen; omega)
    have hsz : Maps.size (.map ((C.map (Go.WideElems.rg Tryz.prog 3 anyP)).foldr DataW.insert []) : DataW Unit) ≤ 1000000 := Nat.le_trans hown.size_le (by omega)
    have hseq : SeqGives Fence.wide 2 Tryz.prog 119 #[.pointer (some ⟨w.heap.size, 0, none⟩)] encZ (fun ss => ss.Perm (intKeys (.map ((C.map (Go.WideElems.rg Tryz.prog 3 anyP)).foldr DataW.insert []) : DataW Unit))) (Maps.size (.map ((C.map (Go.WideElems.rg Tryz.prog 3 anyP)).foldr DataW.insert []) : DataW Unit)) (w.alloc (.cells #[.map (some mp)] 97)) :=
      AnyZI.keys_gives (ρ := Tryz.keysB_ren) { Tryz.keysB with } Fence.wide _ trivial rfl (by omega) w.heap.size mp _ _ _ (by rw [asz]; omega) hcb hown
    have cS := AnyZI.sorted_in Tryz.sortedA Fence.wide 5 trivial trivial trivial trivial rfl (by omega) (sortsP _) (enters_of Tryz.func118 (by kernel_rfl) rfl) 119 #[.pointer (some ⟨w.heap.size, 0, none⟩)] trivial (enters_of Tryz.func119 (by kernel_rfl) rfl) _ _ (by unfold maxLen; omega) (by omega) _ hseq
    refine (callsIn_wide.1 cS).mono ?_
    rintro e w' ⟨v, ss, rfl, hp, hrow, hnil, hb⟩
    have hl := List.length_mergeSort (le := fun x y => decide (x ≤ y)) ss
    obtain ⟨h1, h2⟩ := prow_own hrow
    refine ⟨v, ss.mergeSort (fun x y => decide (x ≤ y)), rfl, by rw [hl]; exact h1, (List.mergeSort_perm _ _).trans (hp.trans (nkeys_perm hk hD)), fun g hg => by have := h2 g hg; rw [asz] at this; omega, hb0.trans (hb.mono hb0.size)⟩
  have HS := Lib.hid hS
  clear h hb0 hcb hS hk hD hl hcl
  go_enter Tryz.func35, Tryz.ntmps35
  go_wp2_with fail
  refine (HNO.out).mono ?_
  rintro e w1 ⟨rfl, rfl⟩
  go_wp2_with fail
  refine (HK.out).mono ?_
  rintro e w1 ⟨rfl, rfl⟩
  go_wp2_with fail
  refine (HS.out).mono ?_
  rintro e w2 ⟨v, ns, rfl, h⟩
  have H := Lib.hid h
  clear h
  go_wp2
  go_ret
  exact ⟨v, ns, rfl, H.out⟩
end
end Go.Proofs.YtmbonngjkgcijaaGreatDoor

namespace Go.Proofs.YtmbonngjkgcijaaGreatDoor
open Go.RowKit Go.Shelf
theorem erase_at : ∀ {C : List Int}, C.Nodup → ∀ {j : Nat} {s : Int}, C[j]? = some s → C.erase s = C.eraseIdx j
  | [], _, j, s, h => by simp at h
  | y :: r, hn, 0, s, h => by
    obtain rfl : y = s := by simpa using h
    rw [List.erase_cons_head]
    rfl
  | y :: r, hn, j + 1, s, h => by
    have hr : r[j]? = some s := by simpa using h
    have hy : ¬ (y == s) = true := fun e => by
      have : y = s := by simpa using e
      rw [List.nodup_cons] at hn
      exact hn.1 (this ▸ List.mem_of_getElem? hr)
    rw [List.erase_cons_tail hy, erase_at (List.nodup_cons.1 hn).2 hr]
    rfl
/-- What a message that is sent makes of the packets, where the sites of D are cut off. -/
def sendD (most : Int) (D : List Int) (P : List P3) (m : MsgV) : List P3 := if mayM m = true ∧ siteM m ∉ D ∧ (P.length : Int) < most then P ++ [(encM m, siteM m, 0)] else P
section
variable {w : World} {b : Nat} {most : Int} {v : Value} {L : List Pk} {mp : Nat} {C : List MapEntry} {c : Nat} {ro : Nat → Nat}
theorem nsend_gen (hG : Glob w) (hMv : Mov w) (h : NetAt w b most v L mp C c ro) (hmost : most ≤ 1024) {D : List Int} (hk : C.map pairE = D.map pairC) {v0 : Value} {m : MsgV} (hm : MsgIs w v0 m) (hok : mayM m = true → MsgIn m) :
    Calls Tryz.prog 56 #[.pointer (some ⟨b, 0, none⟩), v0] w fun e w' => e = .returned (.tuple #[]) ∧ NetP w b most mp C c ro (sendD most D (L.map Pk.p) m) w' := by
  by_cases hD : mayM m = true ∧ siteM m ∈ D
  · obtain ⟨ha, hD⟩ := hD
    obtain ⟨j, e0, hj, he, hu⟩ := keys_have hk hD
    refine (nsend_cut hG hMv h hmost hm ha (hok ha) (site_in ha) hj he hu).mono ?_
    rintro e w' ⟨rfl, hb⟩
    refine ⟨rfl, v, ro, L, h.below hb, Step.ahead hb (Step.refl _ _), ?_⟩
    rw [sendD, if_neg (fun e => e.2.1 hD)]
  · have hs : sendD most D (L.map Pk.p) m = sendL most (L.map Pk.p) m := by
      unfold sendD sendL
      by_cases ha : mayM m = true
      · have hn : siteM m ∉ D := fun e => hD ⟨ha, e⟩
        simp [ha, hn]
      · rw [if_neg (fun e => ha e.1), if_neg (fun e => ha e.1)]
    rw [hs]
    exact nsend_any hG hMv h hmost hm (fun ha => ⟨hok ha, site_in ha, keys_not hk (fun e => hD ⟨ha, e⟩)⟩)
set_option maxRecDepth 100000 in
set_option maxHeartbeats 4000000 in
theorem nSend_gen (hG : Glob w) (hMv : Mov w) (h0 : ro 1 = 0 ∧ ro 0 = 0) (h : NetAt w b most v L mp C c ro) (hmost : most ≤ 1024) {D : List Int} (hk : C.map pairE = D.map pairC) {g cap : Nat} {ms : List MsgV} (hle : ms.length ≤ cap) (hlen : ms.length ≤ 1000)
    (hms : ∀ (i : Nat) (m : MsgV), ms[i]? = some m → (mayM m = true → MsgIn m) ∧ ∃ tA tc oA oc, ∀ W ro', Step w W ro ro' → M11 W ⟨g, i * 11, none⟩ m tA tc oA oc ∧ MsgIs W (.agg (msgCells m tA tc oA oc)) m) :
    Calls Tryz.prog 18 #[.pointer (some ⟨b, 0, none⟩), .slice (some ⟨g, 0, none⟩) ms.length cap] w fun e w' => ∃ P, e = .returned (.int .i64 ((P.length : Int) - (L.length : Int))) ∧ NetP w b most mp C c ro P w' ∧ P = ms.foldl (sendD most D) (L.map Pk.p) := by
  obtain ⟨n, hn⟩ : ∃ n, ms.length = n := ⟨_, rfl⟩
  rw [hn] at hle hlen ⊢
  have HNO := Lib.hid (nnone_any h.head)
  have HLE := Lib.hid (nlen_any h)
  have HH := Lib.hid h
  have HMS := Lib.hid hms
  have HN := Lib.hid hn
  have HG : Hid (∀ W ro', Step w W ro ro' → Glob W ∧ Mov W) := Lib.hid (fun W ro' hs => ⟨hG.touch hs.1 (fun e => e h0.1), fun r t ht => (World.cell?_of_block (a := ⟨0, r, none⟩) (hs.1.block _ hMv.lt (fun e => e h0.2))).trans (hMv r t ht)⟩)
  have HMO := Lib.hid hmost
  clear h hms hn hG hMv h0 hmost
  have HK := Lib.hid hk
  clear hk
  go_enter Tryz.func18, Tryz.ntmps18
  go_wp2_with fail
  refine (HNO.out).mono ?_
  rintro e w1 ⟨rfl, rfl⟩
  go_wp2_with fail
  refine (HLE.out).mono ?_
  rintro e w1 ⟨rfl, rfl⟩
  go_wp2_with fail
  go_loopw [14] (fun iv wr => ∃ (k : Nat) (v' : Value) (ro' : Nat → Nat) (L' : List Pk), k ≤ n ∧ iv = .int .i64 k ∧ NetAt wr b most v' L' mp C c ro' ∧ Step w1 wr ro ro' ∧ L'.map Pk.p = (ms.take k).foldl (sendD most D) (L.map Pk.p)) (fun iv _ => n - (intOf iv).toNat)
  case atStart => exact ⟨0, v, ro, L, by omega, rfl, HH.out, Step.refl _ _, by simp⟩
  case round =>
    obtain ⟨k, v', ro', L', hk, rfl, hnet, hst, hP⟩ := hrel
    have HS := Lib.hid (And.intro hnet (And.intro hst hP))
    clear hnet hst hP
    by_cases hlt : k < n
    · have hx : ms[k]? = some (ms[k]'(by have := HN.out; omega)) := List.getElem?_eq_getElem _
      generalize ms[k]'(by have := HN.out; omega) = m at hx
      have HX := Lib.hid hx
      obtain ⟨hok, tA, tc, oA, oc, hms⟩ := HMS.out k m hx
      have HOK := Lib.hid hok
      have HMSW := Lib.hid hms
      have hm11 := (hms _ _ HS.out.2.1).1
      obtain ⟨a0, a1, a2, a3, a4, a5, a6, a7, a8, a9, a10⟩ := hm11
      have HLT := Lib.hid hlt
      clear hx hok hms
      have hb1 := below_new (w := wr) (.cells (msgCells m tA tc oA oc) 50)
      have hst1 := HS.out.2.1.after hb1
      have HSE := Lib.hid (nsend_gen (HG.out _ _ hst1).1 (HG.out _ _ hst1).2 (HS.out.1.below hb1) HMO.out HK.out (HMSW.out _ _ hst1).2 HOK.out)
      have HST1 := Lib.hid hst1
      unfold msgCells at HSE HST1
      clear hb1 hst1
      go_wp2_with fail
      refine (HSE.out).mono ?_
      rintro e w2 ⟨rfl, v2, ro2, L2, hn2, hs2, hp2⟩
      have HS2 := Lib.hid (And.intro hn2 (And.intro (HST1.out.trans hs2) hp2))
      clear hn2 hs2 hp2 a0 a1 a2 a3 a4 a5 a6 a7 a8 a9 a10
      have hwk : IntKind.i64.wrap ((k : Int) + 1) = (k : Int) + 1 := IntWalk.i64_in _ (by omega)
      go_wp2_with fail
      go_roundw
      case rel =>
        refine ⟨k + 1, v2, ro2, L2, HLT.out, by go_num, HS2.out.1, HS2.out.2.1, ?_⟩
        rw [HS2.out.2.2, HS.out.2.2, List.take_add_one, HX.out, List.foldl_append]
        rfl
      case measure => have := HLT.out; simp [intOf]; omega
    · obtain rfl : k = n := by omega
      have HLE2 := Lib.hid (nlen_any HS.out.1)
      go_wp2_with fail
      refine (HLE2.out).mono ?_
      rintro e w2 ⟨rfl, rfl⟩
      have hw1 := HS.out.1.few.1
      have hw2 := HH.out.few.1
      have hwr : IntKind.i64.wrap ((L'.length : Int) - (L.length : Int)) = (L'.length : Int) - (L.length : Int) := IntWalk.i64_in _ (by omega)
      clear hw1 hw2
      go_wp2_with fail
      go_ret
      have h3 := HS.out.2.2
      rw [List.take_of_length_le (by rw [HN.out]; exact Nat.le_refl _)] at h3
      exact ⟨L'.map Pk.p, by rw [List.length_map]; rfl, ⟨_, _, _, HS.out.1, HS.out.2.1, rfl⟩, h3⟩
end
section
variable {w0 w : World} {b : Nat} {most : Int} {P : List P3} {C : List Int} {F : Nat → Prop}
theorem nc_cut (hG : Glob w0) (h : NC w0 w b most P C F) {i : Nat} {p : P3} (hi : P[i]? = some p) (hw : p.2.2 = 0) (hs : -9223372036854775808 ≤ p.2.1 ∧ p.2.1 ≤ 9223372036854775807) (hc : p.2.1 ∈ C) : Calls Tryz.prog 22 #[.pointer (some ⟨b, 0, none⟩), .int .i64 i] w fun e w' => e = .returned (.tuple #[zeroM, .int .i64 20]) ∧ NCP w0 w b most P C F w' := by
  have h' := h
  obtain ⟨v, ro, L, mp, E, c, h1, rfl, hke, h3, h4, h5⟩ := h
  obtain ⟨x, hx, rfl⟩ := get_p hi
  obtain ⟨j, e0, hj, he, hu⟩ := keys_have hke hc
  refine (nDeliver_cut (hG.below h4) h1 hx hw hs hj he hu).mono ?_
  rintro e w' ⟨rfl, hb⟩
  exact ⟨rfl, h'.pbelow hb⟩
theorem nc_full (hG : Glob w0) (h : NC w0 w b most P C F) {i : Nat} {p : P3} (hi : P[i]? = some p) (hl : most ≤ (P.length : Int)) : Calls Tryz.prog 26 #[.pointer (some ⟨b, 0, none⟩), .int .i64 i] w fun e w' => e = .returned (.int .i64 5) ∧ NCP w0 w b most P C F w' := by
  have h' := h
  obtain ⟨v, ro, L, mp, E, c, h1, rfl, hke, h3, h4, h5⟩ := h
  obtain ⟨x, hx, rfl⟩ := get_p hi
  rw [List.length_map] at hl
  refine (nTwice_full (hG.below h4) h1 hx hl).mono ?_
  rintro e w' ⟨rfl, hb⟩
  exact ⟨rfl, h'.pbelow hb⟩
theorem nc_sends (hG : Glob w0) (hM : Mov w0) (h : NC w0 w b most P C F) (hm : most ≤ 1024) {g cap : Nat} {ms : List MsgV} (hle : ms.length ≤ cap) (hlen : ms.length ≤ 1000)
    (hms : ∀ (i : Nat) (m : MsgV), ms[i]? = some m → (mayM m = true → MsgIn m) ∧ ∃ tA tc oA oc, ∀ W, Touch (fun k => w0.heap.size ≤ k ∧ ¬ F k) w W → M11 W ⟨g, i * 11, none⟩ m tA tc oA oc ∧ MsgIs W (.agg (msgCells m tA tc oA oc)) m) :
    Calls Tryz.prog 18 #[.pointer (some ⟨b, 0, none⟩), .slice (some ⟨g, 0, none⟩) ms.length cap] w fun e w' => e = .returned (.int .i64 (((ms.foldl (sendD most C) P).length : Int) - (P.length : Int))) ∧ NCP w0 w b most (ms.foldl (sendD most C) P) C F w' := by
  obtain ⟨v, ro, L, mp, E, c, h1, rfl, hke, h3, h4, h5⟩ := h
  refine (nSend_gen (hG.below h4) (hM.below h4) ⟨old_errT hG h3, old_moved hM h3⟩ h1 hm hke hle hlen (fun i m hi => ?_)).mono ?_
  · obtain ⟨q1, tA, tc, oA, oc, q2⟩ := hms i m hi
    exact ⟨q1, tA, tc, oA, oc, fun W ro' hs => q2 W (hs.1.mono (fun k _ e => h3 k e))⟩
  · rintro e w' ⟨P', rfl, hp, rfl⟩
    rw [List.length_map]
    exact ⟨rfl, NC.next h1 hke h3 h4 h5 hp⟩
theorem nc_parted (h : NC w0 w b most P C F) (hC : ∀ s ∈ C, 1 ≤ s ∧ s ≤ 3) (hl : C.length ≤ 1000) : Calls Tryz.prog 35 #[.pointer (some ⟨b, 0, none⟩)] w (PartedP w C) := by
  obtain ⟨v, ro, L, mp, E, c, h1, rfl, hke, h3, h4, h5⟩ := h
  exact nParted_ok h1 hke hC hl
theorem NC.remap {w' : World} {v : Value} {ro : Nat → Nat} {L : List Pk} {mp : Nat} {Q : List MapEntry → Prop} (hrm : ro mp ≠ 0) (h3 : ∀ k, ro k ≠ 0 → w0.heap.size ≤ k ∧ ¬ F k) (h4 : Below w0.heap.size w0 w) (h5 : ∀ k, F k → k < w.heap.size) (h : MapP w b most v L mp ro Q w') {C' : List Int} (hQ : ∀ E', Q E' → E'.map pairE = C'.map pairC) : NCP w0 w b most (L.map Pk.p) C' F w' := by
  obtain ⟨E', c', h1, h2, hq⟩ := h
  have hT : Touch (fun k => w0.heap.size ≤ k ∧ ¬ F k) w w' := h2.mono (fun k _ e => by rw [e]; exact h3 mp hrm)
  exact ⟨⟨v, ro, L, mp, E', c', h1, rfl, hQ E' hq, h3, h4.trans (hT.below (fun i e => e.1) h4.size), fun k hk => Nat.lt_of_lt_of_le (h5 k hk) hT.size⟩, hT⟩
/-- The sites behind Part and Heal. -/
def partC (C : List Int) (s : Int) : List Int := if s ∈ C then C else C ++ [s]
theorem nc_part (hG : Glob w0) (h : NC w0 w b most P C F) {s : Int} (hs : 1 ≤ s ∧ s ≤ 3) : Calls Tryz.prog 32 #[.pointer (some ⟨b, 0, none⟩), .int .i64 s] w fun e w' => e = .returned (.int .i64 0) ∧ NCP w0 w b most P (partC C s) F w' := by
  obtain ⟨v, ro, L, mp, E, c, h1, rfl, hke, h3, h4, h5⟩ := h
  refine (nPart_ok (hG.below h4) (old_errT hG h3) h1 hs).mono ?_
  rintro e w' ⟨rfl, hp⟩
  refine ⟨rfl, NC.remap (by rw [h1.rm]; decide) h3 h4 h5 hp (fun E' hq => ?_)⟩
  rcases hq with ⟨j, e, hj, he, rfl⟩ | ⟨hno, rfl⟩
  · have hin : s ∈ C := by
      have h2 : pairE e ∈ E.map pairE := List.mem_map_of_mem (List.mem_of_getElem? hj)
      rw [hke] at h2
      obtain ⟨x, hx, hxe⟩ := List.mem_map.1 h2
      have h6 := congrArg Prod.fst hxe
      rw [show (pairE e).1 = e.key from rfl, he] at h6
      cases h6
      exact hx
    rw [partC, if_pos hin, ← hke]
    have hv : e.val = .agg #[] := by
      have h2 : pairE e ∈ E.map pairE := List.mem_map_of_mem (List.mem_of_getElem? hj)
      rw [hke] at h2
      obtain ⟨x, hx, hxe⟩ := List.mem_map.1 h2
      exact (congrArg Prod.snd hxe).symm
    have he2 : { e with val := .agg #[] } = e := by cases e; simp at hv ⊢; exact hv.symm
    rw [he2]
    congr 1
    exact List.ext_getElem? (fun q => by
      rw [List.getElem?_set]
      split
      · next hq => subst hq; split
                   · rw [hj]
                   · rename_i hl; exact absurd (List.getElem?_eq_some_iff.1 hj).1 hl
      · rfl)
  · have hin : s ∉ C := fun hc => by
      obtain ⟨j, e, hj, he, _⟩ := keys_have hke hc
      exact hno e (List.mem_of_getElem? hj) he
    rw [partC, if_neg hin, List.map_append, List.map_append, hke]
    rfl
theorem nc_heal (hG : Glob w0) (h : NC w0 w b most P C F) (hn : C.Nodup) {s : Int} (hs : 1 ≤ s ∧ s ≤ 3) : Calls Tryz.prog 33 #[.pointer (some ⟨b, 0, none⟩), .int .i64 s] w fun e w' => e = .returned (.int .i64 0) ∧ NCP w0 w b most P (C.erase s) F w' := by
  obtain ⟨v, ro, L, mp, E, c, h1, rfl, hke, h3, h4, h5⟩ := h
  refine (nHeal_ok (hG.below h4) (old_errT hG h3) h1 hs).mono ?_
  rintro e w' ⟨rfl, hp⟩
  refine ⟨rfl, NC.remap (by rw [h1.rm]; decide) h3 h4 h5 hp (fun E' hq => ?_)⟩
  rcases hq with ⟨j, e, hj, he, rfl⟩ | ⟨hno, rfl⟩
  · have hjC : C[j]? = some s := by
      have h2 : (E.map pairE)[j]? = some (pairE e) := by rw [List.getElem?_map, hj]; rfl
      rw [hke, List.getElem?_map] at h2
      cases hx : C[j]? with
      | none => rw [hx] at h2; cases h2
      | some x =>
        rw [hx] at h2
        have h6 := congrArg Prod.fst (Option.some.inj h2)
        rw [show (pairE e).1 = e.key from rfl, he] at h6
        cases h6
        rfl
    have hidx : C.erase s = C.eraseIdx j := erase_at hn hjC
    rw [hidx]
    have hm : ∀ {α β : Type} (f : α → β) (l : List α) (j : Nat), (l.eraseIdx j).map f = (l.map f).eraseIdx j := fun f l => by
      induction l with
      | nil => intro j; rfl
      | cons y r ih => intro j; cases j with
        | zero => rfl
        | succ j => simp [ih]
    rw [hm, hm, hke]
  · have hin : s ∉ C := fun hc => by
      obtain ⟨j, e, hj, he, _⟩ := keys_have hke hc
      exact hno e (List.mem_of_getElem? hj) he
    rw [List.erase_of_not_mem hin, hke]
theorem nc_part_arg (hG : Glob w0) (h : NC w0 w b most P C F) {s : Int} (hs : ¬ (1 ≤ s ∧ s ≤ 3)) : Calls Tryz.prog 32 #[.pointer (some ⟨b, 0, none⟩), .int .i64 s] w fun e w' => e = .returned (.int .i64 2) ∧ NCP w0 w b most P C F w' := by
  have h' := h
  obtain ⟨v, ro, L, mp, E, c, h1, rfl, hke, h3, h4, h5⟩ := h
  refine (nPart_arg (hG.below h4) h1 hs).mono ?_
  rintro e w' ⟨rfl, hb⟩
  exact ⟨rfl, h'.pbelow hb⟩
theorem nc_heal_arg (hG : Glob w0) (h : NC w0 w b most P C F) {s : Int} (hs : ¬ (1 ≤ s ∧ s ≤ 3)) : Calls Tryz.prog 33 #[.pointer (some ⟨b, 0, none⟩), .int .i64 s] w fun e w' => e = .returned (.int .i64 2) ∧ NCP w0 w b most P C F w' := by
  have h' := h
  obtain ⟨v, ro, L, mp, E, c, h1, rfl, hke, h3, h4, h5⟩ := h
  refine (nHeal_arg (hG.below h4) h1 hs).mono ?_
  rintro e w' ⟨rfl, hb⟩
  exact ⟨rfl, h'.pbelow hb⟩
end
end Go.Proofs.YtmbonngjkgcijaaGreatDoor

namespace Go.Proofs.YtmbonngjkgcijaaGreatDoor
open Go.RowKit Go.Shelf
/-- A packet of the document's: its bytes, site and wait; and where the bytes lie. -/
structure RP where
  bs : List UInt8
  site : Int
  waits : Int
  A : Option Addr
  cap : Nat
def RP.v (x : RP) : Value := .slice x.A x.bs.length x.cap
def RP.a (x : RP) : Array Value := #[x.v, .int .i64 x.site, .int .i64 x.waits]
def RP.c (x : RP) : List Value := x.a.toList
def RP.p (x : RP) : P3 := (x.bs, x.site, x.waits)
def rpC (L : List RP) : List Value := L.flatMap RP.c
theorem rpC_app (A B : List RP) : rpC (A ++ B) = rpC A ++ rpC B := by unfold rpC; simp
theorem rpC_len (L : List RP) : (rpC L).length = L.length * 3 := by
  induction L with
  | nil => rfl
  | cons x r ih =>
    unfold rpC at *
    rw [List.flatMap_cons, List.length_append, ih, List.length_cons]
    show 3 + _ = _
    omega
theorem rpC_one (L : List RP) : ∀ u ∈ rpC L, u.oneCell' = true := fun u hu => by
  obtain ⟨x, _, hx⟩ := List.mem_flatMap.1 hu
  simp [RP.c, RP.a, RP.v] at hx
  rcases hx with rfl | rfl | rfl <;> rfl
theorem rpC_get {L : List RP} {j i : Nat} {x : RP} (h : L[j]? = some x) (hi : i < 3) : (rpC L)[j * 3 + i]? = x.c[i]? := by
  induction L generalizing j with
  | nil => simp at h
  | cons y r ih =>
    unfold rpC at *
    rw [List.flatMap_cons]
    cases j with
    | zero =>
      cases h
      rw [Nat.zero_mul, Nat.zero_add, List.getElem?_append_left (by show i < 3; exact hi)]
    | succ j =>
      rw [List.getElem?_append_right (by show 3 ≤ _; omega)]
      show (List.flatMap RP.c r)[(j + 1) * 3 + i - 3]? = _
      rw [show (j + 1) * 3 + i - 3 = j * 3 + i from by omega]
      exact ih h
theorem infoRP : (Tryz.prog.info? 102).map (fun i => (i.zero, i.size, i.bytes)) = some (some (.agg #[.slice none 0 0, .int .i64 0, .int .i64 0]), 3, 40) := by kernel_rfl
/-- The document's own net in memory. -/
structure RNt (w : World) (r : Nat) (v : Value) (most : Int) (L : List RP) (ct : Nat → Bool) : Prop where
  head : w.heap[r]? = some (.cells #[.int .i64 most, v, .bool (ct 0), .bool (ct 1), .bool (ct 2), .bool (ct 3)] 32 (0, 0))
  row : RowIs w 3 v L.length (rpC L)
  off : v.ownBlock ≠ some r
section
variable {w w' w0 : World} {r : Nat} {v : Value} {most : Int} {L M : List RP} {ct : Nat → Bool}
theorem RNt.below (h : RNt w r v most L ct) (hb : Below w.heap.size w w') : RNt w' r v most L ct :=
  ⟨(hb.block r (heap_lt h.head)).trans h.head, h.row.below hb, h.off⟩
theorem RNt.touch {S : Nat → Prop} (h : RNt w r v most L ct) (ht : Touch S w w') (hr : ¬ S r) (hv : ∀ g, v.ownBlock = some g → ¬ S g) : RNt w' r v most L ct :=
  ⟨(ht.block r (heap_lt h.head) hr).trans h.head, RowIs.touch h.row ht hv, h.off⟩
/-- A row made since w0. -/
structure NewRow (w0 w : World) (v : Value) (L : List RP) : Prop where
  row : RowIs w 3 v L.length (rpC L)
  new : ∀ k, v.ownBlock = some k → w0.heap.size ≤ k
  bel : Below w0.heap.size w0 w
theorem NewRow.nil (w : World) : NewRow w w (.slice none 0 0) [] := ⟨RowIs.nil _ _, fun k e => (by cases e), Below.refl _ _⟩
theorem NewRow.below (h : NewRow w0 w v L) (hb : Below w.heap.size w w') : NewRow w0 w' v L := ⟨h.row.below hb, h.new, h.bel.trans (hb.mono h.bel.size)⟩
theorem NewRow.app (h : NewRow w0 w v L) {x : Value} (hx : Src Tryz.prog 3 29 x M.length (rpC M) w) (hl : L.length + M.length ≤ 100000) :
    ∃ A c w', (Builtin.append_ #[29, 29] 29 #[v, x]).run Tryz.prog w = .ok (.slice A (L.length + M.length) c) w' ∧ NewRow w0 w' (.slice A (L.length + M.length) c) (L ++ M) := by
  obtain ⟨v', w', hr, hrow, hg, ho⟩ := run_append_row w 29 102 29 29 Tryz.underlying29 infoRP rfl (by omega) (by omega) v L.length M.length (rpC L) (rpC M) x h.row hx (by omega)
  obtain ⟨A, c, rfl, _⟩ := id hrow.form
  refine ⟨A, c, w', hr, ⟨by rw [List.length_append, rpC_app]; exact hrow, fun k e => ?_, h.bel.trans (((Touch.refl (fun k => v.ownBlock = some k) w).grown hg (fun k e _ => e)).below (fun i e => h.new i e) h.bel.size)⟩⟩
  rcases ho with e2 | e2
  · exact h.new k (e2 ▸ e)
  · rw [e] at e2; injection e2 with e2; have := h.bel.size; omega
/-- The row of a net is another one. -/
theorem RNt.store (h : RNt w0 r v most L ct) {v' : Value} (hn : NewRow w0 w v' M) : RNt (w.setCell ⟨r, 1, none⟩ v') r v' most M ct ∧ Touch (fun k => k = r) w0 (w.setCell ⟨r, 1, none⟩ v') := by
  have hr0 := heap_lt h.head
  have hhd := (hn.bel.block r hr0).trans h.head
  have ht : Touch (fun k => k = r) w (w.setCell ⟨r, 1, none⟩ v') := Touch.setCell (S := fun k => k = r) (Touch.refl _ w) ⟨r, 1, none⟩ (fun _ => rfl) v'
  refine ⟨⟨?_, RowIs.touch hn.row ht (fun k e e2 => by have := hn.new k e; omega), fun e => by have := hn.new r e; omega⟩, Touch.setCell (S := fun k => k = r) (Touch.of_below hn.bel) ⟨r, 1, none⟩ (fun _ => rfl) v'⟩
  have := set_at hhd 1 v'
  simpa using this
/-- A part of a row, as a source. -/
theorem rp_part {g n cap : Nat} {L : List RP} (h : RowIs w 3 (.slice (some ⟨g, 0, none⟩) n cap) n (rpC L)) {A M B : List RP} (hL : L = A ++ M ++ B) (c : Nat) :
    Src Tryz.prog 3 29 (.slice (some ⟨g, A.length * 3, none⟩) M.length c) M.length (rpC M) w :=
  Src.ofSlice _ Tryz.underlying29 ⟨g, A.length * 3, none⟩ M.length c (rpC M) (rpC_len M) (fun j u hu => by
    have hj := (List.getElem?_eq_some_iff.1 hu).1
    rcases h with ⟨e, _⟩ | ⟨g', cap', e, _, _, hc⟩
    · cases e
    · injection e with e _ _
      injection e with e
      injection e with e _ _
      subst e
      have e2 : (⟨g, A.length * 3, none⟩ : Addr).add j = ⟨g, A.length * 3 + j, none⟩ := by
        unfold Addr.add
        split
        · subst j; rfl
        · simp
      rw [e2]
      refine hc.holds _ _ ?_
      rw [hL, rpC_app, rpC_app, List.getElem?_append_left (by rw [List.length_append, rpC_len]; omega), List.getElem?_append_right (by rw [rpC_len]; omega), rpC_len]
      rw [show A.length * 3 + j - A.length * 3 = j from by omega]
      exact hu) (rpC_one _)
/-- What slicing a row from its front, or up to its end, gives. -/
theorem rp_front {A M : List RP} {g n cap : Nat} (h : RowIs w 3 (.slice (some ⟨g, 0, none⟩) n cap) n (rpC (A ++ M))) (c : Nat) : Src Tryz.prog 3 29 (.slice (some ⟨g, 0, none⟩) A.length c) A.length (rpC A) w := by
  have := rp_part (A := []) (M := A) (B := M) h (by simp) c
  simpa using this
theorem rp_end {A M : List RP} {g n cap : Nat} (h : RowIs w 3 (.slice (some ⟨g, 0, none⟩) n cap) n (rpC (A ++ M))) (hn : n = (A ++ M).length) (hc : n ≤ cap) (c : Nat) : Src Tryz.prog 3 29 (.slice (if cap = A.length then some ⟨g, 0, none⟩ else some ⟨g, A.length * 3, none⟩) M.length c) M.length (rpC M) w := by
  rw [List.length_append] at hn
  by_cases e : cap = A.length
  · rw [if_pos e]
    obtain rfl := List.eq_nil_of_length_eq_zero (l := M) (by omega)
    exact Src.ofSlice _ Tryz.underlying29 ⟨g, 0, none⟩ 0 _ [] rfl (fun j u hu => by simp at hu) (fun u hu => by cases hu)
  · rw [if_neg e]
    exact rp_part (A := A) (M := M) (B := []) h (by simp) c
theorem rp_one {b : Nat} {x : RP} {T : TypeId} (h : w.heap[b]? = some (.cells x.a T (0, 0))) : Src Tryz.prog 3 29 (.slice (some ⟨b, 0, none⟩) 1 1) [x].length (rpC [x]) w :=
  Src.ofSlice _ Tryz.underlying29 ⟨b, 0, none⟩ 1 1 (rpC [x]) rfl (fun k u hu => by
    rw [add0, cell_of h k]
    simpa [rpC, RP.c] using hu) (rpC_one _)
end
section
variable {w : World} {r : Nat} {v : Value} {most : Int} {ct : Nat → Bool}
/-- What a call that gives a net another row leaves. -/
def RPost (w : World) (r : Nat) (most : Int) (L : List RP) (ct : Nat → Bool) (w' : World) : Prop := ∃ v', RNt w' r v' most L ct ∧ Touch (fun k => k = r) w w' ∧ ∀ k, v'.ownBlock = some k → w.heap.size ≤ k
set_option maxRecDepth 100000 in
set_option maxHeartbeats 4000000 in
theorem rnput_any {A B : List RP} (h : RNt w r v most (A ++ B) ct) (hl : (A ++ B).length ≤ 2000) {x : RP} :
    Calls Tryz.prog 96 #[.pointer (some ⟨r, 0, none⟩), .int .i64 A.length, .agg x.a] w fun e w' => e = .returned (.tuple #[]) ∧ RPost w r most (A ++ [x] ++ B) ct w' := by
  have hr0 := heap_lt h.head
  have hb0 := below_new (w := w) (.cells x.a 102)
  have hat0 := alloc_at w (.cells x.a 102)
  obtain ⟨W0, hW0⟩ : ∃ W, W = w.alloc (.cells x.a 102) := ⟨_, rfl⟩
  rw [← hW0] at hb0 hat0
  obtain ⟨vA, cp, rfl, h1, h2, _⟩ := id (RowIs.form h.row)
  unfold maxLen at h2
  -- what slicing gives
  have hsl : ∃ xA xB : Value, (∀ W, Below w.heap.size w W → Src Tryz.prog 3 29 xA A.length (rpC A) W ∧ Src Tryz.prog 3 29 xB B.length (rpC B) W) ∧ ((vA = none ∧ A = [] ∧ B = [] ∧ xA = .slice none 0 0 ∧ xB = .slice none 0 0) ∨ ∃ g, vA = some ⟨g, 0, none⟩ ∧ xA = .slice (some ⟨g, 0, none⟩) A.length cp ∧ xB = .slice (if cp = A.length then some ⟨g, 0, none⟩ else some ⟨g, A.length * 3, none⟩) B.length (cp - A.length)) := by
    rcases h.row with ⟨e, hn, _⟩ | ⟨g, cp', e, _, _, _⟩
    · injection e with e1 e2 e3
      have hz : (A ++ B).length = 0 := e2
      rw [List.length_append] at hz
      obtain rfl := List.eq_nil_of_length_eq_zero (l := A) (by omega)
      obtain rfl := List.eq_nil_of_length_eq_zero (l := B) (by omega)
      exact ⟨_, _, fun W _ => ⟨Src.ofNil _ Tryz.underlying29 0, Src.ofNil _ Tryz.underlying29 0⟩, .inl ⟨e1, rfl, rfl, rfl, rfl⟩⟩
    · injection e with e1 e2 e3
      subst e1 e3
      exact ⟨_, _, fun W hW => ⟨rp_front (h.row.below hW) _, rp_end (h.row.below hW) rfl h1 _⟩, .inr ⟨g, rfl, rfl, rfl⟩⟩
  obtain ⟨xA, xB, hsrc, hform⟩ := hsl
  obtain ⟨A1, c1, w1, hr1, hn1⟩ := (NewRow.nil W0).app (M := A) (hsrc W0 hb0).1 (by rw [List.length_append] at hl; simp; omega)
  rw [List.length_nil, Nat.zero_add] at hr1 hn1
  rw [List.nil_append] at hn1
  have hk1 := hn1.bel
  have hb1 : Below w.heap.size w w1 := hb0.trans (hk1.mono hb0.size)
  have hat1 := (hk1.block _ (heap_lt hat0)).trans hat0
  have hb2 := below_new (w := w1) (.cells x.a 102)
  have hat2 := alloc_at w1 (.cells x.a 102)
  obtain ⟨A3, c3, w3, hr3, hn3⟩ := (hn1.below hb2).app (M := [x]) (rp_one hat2) (by rw [List.length_append] at hl; simp; omega)
  have hb3 : Below w.heap.size w w3 := hb0.trans (hn3.bel.mono hb0.size)
  obtain ⟨A4, c4, w4, hr4, hn4⟩ := hn3.app (M := B) (hsrc w3 hb3).2 (by rw [List.length_append] at hl; simp; omega)
  have hst := (h.below hb0).store hn4
  have HF : Hid (RPost w r most (A ++ [x] ++ B) ct (w4.setCell ⟨r, 1, none⟩ (.slice A4 ((A ++ [x]).length + B.length) c4))) := Lib.hid ⟨_, hst.1, (Touch.of_below hb0).trans hst.2 (fun _ _ e => e), fun k e => Nat.le_trans hb0.size (hn4.new k e)⟩
  have kr0 : W0.cell? ⟨r, 1, none⟩ = some (.slice vA (A ++ B).length cp) := cell_of ((hb0.block r hr0).trans h.head) 1
  have kr3 : w3.cell? ⟨r, 1, none⟩ = some (.slice vA (A ++ B).length cp) := cell_of ((hb3.block r hr0).trans h.head) 1
  have hb4 : Below w.heap.size w w4 := hb0.trans (hn4.bel.mono hb0.size)
  have kr4 : w4.cell? ⟨r, 1, none⟩ = some (.slice vA (A ++ B).length cp) := cell_of ((hb4.block r hr0).trans h.head) 1
  have fr4 := free0 ((hb4.block r hr0).trans h.head) 1
  have x1 : w1.cell? ⟨w.heap.size, 0, none⟩ = some x.v := cell_of hat1 0
  have x2 : w1.cell? ⟨w.heap.size, 1, none⟩ = some (.int .i64 x.site) := cell_of hat1 1
  have x3 : w1.cell? ⟨w.heap.size, 2, none⟩ = some (.int .i64 x.waits) := cell_of hat1 2
  unfold RP.v at x1
  obtain ⟨n, hn⟩ : ∃ n, (A ++ B).length = n := ⟨_, rfl⟩
  obtain ⟨na, hna⟩ : ∃ n, A.length = n := ⟨_, rfl⟩
  obtain ⟨nb, hnb⟩ : ∃ n, B.length = n := ⟨_, rfl⟩
  have hnn : n = na + nb := by rw [← hn, List.length_append, hna, hnb]
  rw [hn] at kr0 kr3 kr4 h1
  rw [hna] at hr1 hform
  rw [hnb] at hr4 hform HF
  rw [hna] at hr3
  obtain ⟨n4, hn4e⟩ : ∃ n, (A ++ [x]).length + nb = n := ⟨_, rfl⟩
  obtain ⟨n3, hn3e⟩ : ∃ n, na + [x].length = n := ⟨_, rfl⟩
  have hn3f : (A ++ [x]).length = n3 := by rw [List.length_append, hna]; exact hn3e
  rw [hn3e] at hr3
  rw [hn4e] at hr4 HF
  rw [hna, hn3e] at hr4
  have HR1 := Lib.hid hr1
  have HR3 := Lib.hid hr3
  have HR4 := Lib.hid hr4
  have HW0 := Lib.hid hW0
  have q1 : na ≤ n := by omega
  have q3 : n - na = nb := by omega
  have HFO := Lib.hid hform
  rw [List.append_assoc] at HF ⊢
  rcases HFO.out with ⟨rfl, rfl, rfl, rfl, rfl⟩ | ⟨g, rfl, rfl, rfl⟩
  · obtain rfl : na = 0 := hna.symm
    obtain rfl : nb = 0 := hnb.symm
    obtain rfl : n = 0 := hnn
    obtain rfl : cp = 0 := by
      rcases h.row with ⟨e, _⟩ | ⟨g, cp', e, _⟩
      · injection e
      · cases e
    clear hr1 hr3 hr4 hn1 hn3 hn4 hst hk1 hb0 hb1 hb2 hb3 hb4 hat0 hat1 hat2 hW0 hsrc h hl h1 h2 hn3e hn3f hn4e q1 q3 hr0 HFO
    rw [show (([] : List RP).length : Int) = 0 from rfl]
    go_enter Tryz.func96, Tryz.ntmps96
    go_upto_region 2 with fail
    change Code.wp _ _ _ _ (World.alloc w (.cells x.a 102))
    rw [← HW0.out]
    go_wp2_with (at_builtin; first | (refine wpList_app_run rfl _ _ _ _ rfl rfl rfl HR1.out ?_) | (refine wpList_app_run rfl _ _ _ _ rfl rfl rfl HR3.out ?_) | (refine wpList_app_run rfl _ _ _ _ rfl rfl rfl HR4.out ?_))
    all_goals (go_end0; exact ⟨rfl, HF.out⟩)
  · clear hr1 hr3 hr4 hn1 hn3 hn4 hst hk1 hb0 hb1 hb2 hb3 hb4 hat0 hat1 hat2 hW0 hsrc hform h hl hn hnb hnn hn3e hn3f hn4e hr0 HFO
    rw [hna]
    clear hna
    unfold RP.a
    go_enter Tryz.func96, Tryz.ntmps96
    go_upto_region 2 with fail
    change Code.wp _ _ _ _ (World.alloc w (.cells x.a 102))
    rw [← HW0.out]
    go_wp2_with (at_builtin; first | (refine wpList_app_run rfl _ _ _ _ rfl rfl rfl HR1.out ?_) | (refine wpList_app_run rfl _ _ _ _ rfl rfl rfl HR3.out ?_) | (refine wpList_app_run rfl _ _ _ _ rfl rfl rfl HR4.out ?_))
    all_goals (go_end0; exact ⟨rfl, HF.out⟩)
end
end Go.Proofs.YtmbonngjkgcijaaGreatDoor
