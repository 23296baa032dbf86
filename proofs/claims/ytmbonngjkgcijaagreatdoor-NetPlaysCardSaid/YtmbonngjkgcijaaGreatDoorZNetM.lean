/- The chapter's example; a net that is not there. A net that is not there. The net: Move, Hold, Spoil where the number may not be; Twice where it is full. The law CrcBit. The net: a bit of a packet is turned. The box: what is due, in plain words; a request is sent. NetOrder: what is under way, and the row of what was sent. -/
import Derived.Test.YtmbonngjkgcijaaGreatDoorZNetK
import Derived.Test.YtmbonngjkgcijaaGreatDoorZCrcE
import Derived.Test.YtmbonngjkgcijaaGreatDoorZPosB
set_option linter.unusedSimpArgs false
set_option linter.unusedVariables false
set_option linter.unnecessarySimpa false
namespace Go.Proofs.YtmbonngjkgcijaaGreatDoor
open Go.RowKit Go.Shelf
theorem keptM_ok (g s : Int) (hs : -9223372036854775808 ≤ siteM (keptM g s) ∧ siteM (keptM g s) ≤ 9223372036854775807) : SendOk [] (keptM g s) := fun _ => ⟨keptM_in g s, hs, fun e he => by cases he⟩
theorem kept_sent : [keptM 1 1, keptM 2 2].foldl (sendL 9) [] = [(encM (keptM 1 1), 1, 0), (encM (keptM 2 2), 2, 0)] := by
  have s1 : siteM (keptM 1 1) = 1 := by decide
  have s2 : siteM (keptM 2 2) = 2 := by decide
  simp only [List.foldl_cons, List.foldl_nil]
  rw [show sendL 9 [] (keptM 1 1) = [(encM (keptM 1 1), 1, 0)] from by unfold sendL; rw [if_pos ⟨keptM_may.1, by decide⟩, s1]; rfl]
  unfold sendL
  rw [if_pos ⟨keptM_may.2, by simp⟩, s2]
  rfl
set_option maxRecDepth 100000 in
theorem kept_m11 {W : World} {g : Nat} (h : W.heap[g]? = some (.cells #[.int .i64 13, .int .i64 1, .int .i64 0, .int .i64 1, .int .i64 0, .int .i64 0, .int .i64 0, .int .i64 0, .int .i64 0, .slice none 0 0, .slice none 0 0, .int .i64 13, .int .i64 2, .int .i64 0, .int .i64 2, .int .i64 0, .int .i64 0, .int .i64 0, .int .i64 0, .int .i64 0, .slice none 0 0, .slice none 0 0] 50 (0, 0))) :
    M11 W ⟨g, 0 * 11, none⟩ (keptM 1 1) none 0 none 0 ∧ M11 W ⟨g, 1 * 11, none⟩ (keptM 2 2) none 0 none 0 :=
  ⟨⟨cell_of h 0, cell_of h 1, cell_of h 2, cell_of h 3, cell_of h 4, cell_of h 5, cell_of h 6, cell_of h 7, cell_of h 8, cell_of h 9, cell_of h 10⟩, ⟨cell_of h 11, cell_of h 12, cell_of h 13, cell_of h 14, cell_of h 15, cell_of h 16, cell_of h 17, cell_of h 18, cell_of h 19, cell_of h 20, cell_of h 21⟩⟩
set_option maxRecDepth 100000 in
set_option maxHeartbeats 4000000 in
theorem nawake {w : World} (hG : Glob w) (hM : Mov w) :
    Calls Tryz.prog 12 #[] w fun e w' => e = .returned (.bool true) ∧ Below w.heap.size w w' := by
  have HG := Lib.hid (And.intro hG hM)
  have HNE := Lib.hid (nr_new (w := w) (most := 9) (by decide) (by decide))
  have HK := Lib.hid (fun W g s => kept_any (w := W) g s)
  have qE : ∀ (w : World) (p : Addr), (binOp .eql 23 (.pointer (some p)) (.pointer none)).run Tryz.prog w = .ok (.bool false) w := fun w p => by kernel_rfl
  clear hG hM
  go_enter Tryz.func12, Tryz.ntmps12
  go_wp2_with fail
  refine (HNE.out).mono ?_
  rintro e w1 ⟨b, rfl, hn1⟩
  have HN1 := Lib.hid hn1
  clear hn1
  go_wp2_with fail
  refine (HK.out _ _ _).mono ?_
  rintro e w2 ⟨rfl, hb2⟩
  go_wp2_with fail
  refine (HK.out _ _ _).mono ?_
  rintro e w3 ⟨rfl, hb3⟩
  go_wp2_with fail
  have hb4 := below_new (w := w3) (.cells #[.int .i64 13, .int .i64 1, .int .i64 0, .int .i64 1, .int .i64 0, .int .i64 0, .int .i64 0, .int .i64 0, .int .i64 0, .slice none 0 0, .slice none 0 0, .int .i64 13, .int .i64 2, .int .i64 0, .int .i64 2, .int .i64 0, .int .i64 0, .int .i64 0, .int .i64 0, .int .i64 0, .slice none 0 0, .slice none 0 0] 50)
  have hat4 := alloc_at w3 (.cells #[.int .i64 13, .int .i64 1, .int .i64 0, .int .i64 1, .int .i64 0, .int .i64 0, .int .i64 0, .int .i64 0, .int .i64 0, .slice none 0 0, .slice none 0 0, .int .i64 13, .int .i64 2, .int .i64 0, .int .i64 2, .int .i64 0, .int .i64 0, .int .i64 0, .int .i64 0, .int .i64 0, .slice none 0 0, .slice none 0 0] 50)
  have hn4 := ((HN1.out.below hb2).below hb3).add hb4
  have hs := nr_send HG.out.1 HG.out.2 hn4 (by decide) (g := w3.heap.size) (cap := 2) (ms := [keptM 1 1, keptM 2 2]) (by simp) (by simp) (fun i m hi => by
    have hk : ∀ W, Touch (fun k => w.heap.size ≤ k ∧ ¬ ((fun _ => False) k ∨ (w3.heap.size ≤ k ∧ k < (w3.alloc (.cells #[.int .i64 13, .int .i64 1, .int .i64 0, .int .i64 1, .int .i64 0, .int .i64 0, .int .i64 0, .int .i64 0, .int .i64 0, .slice none 0 0, .slice none 0 0, .int .i64 13, .int .i64 2, .int .i64 0, .int .i64 2, .int .i64 0, .int .i64 0, .int .i64 0, .int .i64 0, .int .i64 0, .slice none 0 0, .slice none 0 0] 50)).heap.size))) (w3.alloc (.cells #[.int .i64 13, .int .i64 1, .int .i64 0, .int .i64 1, .int .i64 0, .int .i64 0, .int .i64 0, .int .i64 0, .int .i64 0, .slice none 0 0, .slice none 0 0, .int .i64 13, .int .i64 2, .int .i64 0, .int .i64 2, .int .i64 0, .int .i64 0, .int .i64 0, .int .i64 0, .int .i64 0, .slice none 0 0, .slice none 0 0] 50)) W → W.heap[w3.heap.size]? = some (.cells #[.int .i64 13, .int .i64 1, .int .i64 0, .int .i64 1, .int .i64 0, .int .i64 0, .int .i64 0, .int .i64 0, .int .i64 0, .slice none 0 0, .slice none 0 0, .int .i64 13, .int .i64 2, .int .i64 0, .int .i64 2, .int .i64 0, .int .i64 0, .int .i64 0, .int .i64 0, .int .i64 0, .slice none 0 0, .slice none 0 0] 50 (0, 0)) := fun W hW => (hW.block _ (heap_lt hat4) (fun e => e.2 (.inr ⟨Nat.le_refl _, heap_lt hat4⟩))).trans hat4
    match i, hi with
    | 0, hi =>
      cases hi
      exact ⟨keptM_ok 1 1 (by decide), none, 0, none, 0, fun W hW => ⟨(kept_m11 (hk W hW)).1, keptM_is W 1 1⟩⟩
    | 1, hi =>
      cases hi
      exact ⟨keptM_ok 2 2 (by decide), none, 0, none, 0, fun W hW => ⟨(kept_m11 (hk W hW)).2, keptM_is W 2 2⟩⟩)
  rw [kept_sent] at hs
  have hd1 : decM (encM (keptM 1 1)) = some (keptM 1 1) := decM_back keptM_may.1 (keptM_in 1 1)
  generalize encM (keptM 1 1) = e1 at hs hd1
  generalize encM (keptM 2 2) = e2 at hs
  have HD := Lib.hid hd1
  clear hb2 hb3 hb4 hat4 hn4 hd1
  refine hs.mono ?_
  clear hs
  rintro e w4 ⟨rfl, hn, _⟩
  have HTW := Lib.hid (nr_twice HG.out.1 hn (by decide) (i := 0) (p := (e1, 1, 0)) rfl (by simp))
  clear hn
  go_wp2_with fail
  refine (HTW.out).mono ?_
  rintro e w5 ⟨rfl, hn5, _⟩
  have hn5 : NR w w5 b 9 [(e1, 1, 0), (e2, 2, 0), (e1, 1, 0)] _ := hn5
  have HMV := Lib.hid (nr_move HG.out.1 hn5 (i := 2) (k := 0) (p := (e1, 1, 0)) rfl (by simp))
  clear hn5
  go_wp2_with fail
  refine (HMV.out).mono ?_
  rintro e w6 ⟨rfl, hn6, _⟩
  have hn6 : NR w w6 b 9 [(e1, 1, 0), (e1, 1, 0), (e2, 2, 0)] _ := hn6
  have HDR := Lib.hid (nr_drop HG.out.1 hn6 (i := 1) (by simp))
  clear hn6
  go_wp2_with fail
  refine (HDR.out).mono ?_
  rintro e w7 ⟨rfl, hn7, _⟩
  have hn7 : NR w w7 b 9 [(e1, 1, 0), (e2, 2, 0)] _ := hn7
  have HHO := Lib.hid (nr_hold HG.out.1 hn7 (i := 0) (p := (e1, 1, 0)) rfl (k := 2) (by decide))
  clear hn7
  go_wp2_with fail
  refine (HHO.out).mono ?_
  rintro e w8 ⟨rfl, hn8, _⟩
  have hn8 : NR w w8 b 9 [(e1, 1, 2), (e2, 2, 0)] _ := hn8
  have HBU := Lib.hid (nr_busy HG.out.1 hn8 (i := 0) (p := (e1, 1, 2)) rfl (show (0 : Int) < 2 by decide))
  clear hn8
  go_wp2_with fail
  refine (HBU.out).mono ?_
  rintro e w9 ⟨rfl, hn9, _⟩
  have hb9 := below_new (w := w9) (.cells zeroC 50)
  have hn10 := hn9.below hb9
  have hw10 : ∀ p ∈ [((e1, 1, 2) : P3), (e2, 2, 0)], 0 ≤ p.2.2 ∧ p.2.2 ≤ 1000 := by simp
  have HTA := Lib.hid (nr_tick hn10 hw10)
  clear hn9 hb9 hn10 hw10
  go_wp2_with fail
  refine (HTA.out).mono ?_
  rintro e w10 ⟨rfl, hn11, _⟩
  have hn11 : NR w w10 b 9 [(e1, 1, 1), (e2, 2, 0)] _ := hn11
  have hw11 : ∀ p ∈ [((e1, 1, 1) : P3), (e2, 2, 0)], 0 ≤ p.2.2 ∧ p.2.2 ≤ 1000 := by simp
  have HTB := Lib.hid (nr_tick hn11 hw11)
  clear hn11 hw11
  go_wp2_with fail
  refine (HTB.out).mono ?_
  rintro e w11 ⟨rfl, hn12, _⟩
  have hn12 : NR w w11 b 9 [(e1, 1, 0), (e2, 2, 0)] _ := hn12
  have HDE := Lib.hid (nr_deliver HG.out.1 HG.out.2 hn12 (i := 0) (p := (e1, 1, 0)) rfl rfl (show (-9223372036854775808 : Int) ≤ 1 ∧ (1 : Int) ≤ 9223372036854775807 by decide))
  clear hn12
  go_wp2_with fail
  refine (HDE.out).mono ?_
  rintro e w12 ⟨⟨hn13, _⟩, hc⟩
  rcases hc with ⟨hd, _⟩ | ⟨m, v, hd, rfl, hm⟩
  · rw [HD.out] at hd; cases hd
  obtain rfl : keptM 1 1 = m := Option.some.inj (HD.out.symm.trans hd)
  obtain ⟨tA, tc, oA, oc, rfl, _⟩ := hm
  have hn13 : NR w w12 b 9 [(e2, 2, 0)] _ := hn13
  have hb13 := below_new (w := w12) (.cells (cellM (keptM 1 1) tA tc oA oc) 50)
  have HLE := Lib.hid (nr_len (hn13.below hb13))
  have HFB := Lib.hid (hn13.below hb13).bel
  clear hn13 hb13 hd
  go_wp2_with fail
  refine (HLE.out).mono ?_
  rintro e w14 ⟨rfl, rfl⟩
  go_wp2_with fail
  go_ret
  exact ⟨rfl, HFB.out⟩
end Go.Proofs.YtmbonngjkgcijaaGreatDoor

namespace Go.Proofs.YtmbonngjkgcijaaGreatDoor
open Go.RowKit Go.Shelf
end Go.Proofs.YtmbonngjkgcijaaGreatDoor

namespace Go.Proofs.YtmbonngjkgcijaaGreatDoor
open Go.RowKit Go.Shelf
theorem codeOf_nam2 (s : ByteArray) {k : Lk} {r : List Lk} : codeOf (.nam s :: k :: r) = codeOf (k :: r) := rfl
/-- A wrapped error tells the same number. -/
theorem in_code {n : Int} {w0 w : World} {v : Value} (hG : Glob w) (s : ByteArray) (h : ErrN n w0 v w) : Calls Tryz.prog 74 #[.string s, v] w fun e w' => ∃ t u, e = .returned (.iface t u) ∧ Hid (Calls Tryz.prog 48 #[.iface t u] w' fun e w2 => e = .returned (.int .i64 n) ∧ Below w'.heap.size w' w2) ∧ Below w.heap.size w w' := by
  obtain ⟨⟨t, u, rfl⟩, ⟨ch, h1, h2, h3, h4⟩, _⟩ := h
  refine (in_some s t u w).mono ?_
  rintro e w' ⟨rfl, rfl⟩
  have hb := below_new (w := w) (.cells #[.iface t u, .string s] 200)
  refine ⟨_, _, rfl, Lib.hid ?_, hb⟩
  cases ch with
  | nil => cases h1
  | cons k r =>
    have hc := code_any (c := .nam s :: k :: r) (v := .iface 198 (.pointer (some ⟨w.heap.size, 0, none⟩))) (hG.below hb) ⟨by simp, _, _, rfl, alloc_at _ _, h1.below hb⟩ (numOk_cons (by simp) h2) (by rw [List.length_cons]; omega) (Below.refl _ _)
    rw [codeOf_nam2, h4] at hc
    exact hc
section
variable {w : World} {b : Nat} {most : Int} {v : Value} {L : List Pk} {mp : Nat} {C : List MapEntry} {c : Nat} {ro : Nat → Nat}
set_option maxRecDepth 100000 in
set_option maxHeartbeats 2000000 in
theorem nHold_arg (hG : Glob w) (h : NetAt w b most v L mp C c ro) {i : Nat} {x : Pk} (hi : L[i]? = some x) {k : Int} (hk : ¬ (0 ≤ k ∧ k ≤ 1000)) : Calls Tryz.prog 28 #[.pointer (some ⟨b, 0, none⟩), .int .i64 i, .int .i64 k] w fun e w' => e = .returned (.int .i64 2) ∧ Below w.heap.size w w' := by
  have HF := Lib.hid (nfind_ok h hi)
  have HW := Lib.hid (nwithin_no (w := w) hk)
  have HG := Lib.hid hG
  unfold Pk.ptr at HF
  clear h hi hG hk
  go_enter Tryz.func28, Tryz.ntmps28
  go_wp2_with fail
  refine (HF.out).mono ?_
  rintro e w1 ⟨rfl, rfl⟩
  go_wp2_with fail
  refine (HW.out).mono ?_
  rintro e w2 ⟨v2, rfl, he⟩
  have HB2 := Lib.hid he.2.2
  have HIN := Lib.hid (in_code (HG.out.below he.2.2) ⟨#[116, 105, 99, 107, 115]⟩ he)
  obtain ⟨⟨t2, u2, rfl⟩, _⟩ := he
  go_wp2_with fail
  refine (HIN.out).mono ?_
  rintro e w3 ⟨t, u, rfl, HC, hb3⟩
  have HB3 := Lib.hid (HB2.out.trans (hb3.mono HB2.out.size))
  clear hb3
  go_wp2_with fail
  refine (HC.out).mono ?_
  rintro e w4 ⟨rfl, hb4⟩
  have HB4 := Lib.hid (HB3.out.trans (hb4.mono HB3.out.size))
  clear hb4
  go_wp2_with fail
  go_ret
  exact ⟨rfl, HB4.out⟩
set_option maxRecDepth 100000 in
set_option maxHeartbeats 2000000 in
theorem nMove_arg (hG : Glob w) (h : NetAt w b most v L mp C c ro) {i : Nat} {x : Pk} (hi : L[i]? = some x) {k : Int} (hk : ¬ (0 ≤ k ∧ k < (L.length : Int))) : Calls Tryz.prog 27 #[.pointer (some ⟨b, 0, none⟩), .int .i64 i, .int .i64 k] w fun e w' => e = .returned (.int .i64 2) ∧ Below w.heap.size w w' := by
  have HF := Lib.hid (nfind_ok h hi)
  have HLE := Lib.hid (nlen_any h)
  have HW := Lib.hid (nwithin_no (w := w) (lo := 0) (hi := (L.length : Int) - 1) (n := k) (by omega))
  have hwr : IntKind.i64.wrap ((L.length : Int) - 1) = (L.length : Int) - 1 := IntWalk.i64_in _ (by have := h.few.1; omega)
  have HG := Lib.hid hG
  unfold Pk.ptr at HF
  clear h hi hG hk
  go_enter Tryz.func27, Tryz.ntmps27
  go_wp2_with fail
  refine (HF.out).mono ?_
  rintro e w1 ⟨rfl, rfl⟩
  go_wp2_with fail
  refine (HLE.out).mono ?_
  rintro e w2 ⟨rfl, rfl⟩
  go_wp2_with fail
  refine (HW.out).mono ?_
  rintro e w2 ⟨v2, rfl, he⟩
  have HB2 := Lib.hid he.2.2
  have HIN := Lib.hid (in_code (HG.out.below he.2.2) ⟨#[112, 108, 97, 99, 101]⟩ he)
  obtain ⟨⟨t2, u2, rfl⟩, _⟩ := he
  go_wp2_with fail
  refine (HIN.out).mono ?_
  rintro e w3 ⟨t, u, rfl, HC, hb3⟩
  have HB3 := Lib.hid (HB2.out.trans (hb3.mono HB2.out.size))
  clear hb3
  go_wp2_with fail
  refine (HC.out).mono ?_
  rintro e w4 ⟨rfl, hb4⟩
  have HB4 := Lib.hid (HB3.out.trans (hb4.mono HB3.out.size))
  clear hb4
  go_wp2_with fail
  go_ret
  exact ⟨rfl, HB4.out⟩
set_option maxRecDepth 100000 in
set_option maxHeartbeats 2000000 in
theorem nSpoil_arg (hG : Glob w) (h : NetAt w b most v L mp C c ro) {i : Nat} {x : Pk} (hi : L[i]? = some x) {k : Int} (hk : ¬ (0 ≤ k ∧ k < 8 * (x.bs.length : Int))) : Calls Tryz.prog 29 #[.pointer (some ⟨b, 0, none⟩), .int .i64 i, .int .i64 k] w fun e w' => e = .returned (.int .i64 2) ∧ Below w.heap.size w w' := by
  have HF := Lib.hid (nfind_ok h hi)
  have hx := List.mem_of_getElem? hi
  have hlen := (h.few.2 x hx).2
  have HW := Lib.hid (nwithin_no (w := w) (lo := 0) (hi := 8 * (x.bs.length : Int) - 1) (n := k) (by omega))
  have hwr0 : IntKind.i64.wrap (8 * (x.bs.length : Int)) = 8 * (x.bs.length : Int) := IntWalk.i64_in _ (by omega)
  have hwr : IntKind.i64.wrap (8 * (x.bs.length : Int) - 1) = 8 * (x.bs.length : Int) - 1 := IntWalk.i64_in _ (by omega)
  have hc := cell_of (h.pk x hx) 0
  unfold Pk.cells Pk.v at hc
  simp at hc
  have HG := Lib.hid hG
  unfold Pk.ptr at HF
  clear h hi hG hk hx hlen
  go_enter Tryz.func29, Tryz.ntmps29
  go_wp2_with fail
  refine (HF.out).mono ?_
  rintro e w1 ⟨rfl, rfl⟩
  go_wp2_with fail
  refine (HW.out).mono ?_
  rintro e w2 ⟨v2, rfl, he⟩
  have HB2 := Lib.hid he.2.2
  have HIN := Lib.hid (in_code (HG.out.below he.2.2) ⟨#[98, 105, 116]⟩ he)
  obtain ⟨⟨t2, u2, rfl⟩, _⟩ := he
  go_wp2_with fail
  refine (HIN.out).mono ?_
  rintro e w3 ⟨t, u, rfl, HC, hb3⟩
  have HB3 := Lib.hid (HB2.out.trans (hb3.mono HB2.out.size))
  clear hb3
  go_wp2_with fail
  refine (HC.out).mono ?_
  rintro e w4 ⟨rfl, hb4⟩
  have HB4 := Lib.hid (HB3.out.trans (hb4.mono HB3.out.size))
  clear hb4
  go_wp2_with fail
  go_ret
  exact ⟨rfl, HB4.out⟩
end
end Go.Proofs.YtmbonngjkgcijaaGreatDoor

namespace Go.Proofs.YtmbonngjkgcijaaGreatDoor
open Go.RowKit

theorem tmod_cases (c : Int) (N : Nat) (hN : 0 < N) : ∃ m : Nat, m < N ∧ (c.tmod N = (m : Int) ∨ (0 < m ∧ c.tmod N = -(m : Int))) := by
  have h2 : (c.tmod N).natAbs < N := by
    rw [Int.natAbs_tmod]
    exact Nat.mod_lt _ (by simpa using hN)
  rcases Int.lt_or_le (c.tmod N) 0 with h | h
  · exact ⟨(c.tmod N).natAbs, h2, .inr ⟨by omega, by omega⟩⟩
  · exact ⟨(c.tmod N).natAbs, h2, .inl (by omega)⟩
theorem flip (x : UInt8) (j : Nat) (hj : j < 8) : ∃ y : UInt8, bits .xor .u8 (x.toNat : Int) ((2 : Int) ^ j % 256) = (y.toNat : Int) ∧ x ≠ y := by
  have h2 : (2 : Int) ^ j % 256 = ((2 ^ j : Nat) : Int) := by
    match j, hj with
    | 0, _ | 1, _ | 2, _ | 3, _ | 4, _ | 5, _ | 6, _ | 7, _ => rfl
  have h3 : 2 ^ j < 256 := by
    match j, hj with
    | 0, _ | 1, _ | 2, _ | 3, _ | 4, _ | 5, _ | 6, _ | 7, _ => decide
  have hx := UInt8.toNat_lt x
  have hlt : x.toNat ^^^ 2 ^ j < 256 := Nat.xor_lt_two_pow (n := 8) hx h3
  have hy : (UInt8.ofNat (x.toNat ^^^ 2 ^ j)).toNat = x.toNat ^^^ 2 ^ j := by
    rw [UInt8.toNat_ofNat']; exact Nat.mod_eq_of_lt hlt
  refine ⟨UInt8.ofNat (x.toNat ^^^ 2 ^ j), ?_, fun e => ?_⟩
  · rw [h2, u8_xor_nat _ _ hx h3, hy]
  · have e2 := congrArg UInt8.toNat e
    rw [hy] at e2
    have e3 := congrArg (x.toNat ^^^ ·) e2
    simp only [← Nat.xor_assoc, Nat.xor_self, Nat.zero_xor] at e3
    have := Nat.two_pow_pos j
    omega
/-- A byte of one's own that is stored. -/
theorem OwnC.set {w : World} {base g cap : Nat} {l : List UInt8} (h : OwnC w base g cap l) {k : Nat} (hk : k < l.length) (y : UInt8) : OwnC (w.setCell ⟨g, k, none⟩ (.int .u8 (y.toNat : Int))) base g cap (l.set k y) := by
  have hs : (w.setCell ⟨g, k, none⟩ (.int .u8 (y.toNat : Int))).heap.size = w.heap.size := by simp [World.setCell]
  have hk2 : k < cap := Nat.lt_of_lt_of_le hk h.le
  have hsame : (w.setCell ⟨g, k, none⟩ (.int .u8 (y.toNat : Int))).cell? ⟨g, k, none⟩ = some (.int .u8 (y.toNat : Int)) := World.cell?_setCell_same' _ _ _ (h.there k hk2).1
  have hother : ∀ j, j ≠ k → (w.setCell ⟨g, k, none⟩ (.int .u8 (y.toNat : Int))).cell? ⟨g, j, none⟩ = w.cell? ⟨g, j, none⟩ := fun j hj => World.cell?_setCell_other _ _ _ _ (fun e => hj (by injection e with _ e _; exact e.symm))
  refine ⟨h.new, by rw [hs]; exact h.lt, by rw [List.length_set]; exact h.le, h.max, fun j b hj => ?_, fun j hj => ⟨?_, by rw [World.frozen?_setCell]; exact (h.there j hj).2⟩⟩
  · by_cases hjk : j = k
    · subst hjk
      rw [List.getElem?_set_self hk] at hj
      rw [hsame, ← Option.some.inj hj]
    · rw [List.getElem?_set_ne (by omega)] at hj
      rw [hother j hjk]
      exact h.holds j b hj
  · by_cases hjk : j = k
    · subst hjk; rw [hsame]; rfl
    · rw [hother j hjk]; exact (h.there j hj).1

end Go.Proofs.YtmbonngjkgcijaaGreatDoor

namespace Go.Proofs.YtmbonngjkgcijaaGreatDoor
open Go.RowKit Go.Shelf
/-- A byte of which one bit was turned. -/
def flipU (x : UInt8) (j : Nat) : UInt8 := UInt8.ofNat (x.toNat ^^^ 2 ^ j)
theorem flipU_ok (x : UInt8) (j : Nat) (hj : j < 8) : bits .xor .u8 (x.toNat : Int) ((2 : Int) ^ j % 256) = ((flipU x j).toNat : Int) ∧ x ≠ flipU x j := by
  obtain ⟨y, h1, h2⟩ := flip x j hj
  have e : y = flipU x j := by
    have h3 : (2 : Int) ^ j % 256 = ((2 ^ j : Nat) : Int) := by
      match j, hj with
      | 0, _ | 1, _ | 2, _ | 3, _ | 4, _ | 5, _ | 6, _ | 7, _ => rfl
    have h4 : 2 ^ j < 256 := by
      match j, hj with
      | 0, _ | 1, _ | 2, _ | 3, _ | 4, _ | 5, _ | 6, _ | 7, _ => decide
    rw [h3, u8_xor_nat _ _ (UInt8.toNat_lt x) h4] at h1
    have h5 : y.toNat = x.toNat ^^^ 2 ^ j := by exact_mod_cast h1.symm
    unfold flipU
    rw [← h5]
    simp
  subst e
  exact ⟨h1, h2⟩
def spoilB (bs : List UInt8) (k : Nat) : List UInt8 := bs.set (k / 8) (flipU (bs[k / 8]?.getD 0) (k % 8))
theorem spoilB_len (bs : List UInt8) (k : Nat) : (spoilB bs k).length = bs.length := List.length_set
section
variable {w : World} {b : Nat} {most : Int} {v : Value} {L : List Pk} {mp : Nat} {C : List MapEntry} {c : Nat} {ro : Nat → Nat}
set_option maxRecDepth 100000 in
set_option maxHeartbeats 4000000 in
theorem nSpoil_ok (hG : Glob w) (h0 : ro 1 = 0) (h : NetAt w b most v L mp C c ro) {i : Nat} {x : Pk} (hi : L[i]? = some x) {k : Nat} (hk : k < 8 * x.bs.length) : Calls Tryz.prog 29 #[.pointer (some ⟨b, 0, none⟩), .int .i64 i, .int .i64 k] w fun e w' => e = .returned (.int .i64 0) ∧ NetP w b most mp C c ro ((L.map Pk.p).set i (spoilB x.bs k, x.site, x.waits)) w' := by
  have HF := Lib.hid (nfind_ok h hi)
  have hx := List.mem_of_getElem? hi
  have hlen := (h.few.2 x hx).2
  have HW := Lib.hid (nwin_ok (lo := 0) (hi := 8 * (x.bs.length : Int) - 1) (n := (k : Int)) (by omega) (by omega) w)
  have HIN := Lib.hid (fun W => in_nil ⟨#[98, 105, 116]⟩ W)
  have hwr0 : IntKind.i64.wrap (8 * (x.bs.length : Int)) = 8 * (x.bs.length : Int) := IntWalk.i64_in _ (by omega)
  have hwr : IntKind.i64.wrap (8 * (x.bs.length : Int) - 1) = 8 * (x.bs.length : Int) - 1 := IntWalk.i64_in _ (by omega)
  have hpk := h.pk x hx
  have hc := cell_of hpk 0
  unfold Pk.cells Pk.v at hc
  simp at hc
  have hO := h.by_ x hx
  have hk8 : k / 8 < x.bs.length := by omega
  obtain ⟨y, hy⟩ : ∃ y, x.bs[k / 8]? = some y := ⟨_, List.getElem?_eq_getElem hk8⟩
  have hset := hO.set hk8 (flipU y (k % 8))
  have hgne : x.g ≠ x.pb := fun e => by have a1 := (h.rp x hx).1; have a2 := (h.rp x hx).2; rw [e, a1] at a2; cases a2
  have hT : Touch (fun q => q = x.g) w (w.setCell ⟨x.g, k / 8, none⟩ (.int .u8 ((flipU y (k % 8)).toNat : Int))) := (Touch.refl (fun q => q = x.g) w).setCell ⟨x.g, k / 8, none⟩ (fun _ => rfl) _
  have hsp : x.bs.set (k / 8) (flipU y (k % 8)) = spoilB x.bs k := by unfold spoilB; rw [hy]; rfl
  rw [hsp] at hset
  have hnet := h.edit (x' := { x with bs := spoilB x.bs k }) hi rfl rfl rfl hT (fun _ e => .inr e) ((hT.block _ (heap_lt hpk) (fun e => hgne e.symm)).trans (by
    rw [hpk]
    unfold Pk.cells Pk.v
    simp only [spoilB_len])) hset ⟨fun e => by
      have := congrArg List.length e
      rw [spoilB_len] at this
      exact (h.few.2 x hx).1 (List.length_eq_zero_iff.1 this), by rw [spoilB_len]; exact hlen⟩
  have hst : Step w (w.setCell ⟨x.g, k / 8, none⟩ (.int .u8 ((flipU y (k % 8)).toNat : Int))) ro ro := Step.same hT (fun q e => by rw [e, (h.rp x hx).2]; decide)
  have HN : Hid (NetP w b most mp C c ro ((L.map Pk.p).set i (spoilB x.bs k, x.site, x.waits)) (w.setCell ⟨x.g, k / 8, none⟩ (.int .u8 ((flipU y (k % 8)).toNat : Int)))) := Lib.hid ⟨v, ro, _, hnet, hst, map_set L i _⟩
  have HC := Lib.hid (codeNil ((hG.step h0 hst).below (below_drew (Below.refl _ _))))
  have HC2 : Hid ((w.setCell ⟨x.g, k / 8, none⟩ (.int .u8 ((flipU y (k % 8)).toNat : Int))).drew.cell? ⟨x.pb, 0, none⟩ = some (.slice (some ⟨x.g, 0, none⟩) x.bs.length x.cap)) := Lib.hid ((World.cell?_setCell_other _ _ _ _ (fun e => hgne (by first | exact congrArg Addr.block e | exact (congrArg Addr.block e).symm))).trans hc)
  have hcell := hO.holds (k / 8) y hy
  have hfz := (hO.there (k / 8) (Nat.lt_of_lt_of_le hk8 hO.le)).2
  have hfl := (flipU_ok y (k % 8) (by omega)).1
  have hq5 : IntKind.i64.wrap ((k : Int) / 8) = ((k / 8 : Nat) : Int) := by rw [IntWalk.i64_in _ (by omega)]; omega
  have hq9 : (k : Int) % 8 = ((k % 8 : Nat) : Int) := by omega
  have hr8 : k % 8 < 8 := by omega
  have hcap := hO.le
  unfold Pk.ptr at HF
  generalize k / 8 = q at *
  generalize k % 8 = r at *
  have hq8I : (q : Int) < (x.bs.length : Int) := by omega
  clear h hi hG hx hlen hpk hO hset hgne hT hsp hnet hst hy
  go_enter Tryz.func29, Tryz.ntmps29
  go_wp2_with fail
  refine (HF.out).mono ?_
  rintro e w1 ⟨rfl, rfl⟩
  go_wp2_with fail
  refine (HW.out).mono ?_
  rintro e w2 ⟨rfl, rfl⟩
  go_wp2_with fail
  refine (HIN.out _).mono ?_
  rintro e w3 ⟨rfl, rfl⟩
  go_wp2_with fail
  refine wp_only ?_
  refine wp_region_held_drew (S := fun W => W.cell? ⟨x.pb, 0, none⟩ = some (.slice (some ⟨x.g, 0, none⟩) x.bs.length x.cap)) (by kernel_rfl) hc (fun hHeld => ?_)
  refine tkH (i := 0) (oi := { dst := some 29, op := .move (.tmp 7), type := 120, pos := "packet.go:80", after := #[], guard := none }) (v := ?vv1) ?hy1 ?rest1
  case hy1 => (refine Or.inl ⟨by rfl, ?_⟩; intro W hSw; (try dsimp only at hSw); go_simp; (try with_reducible rfl))
  try simp only [Act.put, pzz]
  refine tkH (i := 1) (oi := { dst := some 30, op := .nilCheck (.tmp 29), type := 0, pos := "packet.go:80", after := #[⟨0, .data⟩], guard := none }) (v := ?vv2) ?hy2 ?rest2
  case hy2 => (refine Or.inl ⟨by rfl, ?_⟩; intro W hSw; (try dsimp only at hSw); go_simp; (try with_reducible rfl))
  try simp only [Act.put, pzz]
  refine tkH (i := 2) (oi := { dst := some 31, op := .fieldAddr 125 (.tmp 30) 0, type := 0, pos := "packet.go:80", after := #[⟨1, .data⟩], guard := none }) (v := ?vv3) ?hy3 ?rest3
  case hy3 => (refine Or.inl ⟨by rfl, ?_⟩; intro W hSw; (try dsimp only at hSw); go_simp; (try with_reducible rfl))
  try simp only [Act.put, pzz]
  refine tkH (i := 3) (oi := { dst := some 32, op := .load 54 (.tmp 31), type := 54, pos := "packet.go:80", after := #[⟨2, .data⟩], guard := none }) (v := ?vv4) ?hy4 ?rest4
  case hy4 => (refine Or.inl ⟨by rfl, ?_⟩; intro W hSw; (try dsimp only at hSw); go_simp; (try with_reducible rfl))
  try simp only [Act.put, pzz]
  refine tkH (i := 4) (oi := { dst := some 33, op := .move (.tmp 2), type := 3, pos := "packet.go:80", after := #[], guard := none }) (v := ?vv5) ?hy5 ?rest5
  case hy5 => (refine Or.inl ⟨by rfl, ?_⟩; intro W hSw; (try dsimp only at hSw); go_simp; (try with_reducible rfl))
  try simp only [Act.put, pzz]
  refine tkH (i := 5) (oi := { dst := some 34, op := .binOp .quo 3 (.tmp 33) (.const (.int .i64 8)) 3, type := 3, pos := "packet.go:80", after := #[⟨4, .data⟩], guard := none }) (v := (.int .i64 (q : Int))) ?hy6 ?rest6
  case hy6 => ((refine Or.inl ⟨by rfl, ?_⟩; intro W hSw; (try dsimp only at hSw); go_simp; (try exact hq5)))
  try simp only [Act.put, pzz]
  refine tkH (i := 6) (oi := { dst := some 35, op := .indexAddr 54 (.tmp 32) (.tmp 34), type := 0, pos := "packet.go:80", after := #[⟨3, .data⟩, ⟨5, .data⟩], guard := none }) (v := ?vv7) ?hy7 ?rest7
  case hy7 => (refine Or.inl ⟨by rfl, ?_⟩; intro W hSw; (try dsimp only at hSw); go_simp; (try with_reducible rfl))
  try simp only [Act.put, pzz]
  refine tkH (i := 8) (oi := { dst := some 37, op := .move (.tmp 2), type := 3, pos := "packet.go:80", after := #[], guard := none }) (v := ?vv8) ?hy8 ?rest8
  case hy8 => (refine Or.inl ⟨by rfl, ?_⟩; intro W hSw; (try dsimp only at hSw); go_simp; (try with_reducible rfl))
  try simp only [Act.put, pzz]
  refine tkH (i := 9) (oi := { dst := some 38, op := .binOp .rem 3 (.tmp 37) (.const (.int .i64 8)) 3, type := 3, pos := "packet.go:80", after := #[⟨8, .data⟩], guard := none }) (v := (.int .i64 (r : Int))) ?hy9 ?rest9
  case hy9 => ((refine Or.inl ⟨by rfl, ?_⟩; intro W hSw; (try dsimp only at hSw); go_simp; (try exact hq9)))
  try simp only [Act.put, pzz]
  refine tkH (i := 10) (oi := { dst := some 39, op := .binOp .shl 5 (.const (.int .u8 1)) (.tmp 38) 3, type := 5, pos := "packet.go:80", after := #[⟨9, .data⟩], guard := none }) (v := ?vv10) ?hy10 ?rest10
  case hy10 => (refine Or.inl ⟨by rfl, ?_⟩; intro W hSw; (try dsimp only at hSw); go_simp; (try with_reducible rfl))
  try simp only [Act.put, pzz]
  refine wpAnyH_ready (rs := [7]) (by kernel_rfl) (by simp) ?_
  refine AllReadyH.cons (o := { dst := some 36, op := .load 5 (.tmp 35), type := 5, pos := "packet.go:80", after := #[⟨6, .data⟩], guard := none }) rfl (fun K hK => ?step11) ?more11
  case more11 => exact AllReadyH.nil
  ((go_simp; go_wp2_with fail))
  refine hK.out _ _ ?hS11 (fun hHeld => ?rr11)
  case hS11 => (exact hc)
  clear hK K
  try simp only [Act.put, pzz]
  refine tkH (i := 11) (oi := { dst := some 40, op := .binOp .xor 5 (.tmp 36) (.tmp 39) 5, type := 5, pos := "packet.go:80", after := #[⟨7, .data⟩, ⟨10, .data⟩], guard := none }) (v := (.int .u8 ((flipU y r).toNat : Int))) ?hy12 ?rest12
  case hy12 => ((refine Or.inl ⟨by rfl, ?_⟩; intro W hSw; (try dsimp only at hSw); go_simp; (try exact hfl)))
  try simp only [Act.put, pzz]
  refine tkH (i := 12) (oi := { dst := some 41, op := .indexAddr 54 (.tmp 32) (.tmp 34), type := 0, pos := "packet.go:80", after := #[⟨3, .data⟩, ⟨5, .data⟩, ⟨0, .phase⟩, ⟨1, .phase⟩, ⟨2, .phase⟩, ⟨3, .phase⟩, ⟨4, .phase⟩, ⟨5, .phase⟩, ⟨6, .phase⟩, ⟨7, .phase⟩, ⟨8, .phase⟩, ⟨9, .phase⟩, ⟨10, .phase⟩, ⟨11, .phase⟩], guard := none }) (v := ?vv13) ?hy13 ?rest13
  case hy13 => (refine Or.inl ⟨by rfl, ?_⟩; intro W hSw; (try dsimp only at hSw); go_simp; (try with_reducible rfl))
  try simp only [Act.put, pzz]
  have hc2 : (w2.setCell ⟨x.g, q, none⟩ (.int .u8 ((flipU y r).toNat : Int))).drew.cell? ⟨x.pb, 0, none⟩ = some (.slice (some ⟨x.g, 0, none⟩) x.bs.length x.cap) := HC2.out
  refine wpAnyH_ready (rs := [13]) (by kernel_rfl) (by simp) ?_
  refine AllReadyH.cons (o := { dst := none, op := .store 5 (.tmp 41) (.tmp 40), type := 0, pos := "packet.go:80", after := #[⟨12, .data⟩, ⟨11, .data⟩, ⟨0, .phase⟩, ⟨1, .phase⟩, ⟨2, .phase⟩, ⟨3, .phase⟩, ⟨4, .phase⟩, ⟨5, .phase⟩, ⟨6, .phase⟩, ⟨7, .phase⟩, ⟨8, .phase⟩, ⟨9, .phase⟩, ⟨10, .phase⟩, ⟨11, .phase⟩], guard := none }) rfl (fun K hK => ?step14) ?more14
  case more14 => exact AllReadyH.nil
  ((go_simp; go_wp2_with fail))
  refine hK.out _ _ ?hS14 (fun hHeld => ?rr14)
  case hS14 => (exact hc2)
  clear hK K
  try simp only [Act.put, pzz]
  refine wpAnyH_done (by kernel_rfl) ?_ _
  clear hHeld
  dsimp only [onlyN]
  have HD := Lib.hid (HN.out.after (below_drew (Below.refl _ _)))
  generalize (w2.setCell ⟨x.g, q, none⟩ (.int .u8 ((flipU y r).toNat : Int))).drew = W4 at *
  go_wp2_with fail
  refine (HC.out).mono ?_
  rintro e w5 ⟨rfl, hb⟩
  have HN5 := Lib.hid (HD.out.after hb)
  clear hb
  go_wp2_with fail
  go_ret
  exact ⟨rfl, HN5.out⟩
end
end Go.Proofs.YtmbonngjkgcijaaGreatDoor

namespace Go.Proofs.YtmbonngjkgcijaaGreatDoor
open Go.RowKit Go.Shelf

/-- A message that is told, and where its lists lie. -/
structure Ot where
  m : MsgV
  tA : Option Addr
  tc : Nat
  oA : Option Addr
  oc : Nat
section
variable {w w' : World} {b mp : Nat} {ev : Int} {L : List Rq} {c : Nat} {R : Nat → Prop}
end
end Go.Proofs.YtmbonngjkgcijaaGreatDoor

namespace Go.Proofs.YtmbonngjkgcijaaGreatDoor
open Go.RowKit Go.Shelf
theorem nkeys_cut (m : MsgV) : KeysIn (cutM m).os := fun o ho => by have := cutO_keys m.os o ho; omega
/-- The sites of messages that may be. -/
theorem site_in {m : MsgV} (h : mayM m = true) : -9223372036854775808 ≤ siteM m ∧ siteM m ≤ 9223372036854775807 := by
  have F := mayM_fits h
  have h1 := F.fr
  have h2 := F.tt
  unfold siteM
  omega
/-- What else may change while the messages stay. -/
def OrdT (w0 : World) (F : Nat → Prop) (sv : Value) (k : Nat) : Prop := (w0.heap.size ≤ k ∧ ¬ F k) ∨ sv.ownBlock = some k
section
variable {w0 W : World} {b : Nat} {S : List Ot} {F : Nat → Prop} {sv : Value}
end
end Go.Proofs.YtmbonngjkgcijaaGreatDoor
