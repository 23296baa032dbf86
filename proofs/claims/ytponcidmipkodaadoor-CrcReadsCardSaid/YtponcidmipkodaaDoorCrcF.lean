/- The reference's Wrap and Peel. -/
import Derived.Test.YtponcidmipkodaaDoorCrcE
import Derived.Laws.IdiomStrings
set_option linter.unusedSimpArgs false
set_option linter.unusedVariables false
set_option linter.unnecessarySimpa false
namespace Go.Proofs.YtponcidmipkodaaDoor
open Go.RowKit

theorem new_own (w : World) (l : List UInt8) (hl : l.length ≤ 1073741824) : OwnBy (w.alloc (.cells (bc l).toArray 5)) w.heap.size (.slice (some ⟨w.heap.size, 0, none⟩) l.length l.length) l := by
  have hblk := heap_alloc_new w (.cells (bc l).toArray 5)
  refine .inr ⟨w.heap.size, l.length, rfl, Nat.le_refl _, by show w.heap.size < (w.heap.push _).size; rw [Array.size_push]; omega, Nat.le_refl _, by unfold maxLen; omega, fun i b hi => ?_, fun j hj => ⟨?_, free0 hblk j⟩⟩
  · rw [cell_of_row _ _ _ _ _ _ hblk]
    simpa using bc_some hi
  · rw [cell_of_row _ _ _ _ _ _ hblk]
    have := bc_some (List.getElem?_eq_getElem hj)
    simpa using (show ((bc l)[j]?).isSome = true by rw [this]; rfl)
theorem bis_string {w : World} {v : Value} {l : List UInt8} (h : BIs w v l) : (convert 22 9 v).run Tryd.prog w = .ok (.string ⟨l.toArray⟩) w := by
  obtain ⟨A, cap, rfl, _, _, h3⟩ := h
  cases A with
  | none =>
    have : l = [] := by
      cases l with
      | nil => rfl
      | cons x r => obtain ⟨a, e, _⟩ := h3 0 x rfl; cases e
    subst this
    exact run_convert_bytes_nil w 22 5 Tryd.underlying22 Tryd.underlying5 0 cap 9 Tryd.underlying9
  | some a =>
    exact run_convert_bytes_back w 22 9 5 a cap l Tryd.underlying22 Tryd.underlying5 Tryd.underlying9 (fun j hj => by
      obtain ⟨a', e, _, hc⟩ := h3 j _ (List.getElem?_eq_getElem hj)
      cases e; exact hc)

set_option maxRecDepth 100000 in
set_option maxHeartbeats 2000000 in
theorem rwrap_any {w : World} {v : Value} {l : List UInt8} (h : BIs w v l) (hl : l.length ≤ 16384) :
    Calls Tryd.prog 16 #[v] w fun e w' => ∃ x, e = .returned x ∧ OwnBy w' w.heap.size x (frameB l) ∧ Below w.heap.size w w' := by
  have HBI := Lib.hid h
  obtain ⟨A, cap, rfl, _, _, h3⟩ := h
  have HPL : Hid ((preB l).length = l.length + 3) := preB_len l
  have HLEN : Hid (frameB l = preB l ++ be4 (sumB (preB l))) := rfl
  have HPRE : Hid (preB l = headB l.length ++ l) := rfl
  have hT : (l.length : Int) ≤ 16384 := by omega
  clear h3
  generalize hTT : l.length = T at *
  have HTT := Lib.hid hTT
  have hcells : (bc (headB T)).toArray = #[.int .u8 167, .int .u8 ((T : Int) / 256), .int .u8 ((T : Int) % 256)] := by
    have e1 : (((T / 256).toUInt8.toNat : Nat) : Int) = (T : Int) / 256 := by rw [u8_mod]; omega
    have e2 : ((T.toUInt8.toNat : Nat) : Int) = (T : Int) % 256 := by rw [u8_mod]; omega
    simp only [bc, headB, List.map_cons, List.map_nil, e1, e2]
    rfl
  have hW : Below w.heap.size w (w.alloc (.cells #[.int .u8 167, .int .u8 ((T : Int) / 256), .int .u8 ((T : Int) % 256)] 5)) := (Below.refl _ _).alloc (Nat.le_refl _) _
  have own0 : Hid (OwnBy (w.alloc (.cells #[.int .u8 167, .int .u8 ((T : Int) / 256), .int .u8 ((T : Int) % 256)] 5)) w.heap.size (.slice (some ⟨w.heap.size, 0, none⟩) 3 3) (headB T)) := by
    have := new_own w (headB T) (by simp [headB])
    rw [hcells] at this
    exact this
  have src : Hid (Src Tryd.prog 1 22 (.slice A T cap) l.length (bc l) (w.alloc (.cells #[.int .u8 167, .int .u8 ((T : Int) / 256), .int .u8 ((T : Int) % 256)] 5))) := (HBI.out.below hW).src
  rw [hTT] at src
  have HW := Lib.hid hW
  have q1 : ¬ (16384 : Int) < (T : Int) := by omega
  clear hcells hW hTT hl
  go_enter Tryd.func16, Tryd.ntmps16
  go_wp2_with (at_builtin; refine wpList_append_by _ rfl _ _ 22 rfl w.heap.size (headB T) l _ _ rfl rfl own0.out (by rw [HTT.out]; exact src.out) ?_ ?_ ?_)
  · have : (headB T).length = 3 := rfl
    have := HTT.out
    omega
  intro v' w1 hown hg
  rw [← HPRE.out] at hown
  have HO := Lib.hid hown
  have HB := Lib.hid (HW.out.grown hg HW.out.size own0.out.rows)
  have HSUM := Lib.hid (rsum_any hown.bis (by rw [HPL.out]; omega))
  generalize preB l = F at *
  obtain ⟨A6, c6, rfl, g1, g2, g3⟩ := hown.bis
  have hS := sumB_lt F
  generalize sumB F = S at *
  have hS' : (S : Int) < 4294967296 := by omega
  have HS := Lib.hid hS
  clear hown hg g3 hS
  go_wp2_with fail
  refine (HSUM.out).mono ?_
  rintro e w2 ⟨rfl, rfl⟩
  have SRC := Lib.hid (new_word w1 S HS.out)
  have hA2 : Below w1.heap.size w1 (w1.alloc (.cells #[.int .u8 ((S : Int) / 16777216), .int .u8 ((S : Int) / 65536 % 256), .int .u8 ((S : Int) / 256 % 256), .int .u8 ((S : Int) % 256)] 5)) := (Below.refl _ _).alloc (Nat.le_refl _) _
  have HOB := Lib.hid (HO.out.below hA2)
  have HAB := Lib.hid (HB.out.trans (hA2.mono HB.out.size))
  clear hA2
  go_wp2_with (at_builtin; refine wpList_append_by _ rfl _ _ 22 rfl w.heap.size F (be4 S) _ _ rfl rfl HOB.out SRC.out ?_ HAB.out.size ?_)
  · rw [HPL.out]
    have : (be4 S).length = 4 := rfl
    omega
  intro v' w' hown hg
  have HO' := Lib.hid hown
  have HB' := Lib.hid (HAB.out.grown hg HAB.out.size HOB.out.rows)
  clear hown hg
  go_wp2
  go_ret
  exact ⟨_, rfl, by rw [HLEN.out]; exact HO'.out, HB'.out⟩
end Go.Proofs.YtponcidmipkodaaDoor
