/- The reference's Wrap and Peel. -/
import Derived.Test.YtojmfjmnfpnmmaaDoorCrcE
import Derived.Laws.IdiomStrings
set_option linter.unusedSimpArgs false
set_option linter.unusedVariables false
set_option linter.unnecessarySimpa false
namespace Go.Proofs.YtojmfjmnfpnmmaaDoor
open Go.RowKit

theorem new_own (w : World) (l : List UInt8) (hl : l.length ≤ 1073741824) : OwnBy (w.alloc (.cells (bc l).toArray 5)) w.heap.size (.slice (some ⟨w.heap.size, 0, none⟩) l.length l.length) l := by
  have hblk := heap_alloc_new w (.cells (bc l).toArray 5)
  refine .inr ⟨w.heap.size, l.length, rfl, Nat.le_refl _, by show w.heap.size < (w.heap.push _).size; rw [Array.size_push]; omega, Nat.le_refl _, by unfold maxLen; omega, fun i b hi => ?_, fun j hj => ⟨?_, free0 hblk j⟩⟩
  · rw [cell_of_row _ _ _ _ _ _ hblk]
    simpa using bc_some hi
  · rw [cell_of_row _ _ _ _ _ _ hblk]
    have := bc_some (List.getElem?_eq_getElem hj)
    simpa using (show ((bc l)[j]?).isSome = true by rw [this]; rfl)
theorem bis_string {w : World} {v : Value} {l : List UInt8} (h : BIs w v l) : (convert 23 9 v).run Tryd.prog w = .ok (.string ⟨l.toArray⟩) w := by
  obtain ⟨A, cap, rfl, _, _, h3⟩ := h
  cases A with
  | none =>
    have : l = [] := by
      cases l with
      | nil => rfl
      | cons x r => obtain ⟨a, e, _⟩ := h3 0 x rfl; cases e
    subst this
    exact run_convert_bytes_nil w 23 5 Tryd.underlying23 Tryd.underlying5 0 cap 9 Tryd.underlying9
  | some a =>
    exact run_convert_bytes_back w 23 9 5 a cap l Tryd.underlying23 Tryd.underlying5 Tryd.underlying9 (fun j hj => by
      obtain ⟨a', e, _, hc⟩ := h3 j _ (List.getElem?_eq_getElem hj)
      cases e; exact hc)

end Go.Proofs.YtojmfjmnfpnmmaaDoor
