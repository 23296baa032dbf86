/- The reference's Wrap and Peel. The chapter's example (awake); crc.All. -/
import Derived.Test.YtabfbnpbgdlinaaGreatDoorZCrcE
import Derived.Laws.IdiomStrings
import Derived.Lib.SmallJoins
set_option linter.unusedSimpArgs false
set_option linter.unusedVariables false
set_option linter.unnecessarySimpa false
namespace Go.Proofs.YtabfbnpbgdlinaaGreatDoor
open Go.RowKit

theorem new_own (w : World) (l : List UInt8) (hl : l.length ≤ 1073741824) : OwnBy (w.alloc (.cells (bc l).toArray 5)) w.heap.size (.slice (some ⟨w.heap.size, 0, none⟩) l.length l.length) l := by
  have hblk := heap_alloc_new w (.cells (bc l).toArray 5)
  refine .inr ⟨w.heap.size, l.length, rfl, Nat.le_refl _, by show w.heap.size < (w.heap.push _).size; rw [Array.size_push]; omega, Nat.le_refl _, by unfold maxLen; omega, fun i b hi => ?_, fun j hj => ⟨?_, free0 hblk j⟩⟩
  · rw [cell_of_row _ _ _ _ _ _ hblk]
    simpa using bc_some hi
  · rw [cell_of_row _ _ _ _ _ _ hblk]
    have := bc_some (List.getElem?_eq_getElem hj)
    simpa using (show ((bc l)[j]?).isSome = true by rw [this]; rfl)
theorem bis_string {w : World} {v : Value} {l : List UInt8} (h : BIs w v l) : (convert 54 9 v).run Tryz.prog w = .ok (.string ⟨l.toArray⟩) w := by
  obtain ⟨A, cap, rfl, _, _, h3⟩ := h
  cases A with
  | none =>
    have : l = [] := by
      cases l with
      | nil => rfl
      | cons x r => obtain ⟨a, e, _⟩ := h3 0 x rfl; cases e
    subst this
    exact run_convert_bytes_nil w 54 5 Tryz.underlying54 Tryz.underlying5 0 cap 9 Tryz.underlying9
  | some a =>
    exact run_convert_bytes_back w 54 9 5 a cap l Tryz.underlying54 Tryz.underlying5 Tryz.underlying9 (fun j hj => by
      obtain ⟨a', e, _, hc⟩ := h3 j _ (List.getElem?_eq_getElem hj)
      cases e; exact hc)

end Go.Proofs.YtabfbnpbgdlinaaGreatDoor

namespace Go.Proofs.YtabfbnpbgdlinaaGreatDoor
open Go.RowKit

/-- A slice of slices that is laid anew. -/
theorem new_parts (w : World) (xs : List Value) (ls : List (List UInt8)) (hlen : xs.length = ls.length) (hl : ls.length ≤ 1000) (h : ∀ (i : Nat) (x : Value) (l : List UInt8), xs[i]? = some x → ls[i]? = some l → BIs w x l) :
    PIs (w.alloc (.cells xs.toArray 54)) (.slice (some ⟨w.heap.size, 0, none⟩) ls.length ls.length) ls := by
  refine ⟨_, _, rfl, Nat.le_refl _, by unfold maxLen; omega, fun i l hi => ?_⟩
  have hi' : i < xs.length := by rw [hlen]; exact (List.getElem?_eq_some_iff.1 hi).1
  refine ⟨_, xs[i], rfl, by show w.heap.size < (w.heap.push _).size; rw [Array.size_push]; omega, ?_, (h i _ l (List.getElem?_eq_getElem hi') hi).below ((Below.refl _ _).alloc (Nat.le_refl _) _)⟩
  rw [add0, cell_of_row _ _ _ _ _ _ (heap_alloc_new w _)]
  simp [hi']

theorem awake_sum : sumB [49, 50, 51, 52, 53, 54, 55, 56, 57] = 3808858755 := by decide +kernel
theorem new_lit (w : World) (l : List UInt8) (cs : Array Value) (fr : Nat × Nat) (hcs : (bc l).toArray = cs) (hl : l.length ≤ 1000) : BIs (w.alloc (.cells cs 5 fr)) (.slice (some ⟨w.heap.size, 0, none⟩) l.length l.length) l := by
  subst hcs
  refine ⟨_, _, rfl, Nat.le_refl _, by unfold maxLen; omega, fun i b hi => ⟨_, rfl, by show w.heap.size < (w.heap.push _).size; rw [Array.size_push]; omega, ?_⟩⟩
  rw [add0, World.cell?_alloc_mark]
  simpa using bc_some hi
/-- One part. -/
theorem pis_one {w : World} {x : Value} {l : List UInt8} (h : BIs w x l) : PIs (w.alloc (.cells #[x] 54)) (.slice (some ⟨w.heap.size, 0, none⟩) 1 1) [l] :=
  new_parts w [x] [l] rfl (by simp) fun i y m hy hm => by
    match i with
    | 0 =>
      obtain rfl : x = y := by simpa using hy
      obtain rfl : l = m := by simpa using hm
      exact h
    | i + 1 => simp at hy
theorem Below.new {w : World} (o : Obj) : Below w.heap.size w (w.alloc o) := (Below.refl _ _).alloc (Nat.le_refl _) _

theorem Mov.below' {w W : World} (h : Mov w) {B : Nat} (hB : w.heap.size ≤ B) (hW : Below B w W) : Mov W := h.below (hW.mono hB)

end Go.Proofs.YtabfbnpbgdlinaaGreatDoor
