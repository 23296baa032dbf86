/- Rows of numbers, sorted and without doubles, where they lie. -/
import Derived.Test.YtlbhpeeggbfcpaaZWaiA
import Derived.Test.YtlbhpeeggbfcpaaZShw
import Derived.Sort.OwnSortedInts
import Derived.Lib.RowBridge
set_option linter.unusedSimpArgs false
set_option linter.unusedVariables false
set_option linter.unnecessarySimpa false
namespace Go.Proofs.Ytlbhpeeggbfcpaa
open Go.RowKit Go.Sort

theorem holds_row {w : World} {g cap : Nat} {l : List Int} (h : RowC w 1 g cap (ints l)) : Holds (Value.int .i64) w g 0 l.toArray := fun j hj => by
  have hj' : j < l.length := by simpa using hj
  have h1 : (ints l)[j]? = some (.int .i64 l[j]) := by unfold ints; rw [List.getElem?_map, List.getElem?_eq_getElem hj']; rfl
  have h2 := h.le
  rw [ints_len] at h2
  refine ⟨?_, ?_⟩
  · rw [Nat.zero_add, h.holds j _ h1]
    simp [hj']
  · rw [Nat.zero_add]
    exact (h.there j (by omega)).2
theorem row_put {w : World} {g cap n : Nat} {l ts : List Int} (h : RowC w 1 g cap (ints l)) (hl : ts.length = l.length) : RowC (putRow (Value.int .i64) (Sort.ahead w n) g 0 ts.toArray) 1 g cap (ints ts) := by
  have hH := holds_row h
  have h2 := h.le
  rw [ints_len] at h2
  have hP : Holds (Value.int .i64) (putRow (Value.int .i64) (Sort.ahead w n) g 0 ts.toArray) g 0 ts.toArray := holds_putRow _ _ _ _ _ _ (holds_ahead _ _ n _ _ _ hH) (by simpa using hl)
  refine ⟨by rw [size_putRow]; exact h.lt, by rw [ints_len]; omega, h.max, fun j b hj => ?_, fun j hj => ?_⟩
  · have hj' : j < ts.length := by have := (List.getElem?_eq_some_iff.1 hj).1; rwa [ints_len] at this
    have h1 : (ints ts)[j]? = some (.int .i64 ts[j]) := by unfold ints; rw [List.getElem?_map, List.getElem?_eq_getElem hj']; rfl
    rw [h1] at hj
    have h3 := (hP j (by simpa using hj')).1
    rw [Nat.zero_add] at h3
    rw [h3, ← hj]
    simp [hj']
  · refine ⟨?_, by rw [frozen?_putRow]; exact (h.there j hj).2⟩
    by_cases hjl : j < ts.length
    · have h3 := (hP j (by simpa using hjl)).1
      rw [Nat.zero_add] at h3
      rw [h3]
      rfl
    · rw [cell?_putRow_other _ _ _ _ _ _ (.inr (.inr (by simp; omega)))]
      exact (h.there j hj).1
theorem touch_put (w : World) (g n : Nat) (d : Array Int) : Touch (fun k => k = g) w (putRow (Value.int .i64) (Sort.ahead w n) g 0 d) :=
  ⟨rfl, rfl, rfl, by simp, fun k hk hne => by
    have : g ≠ k := fun e => hne e.symm
    simp [putRow, mapBlock, Sort.ahead, Array.getElem?_modify, this]⟩
theorem touch_grow (w : World) (os : Array Obj) : Below w.heap.size w (grow w os) :=
  ⟨rfl, rfl, rfl, by simp, fun k hk => heap_grow_old w os hk⟩
theorem RowC.less {w : World} {g cap : Nat} {l m : List Value} (h : RowC w 1 g cap (l ++ m)) : RowC w 1 g cap l :=
  ⟨h.lt, by have := h.le; rw [List.length_append] at this; omega, h.max, fun j b hj => h.holds j b (by rw [List.getElem?_append_left (List.getElem?_eq_some_iff.1 hj).1]; exact hj), h.there⟩
def sorted (l : List Int) : List Int := l.mergeSort fun x y => decide (x ≤ y)
theorem sorted_len (l : List Int) : (sorted l).length = l.length := by unfold sorted; rw [List.length_mergeSort]
/-- slices.Sort of a row of one's own. -/
theorem sort_row {w : World} {v : Value} {l : List Int} (h : RowIs w 1 v l.length (ints l)) (hl : l.length ≤ 16777216) : Calls Try.prog 25 #[v] w fun e w' => e = .returned (.tuple #[]) ∧ RowIs w' 1 v l.length (ints (sorted l)) ∧ Touch (fun k => v.ownBlock = some k) w w' := by
  rcases h with ⟨rfl, h1, h2⟩ | ⟨g, cap, rfl, h1, h2, h3⟩
  · obtain rfl : l = [] := List.eq_nil_of_length_eq_zero h1
    refine (AnyM.slices_Sort_int_none Try.sortA none 0 w).mono ?_
    rintro e w' ⟨rfl, rfl⟩
    refine ⟨rfl, ?_, Touch.refl _ _⟩
    rw [List.eq_nil_of_length_eq_zero (sorted_len [])]
    exact RowIs.nil _ _
  · refine (AnyM.slices_Sort_int Try.sortA g 0 cap l w (holds_row h3) h3.lt (by omega)).mono ?_
    rintro e w' ⟨rfl, n, os, rfl⟩
    have hp := row_put (n := n) (ts := sorted l) h3 (sorted_len l)
    have hb := touch_grow (putRow (Value.int .i64) (Sort.ahead w n) g 0 (sorted l).toArray) os
    refine ⟨rfl, .inr ⟨g, cap, rfl, by rw [ints_len, sorted_len]; omega, h2, hp.keep hb.size (hb.block g hp.lt)⟩, ?_⟩
    exact ((touch_put w g n (sorted l).toArray).mono (fun k _ e => by rw [e]; rfl)).after hb
/-- slices.Compact of a row of one's own. -/
theorem compact_row {w : World} {v : Value} {l : List Int} (h : RowIs w 1 v l.length (ints l)) (hl : l.length ≤ 16777216) : Calls Try.prog 41 #[v] w fun e w' => ∃ v', e = .returned v' ∧ v'.ownBlock = v.ownBlock ∧ RowIs w' 1 v' (Lib.compact l).length (ints (Lib.compact l)) ∧ Touch (fun k => v.ownBlock = some k) w w' := by
  rcases h with ⟨rfl, h1, h2⟩ | ⟨g, cap, rfl, h1, h2, h3⟩
  · obtain rfl : l = [] := List.eq_nil_of_length_eq_zero h1
    refine (Any.slices_Compact_int_empty Try.compactA none 0 w).mono ?_
    rintro e w' ⟨rfl, rfl⟩
    exact ⟨_, rfl, rfl, RowIs.nil _ _, Touch.refl _ _⟩
  · refine (Any.slices_Compact_int Try.compactA g 0 cap l w (holds_row h3) (by omega) h2).mono ?_
    rintro e w' ⟨rfl, q, rfl⟩
    have hle : (Lib.compact l).length ≤ l.length := Lib.compact_length_le l
    have hp := row_put (n := q) (ts := Lib.compact l ++ List.replicate (l.length - (Lib.compact l).length) 0) h3 (by rw [List.length_append, List.length_replicate]; omega)
    refine ⟨_, rfl, rfl, .inr ⟨g, cap, rfl, by rw [ints_len]; omega, by omega, ?_⟩, ?_⟩
    · unfold ints at hp ⊢
      rw [List.map_append] at hp
      exact hp.less
    · exact (touch_put w g q _).mono (fun k _ e => by rw [e]; rfl)
end Go.Proofs.Ytlbhpeeggbfcpaa
