/- Rows of texts, sorted and without doubles, where they lie. -/
import Derived.Test.YtoidfkcecggjfaaDoorZBasB
import Derived.Test.YtoidfkcecggjfaaDoorZShv
import Derived.Test.YtoidfkcecggjfaaDoorZValB
import Derived.Test.YtoidfkcecggjfaaDoorZTak
import Derived.Sort.OwnSortedInts
import Derived.Lib.RowBridge
set_option linter.unusedSimpArgs false
set_option linter.unusedVariables false
set_option linter.unnecessarySimpa false
namespace Go.Proofs.YtoidfkcecggjfaaDoor
open Go.RowKit Go.Sort

def strs (l : List K) : List Value := l.map encStr
theorem strs_len (l : List K) : (strs l).length = l.length := List.length_map _
theorem strs_app (a b : List K) : strs (a ++ b) = strs a ++ strs b := List.map_append
theorem strs_at {l : List K} {i : Nat} {k : K} (h : l[i]? = some k) : (strs l)[i]? = some (encStr k) := by unfold strs; rw [List.getElem?_map, h]; rfl
theorem holds_row {w : World} {g cap : Nat} {l : List K} (h : RowC w 1 g cap (strs l)) : Holds encStr w g 0 l.toArray := fun j hj => by
  have hj' : j < l.length := by simpa using hj
  have h1 : (strs l)[j]? = some (encStr l[j]) := by unfold strs; rw [List.getElem?_map, List.getElem?_eq_getElem hj']; rfl
  have h2 := h.le
  rw [strs_len] at h2
  refine ⟨?_, ?_⟩
  · rw [Nat.zero_add, h.holds j _ h1]
    simp [hj']
  · rw [Nat.zero_add]
    exact (h.there j (by omega)).2
theorem row_put {w : World} {g cap n : Nat} {l ts : List K} (h : RowC w 1 g cap (strs l)) (hl : ts.length = l.length) : RowC (putRow encStr (Sort.ahead w n) g 0 ts.toArray) 1 g cap (strs ts) := by
  have hH := holds_row h
  have h2 := h.le
  rw [strs_len] at h2
  have hP : Holds encStr (putRow encStr (Sort.ahead w n) g 0 ts.toArray) g 0 ts.toArray := holds_putRow _ _ _ _ _ _ (holds_ahead _ _ n _ _ _ hH) (by simpa using hl)
  refine ⟨by rw [size_putRow]; exact h.lt, by rw [strs_len]; omega, h.max, fun j b hj => ?_, fun j hj => ?_⟩
  · have hj' : j < ts.length := by have := (List.getElem?_eq_some_iff.1 hj).1; rwa [strs_len] at this
    have h1 : (strs ts)[j]? = some (encStr ts[j]) := by unfold strs; rw [List.getElem?_map, List.getElem?_eq_getElem hj']; rfl
    rw [h1] at hj
    have h3 := (hP j (by simpa using hj')).1
    rw [Nat.zero_add] at h3
    rw [h3, ← hj]
    simp [hj']
  · refine ⟨?_, by rw [frozen?_putRow]; exact (h.there j hj).2⟩
    by_cases hjl : j < ts.length
    · have h3 := (hP j (by simpa using hjl)).1
      rw [Nat.zero_add] at h3
      rw [h3]
      rfl
    · rw [cell?_putRow_other _ _ _ _ _ _ (.inr (.inr (by simp; omega)))]
      exact (h.there j hj).1
theorem touch_put (w : World) (g n : Nat) (d : Array K) : Touch (fun k => k = g) w (putRow encStr (Sort.ahead w n) g 0 d) :=
  ⟨rfl, rfl, rfl, by simp, fun k hk hne => by
    have : g ≠ k := fun e => hne e.symm
    simp [putRow, mapBlock, Sort.ahead, Array.getElem?_modify, this]⟩
theorem touch_grow (w : World) (os : Array Obj) : Below w.heap.size w (grow w os) :=
  ⟨rfl, rfl, rfl, by simp, fun k hk => heap_grow_old w os hk⟩
theorem RowC.less {w : World} {g cap : Nat} {l m : List Value} (h : RowC w 1 g cap (l ++ m)) : RowC w 1 g cap l :=
  ⟨h.lt, by have := h.le; rw [List.length_append] at this; omega, h.max, fun j b hj => h.holds j b (by rw [List.getElem?_append_left (List.getElem?_eq_some_iff.1 hj).1]; exact hj), h.there⟩
/-- slices.Sort of a row of one's own. -/
theorem sort_row {w : World} {v : Value} {l : List K} (h : RowIs w 1 v l.length (strs l)) (hl : l.length ≤ 16777216) : Calls Tryd.prog 27 #[v] w fun e w' => e = .returned (.tuple #[]) ∧ RowIs w' 1 v l.length (strs (sorted l)) ∧ Touch (fun k => v.ownBlock = some k) w w' := by
  rcases h with ⟨rfl, h1, h2⟩ | ⟨g, cap, rfl, h1, h2, h3⟩
  · obtain rfl : l = [] := List.eq_nil_of_length_eq_zero h1
    refine (Any.slices_Sort_string_none Tryd.sortA none 0 w).mono ?_
    rintro e w' ⟨rfl, rfl⟩
    refine ⟨rfl, ?_, Touch.refl _ _⟩
    rw [List.eq_nil_of_length_eq_zero (sorted_len [])]
    exact RowIs.nil _ _
  · refine (Any.slices_Sort_string Tryd.sortA g 0 cap l w (holds_row h3) h3.lt (by omega)).mono ?_
    rintro e w' ⟨rfl, n, os, rfl⟩
    have hp := row_put (n := n) (ts := sorted l) h3 (sorted_len l)
    have hb := touch_grow (putRow encStr (Sort.ahead w n) g 0 (sorted l).toArray) os
    refine ⟨rfl, .inr ⟨g, cap, rfl, by rw [strs_len, sorted_len]; omega, h2, hp.keep hb.size (hb.block g hp.lt)⟩, ?_⟩
    exact ((touch_put w g n (sorted l).toArray).mono (fun k _ e => by rw [e]; rfl)).after hb
/-- slices.Compact of a row of one's own. -/
theorem compact_row {w : World} {v : Value} {l : List K} (h : RowIs w 1 v l.length (strs l)) (hl : l.length ≤ 16777216) : Calls Tryd.prog 28 #[v] w fun e w' => ∃ v', e = .returned v' ∧ v'.ownBlock = v.ownBlock ∧ RowIs w' 1 v' (Lib.compact l).length (strs (Lib.compact l)) ∧ Touch (fun k => v.ownBlock = some k) w w' := by
  rcases h with ⟨rfl, h1, h2⟩ | ⟨g, cap, rfl, h1, h2, h3⟩
  · obtain rfl : l = [] := List.eq_nil_of_length_eq_zero h1
    refine (Any.slices_Compact_string_empty Tryd.compactA none 0 w).mono ?_
    rintro e w' ⟨rfl, rfl⟩
    exact ⟨_, rfl, rfl, RowIs.nil _ _, Touch.refl _ _⟩
  · refine (Any.slices_Compact_string Tryd.compactA g 0 cap l w (holds_row h3) (by omega) h2).mono ?_
    rintro e w' ⟨rfl, q, rfl⟩
    have hle : (Lib.compact l).length ≤ l.length := Lib.compact_length_le l
    have hp := row_put (n := q) (ts := Lib.compact l ++ List.replicate (l.length - (Lib.compact l).length) []) h3 (by rw [List.length_append, List.length_replicate]; omega)
    refine ⟨_, rfl, rfl, .inr ⟨g, cap, rfl, by rw [strs_len]; omega, by omega, ?_⟩, ?_⟩
    · unfold strs at hp ⊢
      rw [List.map_append] at hp
      exact hp.less
    · exact (touch_put w g q _).mono (fun k _ e => by rw [e]; rfl)
/-- A row's cells. -/
theorem RowIs.str {w : World} {v : Value} {l : List K} (h : RowIs w 1 v l.length (strs l)) {i : Nat} {k : K} (hi : l[i]? = some k) : ∃ g cap, v = .slice (some ⟨g, 0, none⟩) l.length cap ∧ l.length ≤ cap ∧ cap ≤ maxLen ∧ v.ownBlock = some g ∧ w.cell? ⟨g, i, none⟩ = some (encStr k) := by
  rcases h with ⟨rfl, h1, h2⟩ | ⟨g, cap, rfl, h1, h2, hc⟩
  · have := (List.getElem?_eq_some_iff.1 hi).1
    omega
  · exact ⟨g, cap, rfl, h2, hc.max, rfl, hc.holds _ _ (strs_at hi)⟩
theorem row_own {w : World} {base : Nat} {e : TypeId} {z : Nat} {v : Value} {n : Nat} {xs : List Value} (h : w.ownsRow base e z v n xs) : RowIs w z v n xs ∧ ∀ g, v.ownBlock = some g → base ≤ g := by
  obtain ⟨h0, ⟨rfl, rfl⟩ | ⟨g, cap, cur, rfl, hg, hh, hn, hc, hs, ht⟩⟩ := h
  · exact ⟨.inl ⟨rfl, rfl, List.eq_nil_of_length_eq_zero (by simpa using h0)⟩, fun g h => by cases h⟩
  · refine ⟨.inr ⟨g, cap, rfl, h0, hn, heap_lt hh, by rw [h0]; exact Nat.mul_le_mul_right _ hn, hc, fun j b hj => ?_, fun j hj => ⟨?_, free0 hh j⟩⟩, fun g' h => by cases h; exact hg⟩
    · rw [cell_of hh]
      rw [← ht, List.getElem?_take] at hj
      split at hj
      · simpa using hj
      · cases hj
    · rw [cell_of hh, Array.getElem?_eq_getElem (by omega)]; rfl
/-- slices.Clone of a row. -/
theorem clone_row {w : World} {v : Value} {l : List K} (h : RowIs w 1 v l.length (strs l)) (hl : l.length ≤ 1000000) : Calls Tryd.prog 26 #[v] w fun e w' => ∃ v', e = .returned v' ∧ RowIs w' 1 v' l.length (strs l) ∧ (∀ b, v'.ownBlock = some b → w.heap.size ≤ b) ∧ Below w.heap.size w w' := by
  rcases h with ⟨rfl, h1, h2⟩ | ⟨g, cap, rfl, h1, h2, h3⟩
  · obtain rfl : l = [] := List.eq_nil_of_length_eq_zero h1
    refine (Any.slices_Clone_string_nil Tryd.cloneA 0 0 w).mono ?_
    rintro e w' ⟨rfl, rfl⟩
    exact ⟨_, rfl, RowIs.nil _ _, (fun b e => by cases e), Below.refl _ _⟩
  · have hc : ∀ j, j < (l.map fun k => (⟨k.toArray⟩ : ByteArray)).length → w.cell? ⟨g, 0 + j, none⟩ = some (.string ((l.map fun k => (⟨k.toArray⟩ : ByteArray)).getD j ByteArray.empty)) := fun j hj => by
      have hj' : j < l.length := by simpa using hj
      rw [Nat.zero_add, h3.holds j _ (strs_at (List.getElem?_eq_getElem hj'))]
      simp [hj']
    refine (Any.slices_Clone_string Tryd.cloneA g 0 l.length cap (l.map fun k => (⟨k.toArray⟩ : ByteArray)) w (by simp) (by omega) hc).mono ?_
    rintro e w' ⟨v', rfl, hr, hne, hb⟩
    have e2 : ((l.map fun k => (⟨k.toArray⟩ : ByteArray)).take l.length).map Value.string = strs l := by
      rw [List.take_of_length_le (by simp), List.map_map]
      rfl
    rw [e2] at hr
    exact ⟨_, rfl, (row_own hr).1, (row_own hr).2, hb⟩
end Go.Proofs.YtoidfkcecggjfaaDoor
