/- Reach, as its edges tell; the law's own edges. -/
import Derived.Test.YtlbhpeeggbfcpaaZWaiI
import Derived.Test.YtlbhpeeggbfcpaaZWaiJ
set_option linter.unusedSimpArgs false
set_option linter.unusedVariables false
set_option linter.unnecessarySimpa false
namespace Go.Proofs.Ytlbhpeeggbfcpaa
open Go.RowKit
open Go.Maps (Keyed)

theorem mem_compact {l : List Int} {y : Int} (h : y ∈ l) : y ∈ Lib.compact l := by
  obtain ⟨j, hj⟩ := List.getElem?_of_mem h
  have hjl := (List.getElem?_eq_some_iff.1 hj).1
  have hd : ∀ i, i < l.length → l.toArray[i]! = l[i]! := fun i hi => by simp [hi]
  have key : ∀ j, j < l.length → l.toArray[j]! ∈ Lib.compact l := by
    intro j
    induction j with
    | zero =>
      intro h0
      unfold Lib.compact Lib.compactUpTo
      refine List.mem_map.2 ⟨0, List.mem_filter.2 ⟨List.mem_range.2 h0, ?_⟩, rfl⟩
      exact Lib.keeps_lt_one _ 0 (by omega)
    | succ j ih =>
      intro h0
      by_cases he : l.toArray[j + 1]! = l.toArray[j]!
      · rw [he]
        exact ih (by omega)
      · unfold Lib.compact Lib.compactUpTo
        refine List.mem_map.2 ⟨j + 1, List.mem_filter.2 ⟨List.mem_range.2 h0, ?_⟩, rfl⟩
        exact Lib.keeps_pos (by simpa using he)
  have := key j hjl
  have e : l.toArray[j]! = y := by
    have h2 := (List.getElem?_eq_some_iff.1 hj).2
    simp [hjl, h2]
  rwa [e] at this
theorem mem_rises_iff {l : List Int} {y : Int} : y ∈ rises l ↔ y ∈ l := by
  refine ⟨mem_rises, fun h => ?_⟩
  unfold rises
  refine mem_compact ?_
  unfold sorted
  exact (List.mergeSort_perm l _).mem_iff.2 h
theorem find_map_rises (G : Gr) (x : Int) : at_ (G.map fun e => (e.1, rises e.2)) x = if hasK G x then rises (at_ G x) else [] := by
  unfold at_ hasK
  induction G with
  | nil => rfl
  | cons e G ih =>
    rw [List.map_cons, find_hd, find_hd, List.any_cons]
    by_cases h : e.1 = x
    · rw [if_pos h, if_pos h]
      simp [h]
    · rw [if_neg h, if_neg h, ih]
      have : (e.1 == x) = false := by simpa using h
      rw [this, Bool.false_or]
/-- To whom edges go from one. -/
theorem mem_at (l : List (Int × Int)) (x y : Int) : y ∈ at_ (graphR l) x ↔ (x, y) ∈ l := by
  have hm : y ∈ at_ (graph0 l) x ↔ (x, y) ∈ l := by
    rw [at_graph0]
    constructor
    · intro h
      obtain ⟨e, he, rfl⟩ := List.mem_map.1 h
      obtain ⟨h1, h2⟩ := List.mem_filter.1 he
      have : e.1 = x := by simpa using h2
      rw [← this]
      exact h1
    · intro h
      exact List.mem_map.2 ⟨(x, y), List.mem_filter.2 ⟨h, by simp⟩, rfl⟩
  rw [← hm]
  unfold graphR
  rw [find_map_rises]
  by_cases hh : hasK (graph0 l) x = true
  · rw [if_pos hh]
    exact mem_rises_iff
  · rw [if_neg hh]
    rw [at_none (by simpa using hh)]
/-- All for which one waits by and by. -/
structure ReachP (l : List (Int × Int)) (x : Int) (r : List Int) : Prop where
  one : r.Nodup
  first : ∀ y, (x, y) ∈ l → y ∈ r
  next : ∀ y z, y ∈ r → (y, z) ∈ l → z ∈ r
  only : ∀ P : Int → Prop, (∀ y, (x, y) ∈ l → P y) → (∀ y z, P y → (y, z) ∈ l → P z) → ∀ y ∈ r, P y
theorem FromR.reach {l : List (Int × Int)} {x : Int} {N : Nu} {r : List Int} (h : FromR (graphR l) [] (at_ (graphR l) x) N r) : ReachP l x (sorted r) := by
  obtain ⟨h1, h2, h3, h4⟩ := h.left
  have hm : ∀ y, y ∈ sorted r ↔ y ∈ r := fun y => by unfold sorted; exact (List.mergeSort_perm r _).mem_iff
  refine ⟨?_, fun y hy => (hm y).2 (h2 y ((mem_at l x y).2 hy)), fun y z hy hz => (hm z).2 (h3 y ((hm y).1 hy) z ((mem_at l y z).2 hz)), fun P hf hn y hy => h4 P (fun a b ha hb => hn a b ha ((mem_at l a b).1 hb)) (fun a ha => hf a ((mem_at l x a).1 ha)) y ((hm y).1 hy)⟩
  unfold sorted
  exact (List.mergeSort_perm r _).nodup_iff.2 h1
end Go.Proofs.Ytlbhpeeggbfcpaa
