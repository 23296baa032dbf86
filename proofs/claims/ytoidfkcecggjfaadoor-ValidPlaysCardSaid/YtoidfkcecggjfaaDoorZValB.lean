/- Texts, rising and each once: nothing here speaks of the program. -/
import Derived.Lib.SlicesCompact
import Derived.Lib.RowBridge
import Derived.Shelf.Spec.SearchS
import Derived.Sort.Walk0
set_option linter.unusedSimpArgs false
set_option linter.unusedVariables false
set_option linter.unnecessarySimpa false
namespace Go.Proofs.YtoidfkcecggjfaaDoor

/-- A text: its bytes. -/
abbrev K := List UInt8
theorem k_lt_of_le_ne {a b : K} (h : a ≤ b) (hne : a ≠ b) : a < b := (List.le_iff_lt_or_eq.1 h).resolve_right hne
theorem k_le_of_lt {a b : K} (h : a < b) : a ≤ b := List.le_of_lt h
theorem k_irrefl (a : K) : ¬ a < a := List.lt_irrefl a
theorem k_lt_trans {a b c : K} (h : a < b) (h2 : b < c) : a < c := List.lt_trans h h2
theorem k_le_trans {a b c : K} (h : a ≤ b) (h2 : b ≤ c) : a ≤ c := List.le_trans h h2
theorem k_lt_of_le_of_lt {a b c : K} (h : a ≤ b) (h2 : b < c) : a < c := List.lt_of_le_of_lt h h2
def sorted (l : List K) : List K := l.mergeSort fun x y => decide (x ≤ y)
theorem sorted_len (l : List K) : (sorted l).length = l.length := by unfold sorted; rw [List.length_mergeSort]
/-- Each once, rising. -/
def rises (l : List K) : List K := Lib.compact (sorted l)
theorem compact_rises (d : Array K) (hd : ∀ i j, i ≤ j → j < d.size → d[i]! ≤ d[j]!) : ∀ m, m ≤ d.size → (Lib.compactUpTo d m).Pairwise (· < ·) ∧ ∀ y ∈ Lib.compactUpTo d m, y ≤ d[m - 1]!
  | 0, _ => ⟨by unfold Lib.compactUpTo; simp, fun y hy => by unfold Lib.compactUpTo at hy; simp at hy⟩
  | m + 1, hm => by
    obtain ⟨h1, h2⟩ := compact_rises d hd m (by omega)
    rw [Lib.compactUpTo_succ]
    by_cases hk : Lib.keeps d m = true
    · rw [if_pos hk]
      have hk' : m = 0 ∨ d[m]! ≠ d[m - 1]! := by unfold Lib.keeps at hk; simpa using hk
      refine ⟨?_, fun y hy => ?_⟩
      · rw [List.pairwise_append]
        refine ⟨h1, List.pairwise_singleton _ _, fun a ha b hb => ?_⟩
        rw [List.mem_singleton] at hb
        rw [hb]
        rcases hk' with e | e
        · subst e
          unfold Lib.compactUpTo at ha
          simp at ha
        · have h3 := h2 a ha
          have h4 := hd (m - 1) m (by omega) (by omega)
          exact k_lt_of_le_of_lt h3 (k_lt_of_le_ne h4 (Ne.symm e))
      · show y ≤ d[m + 1 - 1]!
        rw [Nat.add_sub_cancel]
        rcases List.mem_append.1 hy with e | e
        · exact k_le_trans (h2 y e) (hd (m - 1) m (by omega) (by omega))
        · rw [List.mem_singleton] at e
          rw [e]
          exact List.le_refl _
    · rw [if_neg hk, List.append_nil]
      refine ⟨h1, fun y hy => ?_⟩
      show y ≤ d[m + 1 - 1]!
      rw [Nat.add_sub_cancel]
      exact k_le_trans (h2 y hy) (hd (m - 1) m (by omega) (by omega))
theorem rises_lt (l : List K) : (rises l).Pairwise (· < ·) := by
  unfold rises Lib.compact
  refine (compact_rises (sorted l).toArray (fun i j hij hj => ?_) _ (by simp)).1
  have hs : (sorted l).Pairwise (· ≤ ·) := by
    have := List.pairwise_mergeSort (le := fun x y : K => decide (x ≤ y)) (fun a b c h1 h2 => by simp only [decide_eq_true_eq] at h1 h2 ⊢; exact k_le_trans h1 h2) (fun a b => by simp only [Bool.or_eq_true, decide_eq_true_eq]; exact List.le_total a b) l
    refine List.Pairwise.imp (fun h => ?_) this
    simpa using h
  have hj' : j < (sorted l).length := by simpa using hj
  have hi' : i < (sorted l).length := by omega
  have e : ∀ (i : Nat) (hi : i < (sorted l).length), (sorted l).toArray[i]! = (sorted l)[i] := fun i hi => by simp [hi]
  rw [e i hi', e j hj']
  by_cases e : i = j
  · subst e; exact List.le_refl _
  · exact List.pairwise_iff_getElem.1 hs i j hi' hj' (by omega)
theorem mem_compact {l : List K} {y : K} (h : y ∈ l) : y ∈ Lib.compact l := by
  obtain ⟨j, hj⟩ := List.getElem?_of_mem h
  have hjl := (List.getElem?_eq_some_iff.1 hj).1
  have key : ∀ j, j < l.length → l.toArray[j]! ∈ Lib.compact l := by
    intro j
    induction j with
    | zero =>
      intro h0
      unfold Lib.compact Lib.compactUpTo
      refine List.mem_map.2 ⟨0, List.mem_filter.2 ⟨List.mem_range.2 h0, ?_⟩, rfl⟩
      exact Lib.keeps_lt_one _ 0 (by omega)
    | succ j ih =>
      intro h0
      by_cases he : l.toArray[j + 1]! = l.toArray[j]!
      · rw [he]
        exact ih (by omega)
      · unfold Lib.compact Lib.compactUpTo
        refine List.mem_map.2 ⟨j + 1, List.mem_filter.2 ⟨List.mem_range.2 h0, ?_⟩, rfl⟩
        exact Lib.keeps_pos (by simpa using he)
  have := key j hjl
  have e : l.toArray[j]! = y := by
    have h2 := (List.getElem?_eq_some_iff.1 hj).2
    simp [hjl, h2]
  rwa [e] at this
theorem of_compact {l : List K} {y : K} (h : y ∈ Lib.compact l) : y ∈ l := by
  unfold Lib.compact Lib.compactUpTo at h
  obtain ⟨j, hj, rfl⟩ := List.mem_map.1 h
  have hjl := List.mem_range.1 (List.mem_filter.1 hj).1
  simp [hjl]
theorem mem_rises {l : List K} {y : K} : y ∈ rises l ↔ y ∈ l := by
  unfold rises
  constructor
  · intro h
    have := of_compact h
    unfold sorted at this
    exact List.mem_mergeSort.1 this
  · intro h
    refine mem_compact ?_
    unfold sorted
    exact List.mem_mergeSort.2 h
theorem rises_len (l : List K) : (rises l).length ≤ l.length := by
  have := Lib.compact_length_le (sorted l)
  rw [sorted_len] at this
  exact this
/-- Rising lists of the same texts are the same. -/
theorem rises_uniq : ∀ {a b : List K}, a.Pairwise (· < ·) → b.Pairwise (· < ·) → (∀ x, x ∈ a ↔ x ∈ b) → a = b
  | [], [], _, _, _ => rfl
  | [], y :: b, _, _, h => by have := (h y).2 (List.mem_cons_self ..); cases this
  | x :: a, [], _, _, h => by have := (h x).1 (List.mem_cons_self ..); cases this
  | x :: a, y :: b, ha, hb, h => by
    obtain ⟨h1, h2⟩ := List.pairwise_cons.1 ha
    obtain ⟨h3, h4⟩ := List.pairwise_cons.1 hb
    have e : x = y := by
      rcases List.mem_cons.1 ((h x).1 (List.mem_cons_self ..)) with e | e
      · exact e
      · rcases List.mem_cons.1 ((h y).2 (List.mem_cons_self ..)) with e2 | e2
        · exact e2.symm
        · exact (k_irrefl _ (k_lt_trans (h1 y e2) (h3 x e))).elim
    subst e
    congr 1
    refine rises_uniq h2 h4 (fun z => ⟨fun hz => ?_, fun hz => ?_⟩)
    · rcases List.mem_cons.1 ((h z).1 (List.mem_cons_of_mem _ hz)) with e | e
      · subst e; exact (k_irrefl _ (h1 _ hz)).elim
      · exact e
    · rcases List.mem_cons.1 ((h z).2 (List.mem_cons_of_mem _ hz)) with e | e
      · subst e; exact (k_irrefl _ (h3 _ hz)).elim
      · exact e
theorem lows_at {x : K} : ∀ {l : List K} (_ : l.Pairwise (· < ·)) (i : Nat) (v : K), l[i]? = some v → (i < l.countP (fun y => decide (y < x)) ↔ v < x)
  | [], _, i, v, hi => by simp at hi
  | a :: l, h, i, v, hi => by
    obtain ⟨h1, h2⟩ := List.pairwise_cons.1 h
    rw [List.countP_cons]
    by_cases ha : a < x
    · rw [if_pos (by simpa using ha)]
      cases i with
      | zero =>
        have : a = v := by simpa using hi
        subst this
        exact ⟨fun _ => ha, fun _ => by omega⟩
      | succ i =>
        have hi' : l[i]? = some v := by simpa using hi
        rw [← lows_at h2 i v hi']
        omega
    · rw [if_neg (by simpa using ha)]
      have h0 : l.countP (fun y => decide (y < x)) = 0 := by
        rw [List.countP_eq_zero]
        intro b hb
        simp only [decide_eq_true_eq]
        exact fun e => ha (k_lt_trans (h1 b hb) e)
      rw [h0]
      constructor
      · intro e; omega
      · intro e
        cases i with
        | zero =>
          have : a = v := by simpa using hi
          subst this
          exact (ha e).elim
        | succ i =>
          have hi' : l[i]? = some v := by simpa using hi
          exact (ha (k_lt_trans (h1 v (List.mem_of_getElem? hi')) e)).elim
/-- What slices.BinarySearch finds in a rising list. -/
theorem search_found {l : List K} (hl : l.Pairwise (· < ·)) (x : K) (Sx : Nat → ByteArray) (hS : ∀ t, Sx t = ⟨(l.getD t x).toArray⟩) :
    decide (Lib.bsGo (fun t => Op.bytesLess (Sx t).toList (⟨x.toArray⟩ : ByteArray).toList) l.length 0 l.length < l.length ∧ Sx (Lib.bsGo (fun t => Op.bytesLess (Sx t).toList (⟨x.toArray⟩ : ByteArray).toList) l.length 0 l.length) = ⟨x.toArray⟩) = decide (x ∈ l) := by
  have hb : ∀ y : K, (⟨y.toArray⟩ : ByteArray).toList = y := fun y => by simp [ByteArray.toList_eq]
  have hSl : ∀ t, (Sx t).toList = l.getD t x := fun t => by rw [hS]; exact hb _
  obtain ⟨k, hk⟩ : ∃ k, k = l.countP (fun y => decide (y < x)) := ⟨_, rfl⟩
  have hkl : k ≤ l.length := by rw [hk]; exact List.countP_le_length
  have e : Lib.bsGo (fun t => Op.bytesLess (Sx t).toList (⟨x.toArray⟩ : ByteArray).toList) l.length 0 l.length = k := by
    refine Lib.bsGo_spec _ k (fun t ht => ?_) (fun t ht => ?_) l.length 0 l.length (by omega) (by omega) hkl
    · show Op.bytesLess _ _ = true
      rw [hSl, hb, Go.Proofs.bytesLess_eq, List.getD_eq_getElem?_getD, List.getElem?_eq_getElem (by omega)]
      exact decide_eq_true ((lows_at hl t _ (List.getElem?_eq_getElem (by omega))).1 (by omega))
    · show Op.bytesLess _ _ = false
      rw [hSl, hb, Go.Proofs.bytesLess_eq, List.getD_eq_getElem?_getD]
      by_cases htl : t < l.length
      · rw [List.getElem?_eq_getElem htl]
        exact decide_eq_false (fun e => by have := (lows_at hl t _ (List.getElem?_eq_getElem htl)).2 e; omega)
      · rw [List.getElem?_eq_none (by omega)]
        exact decide_eq_false (k_irrefl x)
  rw [e, hS]
  congr 1
  refine propext ⟨fun ⟨h1, h2⟩ => ?_, fun h => ?_⟩
  · rw [List.getD_eq_getElem?_getD, List.getElem?_eq_getElem h1] at h2
    have h3 : l[k] = x := by
      have := congrArg ByteArray.toList h2
      rwa [hb, hb] at this
    exact List.mem_of_getElem? (h3 ▸ List.getElem?_eq_getElem h1)
  · obtain ⟨j, hj⟩ := List.getElem?_of_mem h
    have hjl := (List.getElem?_eq_some_iff.1 hj).1
    have h1 : ¬ j < k := fun e => k_irrefl x ((lows_at hl j x hj).1 (by omega))
    have h2 : j = k := by
      by_cases e2 : k < j
      · have h3 := List.pairwise_iff_getElem.1 hl k j (by omega) hjl e2
        rw [(List.getElem?_eq_some_iff.1 hj).2] at h3
        have := (lows_at hl k _ (List.getElem?_eq_getElem (by omega))).2 h3
        omega
      · omega
    subst h2
    refine ⟨hjl, ?_⟩
    rw [List.getD_eq_getElem?_getD, hj]
    rfl
end Go.Proofs.YtoidfkcecggjfaaDoor
