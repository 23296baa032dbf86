/- The rows that the document's own list holds; a call's keys are not too long. -/
import Derived.Test.YtkkfgdibficifaaDoorZPgbF
set_option linter.unusedSimpArgs false
set_option linter.unusedVariables false
set_option linter.unnecessarySimpa false
namespace Go.Proofs.YtkkfgdibficifaaDoor
open Go.RowKit Go.Shelf Go.Sort Go.Lib

/-- With, row by row. -/
def withF (k : K) (n : Int) : List Row → Bool → List Row
  | [], inn => if inn then [] else [⟨k, n⟩]
  | r :: l, inn => (if !inn && !decide (r.k < k) then [⟨k, n⟩] else []) ++ ((if r.k = k then [] else [r]) ++ withF k n l (inn || !decide (r.k < k)))
theorem with_fold (k : K) (n : Int) : ∀ (l : List Row) (o : List Row) (inn : Bool), (l.foldl (stepW k n) (o, inn)).1 ++ (if (l.foldl (stepW k n) (o, inn)).2 then [] else [⟨k, n⟩]) = o ++ withF k n l inn
  | [], o, inn => rfl
  | r :: l, o, inn => by
    rw [List.foldl_cons]
    have h := with_fold k n l (stepW k n (o, inn) r).1 (stepW k n (o, inn) r).2
    rw [h]
    unfold stepW
    simp only [withF, List.append_assoc]
theorem withS_eq (k : K) (n : Int) (t : Bool) (p : List Row) : withS k n t p = withF k n p (!t) := by
  have h := with_fold k n p [] (!t)
  rw [List.nil_append] at h
  exact h
theorem withF_mem (k : K) (n : Int) : ∀ (l : List Row) (inn : Bool) (r : Row), r ∈ withF k n l inn ↔ (inn = false ∧ r = ⟨k, n⟩) ∨ (r ∈ l ∧ r.k ≠ k)
  | [], inn, r => by
    unfold withF
    cases inn <;> simp
  | x :: l, inn, r => by
    have ih := withF_mem k n l
    unfold withF
    have hne : x.k < k → x.k ≠ k := fun hx e => by rw [e] at hx; exact List.lt_irrefl _ hx
    by_cases hx : x.k < k
    · have hk := hne hx
      cases inn <;> simp [hx, hk, ih] <;> grind
    · by_cases hk : x.k = k
      · cases inn <;> simp [hx, hk, ih] <;> grind
      · cases inn <;> simp [hx, hk, ih] <;> grind
theorem withF_filter (k : K) : ∀ l : List Row, withF k 0 l true = l.filter (fun r => !decide (r.k = k))
  | [] => rfl
  | x :: l => by
    have ih := withF_filter k l
    unfold withF
    simp only [Bool.not_true, Bool.false_and, Bool.true_or, ih, List.filter_cons]
    by_cases hk : x.k = k <;> simp [hk]
theorem withF_rise (k : K) (n : Int) : ∀ (l : List Row) (inn : Bool), Rise l → (inn = true → ∀ r ∈ l, ¬ r.k < k) → Rise (withF k n l inn)
  | [], inn, _, _ => by
    unfold withF
    cases inn
    · exact List.pairwise_singleton _ _
    · exact List.Pairwise.nil
  | x :: l, inn, hl, hin => by
    obtain ⟨hx0, hl0⟩ := List.pairwise_cons.1 hl
    unfold withF
    by_cases hx : x.k < k
    · have hne : x.k ≠ k := fun e => by rw [e] at hx; exact List.lt_irrefl _ hx
      have hif : inn = false := by
        cases inn with
        | false => rfl
        | true => exact absurd hx (hin rfl x (List.mem_cons_self ..))
      subst hif
      simp only [hx, decide_true, Bool.not_true, Bool.and_false, Bool.or_false, hne, if_false]
      have h := withF_rise k n l false hl0 (fun e => by cases e)
      show Rise ([] ++ ([x] ++ withF k n l false))
      refine List.pairwise_cons.2 ⟨fun y hy => ?_, h⟩
      rcases (withF_mem k n l false y).1 hy with ⟨_, rfl⟩ | ⟨hy, _⟩
      · exact hx
      · exact hx0 y hy
    · have hall : ∀ r ∈ l, ¬ r.k < k := fun r hr e => hx (k_trans (hx0 r hr) e)
      have h := withF_rise k n l true hl0 (fun _ => hall)
      have hgt : ∀ r ∈ withF k n l true, r ∈ l ∧ r.k ≠ k := fun r hr => by
        rcases (withF_mem k n l true r).1 hr with ⟨e, _⟩ | h
        · cases e
        · exact h
      simp only [hx, decide_false, Bool.not_false, Bool.and_true, Bool.or_true]
      have h2 : Rise ((if x.k = k then [] else [x]) ++ withF k n l true) := by
        split
        · exact h
        · exact List.pairwise_cons.2 ⟨fun y hy => hx0 y (hgt y hy).1, h⟩
      cases inn with
      | true => exact h2
      | false =>
        show Rise (⟨k, n⟩ :: ((if x.k = k then [] else [x]) ++ withF k n l true))
        refine List.pairwise_cons.2 ⟨fun y hy => ?_, h2⟩
        show k < y.k
        have hy2 : ¬ y.k < k ∧ y.k ≠ k := by
          rcases List.mem_append.1 hy with hy | hy
          · split at hy
            · cases hy
            · rename_i hne
              obtain rfl := List.mem_singleton.1 hy
              exact ⟨hx, hne⟩
          · exact ⟨hall y (hgt y hy).1, (hgt y hy).2⟩
        rcases k_tri k y.k with h | h | h
        · exact h
        · exact absurd h.symm hy2.2
        · exact absurd h hy2.1
theorem getR_iff {p : List Row} {k : K} : (getR p k).2 = true ↔ ∃ r ∈ p, r.k = k := by
  unfold getR
  cases h : p.find? (fun r => decide (r.k = k)) with
  | none =>
    have := List.find?_eq_none.1 h
    simp only [decide_eq_true_eq] at this
    simp only [Bool.false_eq_true, false_iff, not_exists, not_and]
    exact fun r hr => this r hr
  | some r =>
    have h1 := List.mem_of_find?_eq_some h
    have h2 := List.find?_some h
    simp only [decide_eq_true_eq] at h2
    simp only [true_iff]
    exact ⟨r, h1, h2⟩
/-- What put does to the rows is what the list does. -/
theorem put_with {most : Nat} {P : List (List Row)} (hF : Fine most P) {k : K} {n : Int} (hk : k.length ≤ 16) (hl : P.flatten.length < 256) : (putP most P ⟨k, n⟩).2 = 0 ∧ (putP most P ⟨k, n⟩).1.flatten = withS k n true P.flatten ∧ (putP most P ⟨k, n⟩).1.flatten.length ≤ P.flatten.length + 1 := by
  obtain ⟨h1, h2, h3⟩ := put_ok hF (x := ⟨k, n⟩) hk (.inr hl)
  refine ⟨h1, ?_, by rw [h3]; split <;> omega⟩
  rw [withS_eq]
  refine rise_ext (fine_put hF _).rise (withF_rise k n _ _ hF.rise (fun e => by cases e)) (fun r => ?_)
  rw [h2, withF_mem]
  simp
theorem put_over {most : Nat} {P : List (List Row)} {k : K} {n : Int} (hk : 16 < k.length) : putP most P ⟨k, n⟩ = (P, 2) := by
  unfold putP
  rw [if_pos hk]
/-- What del does to the rows is what the list does. -/
theorem del_with {most : Nat} {P : List (List Row)} (hF : Fine most P) {k : K} : Fine most (delP most P k).1 ∧ (delP most P k).2 = (getR P.flatten k).2 ∧ (delP most P k).1.flatten = withS k 0 false P.flatten ∧ (delP most P k).1.flatten.length ≤ P.flatten.length := by
  obtain ⟨h1, h2, h3⟩ := del_ok hF (k := k)
  have he : (delP most P k).1.flatten = withS k 0 false P.flatten := by
    rw [withS_eq]
    have hr : Rise (withF k 0 P.flatten (!false)) := by
      show Rise (withF k 0 P.flatten true)
      rw [withF_filter]
      exact List.Pairwise.sublist List.filter_sublist hF.rise
    refine rise_ext h1.rise hr (fun r => ?_)
    rw [h3, withF_mem]
    simp
  refine ⟨h1, ?_, he, ?_⟩
  · rw [h2]
    have ha := find_iff hF (k := k)
    have hb := getR_iff (p := P.flatten) (k := k)
    cases hc : (findP P k).2.2 <;> cases hd : (getR P.flatten k).2
    · rfl
    · exact absurd (ha.2 (hb.1 hd)) (by rw [hc]; simp)
    · exact absurd (hb.2 (ha.1 hc)) (by rw [hd]; simp)
    · rfl
  · rw [he, withS_eq]
    show (withF k 0 P.flatten true).length ≤ _
    rw [withF_filter]
    exact List.length_filter_le ..
end Go.Proofs.YtkkfgdibficifaaDoor
