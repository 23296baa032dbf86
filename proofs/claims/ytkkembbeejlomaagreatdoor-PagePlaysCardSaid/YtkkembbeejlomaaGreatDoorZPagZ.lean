/- The rows of a store, put. -/
import Derived.Test.YtkkembbeejlomaaGreatDoorZPagP
set_option linter.unusedSimpArgs false
set_option linter.unusedVariables false
set_option linter.unnecessarySimpa false
namespace Go.Proofs.YtkkembbeejlomaaGreatDoor
open Go.RowKit Go.Shelf Go.Sort Go.Lib

/-- Rows that rise are what they hold. -/
theorem rise_ext : ∀ {a b : List Row}, Rise a → Rise b → (∀ r, r ∈ a ↔ r ∈ b) → a = b
  | [], [], _, _, _ => rfl
  | [], y :: b, _, _, h => by have := (h y).2 (List.mem_cons_self ..); cases this
  | x :: a, [], _, _, h => by have := (h x).1 (List.mem_cons_self ..); cases this
  | x :: a, y :: b, ha, hb, h => by
    obtain ⟨hx, ha1⟩ := List.pairwise_cons.1 ha
    obtain ⟨hy, hb1⟩ := List.pairwise_cons.1 hb
    have irr : ∀ {k : K}, ¬ k < k := fun e => List.lt_irrefl _ e
    have hxy : x = y := by
      rcases List.mem_cons.1 ((h x).1 (List.mem_cons_self ..)) with e | e
      · exact e
      · rcases List.mem_cons.1 ((h y).2 (List.mem_cons_self ..)) with e2 | e2
        · exact e2.symm
        · exact absurd (k_trans (hx y e2) (hy x e)) irr
    subst hxy
    have hab : ∀ r, r ∈ a ↔ r ∈ b := fun r => by
      constructor
      · intro hr
        rcases List.mem_cons.1 ((h r).1 (List.mem_cons_of_mem _ hr)) with e | e
        · subst e; exact absurd (hx _ hr) irr
        · exact e
      · intro hr
        rcases List.mem_cons.1 ((h r).2 (List.mem_cons_of_mem _ hr)) with e | e
        · subst e; exact absurd (hy _ hr) irr
        · exact e
    rw [rise_ext ha1 hb1 hab]
/-- In rising rows a key stands once. -/
theorem rise_key {a : List Row} (h : Rise a) {x y : Row} (hx : x ∈ a) (hy : y ∈ a) (e : x.k = y.k) : x = y := by
  obtain ⟨i, hi⟩ := List.getElem?_of_mem hx
  obtain ⟨j, hj⟩ := List.getElem?_of_mem hy
  obtain ⟨hil, hi⟩ := List.getElem?_eq_some_iff.1 hi
  obtain ⟨hjl, hj⟩ := List.getElem?_eq_some_iff.1 hj
  have hp := List.pairwise_iff_getElem.1 h
  rcases Nat.lt_trichotomy i j with hlt | rfl | hlt
  · have := hp i j hil hjl hlt
    rw [hi, hj, e] at this
    exact absurd this (List.lt_irrefl _)
  · exact hi.symm.trans hj
  · have := hp j i hjl hil hlt
    rw [hi, hj, e] at this
    exact absurd this (List.lt_irrefl _)
theorem has_iff {p : List Row} (hp : Rise p) {k : K} : hasP p k = true ↔ ∃ r ∈ p, r.k = k := by
  constructor
  · intro h
    obtain ⟨r, hr, e⟩ := has_at h
    exact ⟨r, List.mem_of_getElem? hr, e⟩
  · rintro ⟨r, hr, e⟩
    obtain ⟨j, hj⟩ := List.getElem?_of_mem hr
    have hjl := (List.getElem?_eq_some_iff.1 hj).1
    have h1 := rise_low hp hj (k := k)
    rw [e] at h1
    have hle : lowP p k ≤ j := Nat.le_of_not_lt (fun h => absurd (h1.1 h) (List.lt_irrefl _))
    have hl : p[lowP p k]? = some (p[lowP p k]'(by omega)) := List.getElem?_eq_getElem _
    have h2 := rise_low hp hl (k := k)
    rcases Nat.lt_or_eq_of_le hle with hlt | he
    · have h3 := List.pairwise_iff_getElem.1 hp (lowP p k) j (by omega) hjl hlt
      rw [(List.getElem?_eq_some_iff.1 hj).2, e] at h3
      have := h2.2 h3
      omega
    · unfold hasP
      rw [he, hj]
      simp [e]
theorem flat_at {most : Nat} {P : List (List Row)} (hF : Fine most P) {k : K} (hP : P ≠ []) : ∃ p, P[pageP P k]? = some p ∧ findP P k = (pageP P k, lowP p k, hasP p k) ∧ Rise p ∧ P.flatten = (P.take (pageP P k)).flatten ++ (p ++ (P.drop (pageP P k + 1)).flatten) := by
  have hp : P[pageP P k]? = some (P[pageP P k]'(page_lt (List.length_pos_iff.2 hP))) := List.getElem?_eq_getElem _
  generalize P[pageP P k]'(page_lt (List.length_pos_iff.2 hP)) = p at hp
  exact ⟨p, hp, by unfold findP; rw [hp], (hF.page hp).1, (flat_mid (q := p) hp).2⟩
theorem find_iff {most : Nat} {P : List (List Row)} (hF : Fine most P) {k : K} : (findP P k).2.2 = true ↔ ∃ r ∈ P.flatten, r.k = k := by
  by_cases hP : P = []
  · subst hP
    have e : (findP [] k).2.2 = false := rfl
    rw [e]
    simp
  · obtain ⟨p, hp, hf, hr, hfl⟩ := flat_at hF hP (k := k)
    obtain ⟨h1, h2⟩ := page_split hF (k := k)
    rw [hf, has_iff hr, hfl]
    constructor
    · rintro ⟨r, hr, e⟩
      exact ⟨r, List.mem_append_right _ (List.mem_append_left _ hr), e⟩
    · rintro ⟨r, hr, e⟩
      rcases List.mem_append.1 hr with hr | hr
      · have := h1 r hr
        rw [e] at this
        exact absurd this (List.lt_irrefl _)
      · rcases List.mem_append.1 hr with hr | hr
        · exact ⟨r, hr, e⟩
        · have := h2 r hr
          rw [e] at this
          exact absurd this (List.lt_irrefl _)
theorem find_not {most : Nat} {P : List (List Row)} (hF : Fine most P) {k : K} : (findP P k).2.2 = false ↔ ∀ r ∈ P.flatten, r.k ≠ k := by
  have h := find_iff hF (k := k)
  cases hf : (findP P k).2.2 with
  | true =>
    rw [hf] at h
    obtain ⟨r, hr, e⟩ := h.1 rfl
    exact Iff.intro (fun e => by cases e) (fun h2 => absurd e (h2 r hr))
  | false =>
    rw [hf] at h
    refine Iff.intro (fun _ r hr e => ?_) (fun _ => rfl)
    have := h.2 ⟨r, hr, e⟩
    cases this
/-- What is put stands there, and else what stood there. -/
theorem put_ok {most : Nat} {P : List (List Row)} (hF : Fine most P) {x : Row} (hx : x.k.length ≤ 16) (h : (findP P x.k).2.2 = true ∨ P.flatten.length < 256) :
    (putP most P x).2 = 0 ∧ (∀ r, r ∈ (putP most P x).1.flatten ↔ r = x ∨ (r ∈ P.flatten ∧ r.k ≠ x.k)) ∧ (putP most P x).1.flatten.length = P.flatten.length + (if (findP P x.k).2.2 then 0 else 1) := by
  by_cases hP : P = []
  · subst hP
    rw [putP_not hx rfl, if_neg (by simp), if_pos rfl]
    exact ⟨rfl, fun r => by simp, rfl⟩
  · obtain ⟨p, hp, hf, hr, hfl⟩ := flat_at hF hP (k := x.k)
    obtain ⟨h1, h2⟩ := page_split hF (k := x.k)
    have hA : ∀ r ∈ (P.take (pageP P x.k)).flatten, r.k ≠ x.k := fun r hr e => by
      have := h1 r hr
      rw [e] at this
      exact absurd this (List.lt_irrefl _)
    have hB : ∀ r ∈ (P.drop (pageP P x.k + 1)).flatten, r.k ≠ x.k := fun r hr e => by
      have := h2 r hr
      rw [e] at this
      exact absurd this (List.lt_irrefl _)
    cases ht : hasP p x.k with
    | true =>
      obtain ⟨y, hy, hyk⟩ := has_at ht
      have hyl := (List.getElem?_eq_some_iff.1 hy).1
      have e : putP most P x = (P.set (pageP P x.k) (p.set (lowP p x.k) x), 0) := by
        unfold putP
        rw [if_neg (by omega), hf, ht]
        simp only [hp, Option.getD_some]
      rw [e, hf, ht]
      refine ⟨rfl, fun r => ?_, ?_⟩
      · show r ∈ (P.set (pageP P x.k) (p.set (lowP p x.k) x)).flatten ↔ _
        rw [(flat_mid hp).1, hfl]
        have hm : r ∈ p.set (lowP p x.k) x ↔ r = x ∨ (r ∈ p ∧ r.k ≠ x.k) := by
          constructor
          · intro hm
            obtain ⟨j, hj⟩ := List.getElem?_of_mem hm
            by_cases hij : lowP p x.k = j
            · subst hij
              rw [List.getElem?_set_self hyl] at hj
              exact .inl (Option.some.inj hj).symm
            · rw [List.getElem?_set_ne hij] at hj
              refine .inr ⟨List.mem_of_getElem? hj, fun e => hij ?_⟩
              obtain ⟨hjl, hjv⟩ := List.getElem?_eq_some_iff.1 hj
              obtain ⟨_, hyv⟩ := List.getElem?_eq_some_iff.1 hy
              have hpw := List.pairwise_iff_getElem.1 hr
              rcases Nat.lt_trichotomy (lowP p x.k) j with hlt | he | hlt
              · have := hpw _ _ hyl hjl hlt
                rw [hyv, hjv, e, hyk] at this
                exact absurd this (List.lt_irrefl _)
              · exact he
              · have := hpw _ _ hjl hyl hlt
                rw [hyv, hjv, e, hyk] at this
                exact absurd this (List.lt_irrefl _)
          · rintro (rfl | ⟨hm, hk⟩)
            · exact List.mem_of_getElem? (List.getElem?_set_self hyl)
            · obtain ⟨j, hj⟩ := List.getElem?_of_mem hm
              have hij : lowP p x.k ≠ j := fun e => by
                subst e
                rw [hy] at hj
                obtain rfl := Option.some.inj hj
                exact hk hyk
              exact List.mem_of_getElem? ((List.getElem?_set_ne hij).trans hj)
        simp only [List.mem_append, hm]
        constructor
        · rintro (h | (h | h) | h)
          · exact .inr ⟨.inl h, hA r h⟩
          · exact .inl h
          · exact .inr ⟨.inr (.inl h.1), h.2⟩
          · exact .inr ⟨.inr (.inr h), hB r h⟩
        · rintro (h | ⟨h | h | h, hk⟩)
          · exact .inr (.inl (.inl h))
          · exact .inl h
          · exact .inr (.inl (.inr ⟨h, hk⟩))
          · exact .inr (.inr h)
      · show (P.set (pageP P x.k) (p.set (lowP p x.k) x)).flatten.length = _
        rw [(flat_mid hp).1, hfl]
        simp
    | false =>
      have hlt : P.flatten.length < 256 := by
        rcases h with h | h
        · rw [hf, ht] at h; cases h
        · exact h
      have hnot := putP_not (most := most) (P := P) (x := x) hx (by rw [hf, ht])
      rw [hf] at hnot
      simp only [hp, Option.getD_some] at hnot
      have hnp : ∀ r ∈ p, r.k ≠ x.k := fun r hr2 e => by
        have := (has_iff hr).2 ⟨r, hr2, e⟩
        rw [ht] at this; cases this
      have e : (putP most P x).2 = 0 ∧ (putP most P x).1.flatten = (P.set (pageP P x.k) (insAt p (lowP p x.k) x)).flatten := by
        rw [hnot, if_neg (by omega), if_neg hP]
        split
        · exact ⟨rfl, flat_cut hp⟩
        · exact ⟨rfl, rfl⟩
      rw [e.1, e.2, hf, ht, (flat_mid hp).1, hfl]
      have hm : ∀ r, r ∈ insAt p (lowP p x.k) x ↔ r = x ∨ r ∈ p := fun r => by
        unfold insAt
        rw [List.mem_append, List.mem_cons]
        have := List.mem_append (a := r) (s := p.take (lowP p x.k)) (t := p.drop (lowP p x.k))
        rw [List.take_append_drop] at this
        rw [this]
        constructor
        · rintro (h | h | h)
          · exact .inr (.inl h)
          · exact .inl h
          · exact .inr (.inr h)
        · rintro (h | h | h)
          · exact .inr (.inl h)
          · exact .inl h
          · exact .inr (.inr h)
      refine ⟨rfl, fun r => ?_, ?_⟩
      · simp only [List.mem_append, hm]
        constructor
        · rintro (h | (h | h) | h)
          · exact .inr ⟨.inl h, hA r h⟩
          · exact .inl h
          · exact .inr ⟨.inr (.inl h), hnp r h⟩
          · exact .inr ⟨.inr (.inr h), hB r h⟩
        · rintro (h | ⟨h | h | h, hk⟩)
          · exact .inr (.inl (.inl h))
          · exact .inl h
          · exact .inr (.inl (.inr h))
          · exact .inr (.inr h)
      · rw [List.length_append, List.length_append, List.length_append, List.length_append, insAt_len (lowP_le _ _)]
        simp
        omega
theorem put_none {most : Nat} {P : List (List Row)} {x : Row} (hx : x.k.length ≤ 16) (ht : (findP P x.k).2.2 = false) (h : 256 ≤ P.flatten.length) : putP most P x = (P, 5) := by
  rw [putP_not hx ht, if_pos h]
theorem get_there {P : List (List Row)} {k : K} : (getP P k).2 = (findP P k).2.2 := by
  unfold getP
  generalize findP P k = f
  obtain ⟨i, at_, t⟩ := f
  cases t <;> rfl
end Go.Proofs.YtkkembbeejlomaaGreatDoor
