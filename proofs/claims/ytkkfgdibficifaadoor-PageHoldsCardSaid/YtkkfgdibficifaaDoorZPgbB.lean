/- The rows of a store, one taken away. -/
import Derived.Test.YtkkfgdibficifaaDoorZPagW
import Derived.Test.YtkkfgdibficifaaDoorZPagZ
set_option linter.unusedSimpArgs false
set_option linter.unusedVariables false
set_option linter.unnecessarySimpa false
namespace Go.Proofs.YtkkfgdibficifaaDoor
open Go.RowKit Go.Shelf Go.Sort Go.Lib

theorem join_split {P : List (List Row)} {j : Nat} {a b : List Row} (ha : P[j]? = some a) (hb : P[j + 1]? = some b) : P = P.take j ++ a :: b :: P.drop (j + 2) ∧ joinP P j = P.take j ++ (a ++ b) :: P.drop (j + 2) := by
  have h1 := (set_split (q := a ++ b) ha)
  have hbl := (List.getElem?_eq_some_iff.1 hb).1
  have hd : P.drop (j + 1) = b :: P.drop (j + 2) := by
    rw [List.drop_eq_getElem_cons hbl, (List.getElem?_eq_some_iff.1 hb).2]
  rw [hd] at h1
  refine ⟨h1.1, ?_⟩
  unfold joinP
  rw [ha, hb]
  simp only [Option.getD_some]
  rw [h1.2]
  have hl : (P.take j).length = j := by rw [List.length_take]; omega
  rw [List.eraseIdx_append_of_length_le (by omega), hl, show j + 1 - j = 1 by omega]
  rfl
/-- What a page that lost a row leaves behind is fine, and holds the same rows. -/
theorem fine_tidy {most : Nat} {P : List (List Row)} {i : Nat} {p : List Row} (hp : P[i]? = some p) (hne : ∀ (j : Nat) (q : List Row), P[j]? = some q → j ≠ i → q ≠ []) (hfull : ∀ q ∈ P, q.length ≤ most) (hr : Rise P.flatten) (ht : P.flatten.length ≤ 256) (hm : 2 ≤ most ∧ most ≤ 64) :
    Fine most (tidyP most P i) ∧ (tidyP most P i).flatten = P.flatten := by
  have hT : tidyP most P i = if p.length = 0 then P.eraseIdx i else if most / 2 ≤ p.length then P else if joinsP most P (i : Int) = true then joinP P i else if joinsP most P ((i : Int) - 1) = true then joinP P (i - 1) else P := by
    unfold tidyP
    rw [hp]
    rfl
  have hall : p.length ≠ 0 → ∀ q ∈ P, q ≠ [] := fun h0 q hq => by
    obtain ⟨j, hj⟩ := List.getElem?_of_mem hq
    by_cases hji : j = i
    · subst hji
      obtain rfl := Option.some.inj (hp.symm.trans hj)
      exact fun e => h0 (by rw [e]; rfl)
    · exact hne j q hj hji
  have hself : p.length ≠ 0 → Fine most P := fun h0 => ⟨hall h0, hfull, hr, ht, hm⟩
  have hjoin : ∀ j : Nat, p.length ≠ 0 → joinsP most P (j : Int) = true → Fine most (joinP P j) ∧ (joinP P j).flatten = P.flatten := fun j h0 hj => by
    obtain ⟨j', a, b, e, h1, h2, h3⟩ := joins_at hj
    obtain rfl : j = j' := by omega
    obtain ⟨e1, e2⟩ := join_split h1 h2
    have hfl : (joinP P j).flatten = P.flatten := by
      conv => rhs; rw [e1]
      rw [e2]
      simp
    have han := hall h0 a (List.mem_of_getElem? h1)
    refine ⟨⟨fun q hq => ?_, fun q hq => ?_, by rw [hfl]; exact hr, by rw [hfl]; exact ht, hm⟩, hfl⟩
    · rw [e2] at hq
      rcases List.mem_append.1 hq with hq | hq
      · exact hall h0 q (List.mem_of_mem_take hq)
      · rcases List.mem_cons.1 hq with rfl | hq
        · intro e; exact han (List.append_eq_nil_iff.1 e).1
        · exact hall h0 q (List.mem_of_mem_drop hq)
    · rw [e2] at hq
      rcases List.mem_append.1 hq with hq | hq
      · exact hfull q (List.mem_of_mem_take hq)
      · rcases List.mem_cons.1 hq with rfl | hq
        · rw [List.length_append]; exact h3
        · exact hfull q (List.mem_of_mem_drop hq)
  rw [hT]
  split
  · rename_i h0
    obtain rfl := List.length_eq_zero_iff.1 h0
    have hfl : (P.eraseIdx i).flatten = P.flatten := by
      rw [List.eraseIdx_eq_take_drop_succ, (flat_mid (q := []) hp).2]
      simp
    refine ⟨⟨fun q hq => ?_, fun q hq => hfull q (List.mem_of_mem_eraseIdx hq), by rw [hfl]; exact hr, by rw [hfl]; exact ht, hm⟩, hfl⟩
    obtain ⟨j, hji, hj⟩ := List.mem_eraseIdx_iff_getElem?.1 hq
    exact hne j q hj hji
  · rename_i h0
    split
    · exact ⟨hself h0, rfl⟩
    · split
      · rename_i hj
        exact hjoin i h0 hj
      · split
        · rename_i hj
          obtain ⟨j', _, _, e, _⟩ := joins_at hj
          have hji : ((i : Int) - 1) = ((i - 1 : Nat) : Int) := by omega
          rw [hji] at hj
          exact hjoin (i - 1) h0 hj
        · exact ⟨hself h0, rfl⟩
/-- Del, in plain words: the key's row is gone. -/
theorem del_ok {most : Nat} {P : List (List Row)} (hF : Fine most P) {k : K} :
    Fine most (delP most P k).1 ∧ (delP most P k).2 = (findP P k).2.2 ∧ ∀ r, r ∈ (delP most P k).1.flatten ↔ r ∈ P.flatten ∧ r.k ≠ k := by
  cases ht : (findP P k).2.2 with
  | false =>
    have hn := (find_not hF).1 ht
    have hg : delP most P k = (P, false) := by
      unfold delP
      generalize findP P k = f at ht
      obtain ⟨i, at_, t⟩ := f
      simp only at ht
      subst ht
      rfl
    rw [hg]
    exact ⟨hF, rfl, fun r => ⟨fun hr => ⟨hr, hn r hr⟩, fun hr => hr.1⟩⟩
  | true =>
    have hP : P ≠ [] := fun e => by subst e; cases ht
    obtain ⟨p, hp, hf, hr, hfl⟩ := flat_at hF hP (k := k)
    obtain ⟨h1, h2⟩ := page_split hF (k := k)
    have hA : ∀ r ∈ (P.take (pageP P k)).flatten, r.k ≠ k := fun r hr e => by
      have := h1 r hr
      rw [e] at this
      exact absurd this (List.lt_irrefl _)
    have hB : ∀ r ∈ (P.drop (pageP P k + 1)).flatten, r.k ≠ k := fun r hr e => by
      have := h2 r hr
      rw [e] at this
      exact absurd this (List.lt_irrefl _)
    rw [hf] at ht
    simp only at ht
    obtain ⟨y, hy, hyk⟩ := has_at ht
    have e : delP most P k = (tidyP most (P.set (pageP P k) (p.eraseIdx (lowP p k))) (pageP P k), true) := by
      unfold delP
      rw [hf, ht]
      simp only [hp, Option.getD_some]
    rw [e]
    have hil := (List.getElem?_eq_some_iff.1 hp).1
    have hset : (P.set (pageP P k) (p.eraseIdx (lowP p k)))[pageP P k]? = some (p.eraseIdx (lowP p k)) := List.getElem?_set_self hil
    have hsub : (P.set (pageP P k) (p.eraseIdx (lowP p k))).flatten.Sublist P.flatten := by
      rw [(flat_mid hp).1, hfl]
      exact List.Sublist.append_left (List.Sublist.append_right (List.eraseIdx_sublist _ _) _) _
    obtain ⟨h3, h4⟩ := fine_tidy (most := most) hset (fun j q hj hji => by
      rw [List.getElem?_set_ne (fun e => hji e.symm)] at hj
      exact hF.ne q (List.mem_of_getElem? hj)) (fun q hq => (List.mem_or_eq_of_mem_set hq).elim (hF.full q) (fun e => by
        rw [e]
        exact Nat.le_trans (List.eraseIdx_sublist _ _).length_le (hF.full p (List.mem_of_getElem? hp)))) (List.Pairwise.sublist hsub hF.rise) (Nat.le_trans hsub.length_le hF.total) hF.most
    refine ⟨h3, rfl, fun r => ?_⟩
    show r ∈ (tidyP most (P.set (pageP P k) (p.eraseIdx (lowP p k))) (pageP P k)).flatten ↔ _
    rw [h4, (flat_mid hp).1, hfl]
    have hm : r ∈ p.eraseIdx (lowP p k) ↔ r ∈ p ∧ r.k ≠ k := by
      rw [List.mem_eraseIdx_iff_getElem?]
      constructor
      · rintro ⟨j, hji, hj⟩
        refine ⟨List.mem_of_getElem? hj, fun e => hji ?_⟩
        have hry := rise_key hr (List.mem_of_getElem? hj) (List.mem_of_getElem? hy) (e.trans hyk.symm)
        subst hry
        obtain ⟨hjl, hjv⟩ := List.getElem?_eq_some_iff.1 hj
        obtain ⟨hyl, hyv⟩ := List.getElem?_eq_some_iff.1 hy
        have hpw := List.pairwise_iff_getElem.1 hr
        rcases Nat.lt_trichotomy j (lowP p k) with hlt | he | hlt
        · have := hpw _ _ hjl hyl hlt
          rw [hjv, hyv] at this
          exact absurd this (List.lt_irrefl _)
        · exact he
        · have := hpw _ _ hyl hjl hlt
          rw [hjv, hyv] at this
          exact absurd this (List.lt_irrefl _)
      · rintro ⟨hm, hk⟩
        obtain ⟨j, hj⟩ := List.getElem?_of_mem hm
        refine ⟨j, fun e => ?_, hj⟩
        subst e
        rw [hy] at hj
        obtain rfl := Option.some.inj hj
        exact hk hyk
    simp only [List.mem_append, hm]
    constructor
    · rintro (h | h | h)
      · exact ⟨.inl h, hA r h⟩
      · exact ⟨.inr (.inl h.1), h.2⟩
      · exact ⟨.inr (.inr h), hB r h⟩
    · rintro ⟨h | h | h, hk⟩
      · exact .inl h
      · exact .inr (.inl ⟨h, hk⟩)
      · exact .inr (.inr h)
end Go.Proofs.YtkkfgdibficifaaDoor
