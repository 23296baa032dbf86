/- What a time read stays what the last version below it holds: the plain induction. -/
import Derived.Test.YtmaokoekbjjgfaaDoorZChaA
set_option linter.unusedSimpArgs false
set_option linter.unusedVariables false
set_option linter.unnecessarySimpa false
namespace Go.Proofs.YtmaokoekbjjgfaaDoor

theorem Ris.idx {L : List Ver} (h : Ris L) {i j : Nat} {a b : Ver} (hi : L[i]? = some a) (hj : L[j]? = some b) (e : a.at_ = b.at_) : i = j := by
  have hil := (List.getElem?_eq_some_iff.1 hi).1
  have hjl := (List.getElem?_eq_some_iff.1 hj).1
  have ea := (List.getElem?_eq_some_iff.1 hi).2
  have eb := (List.getElem?_eq_some_iff.1 hj).2
  unfold Ris at h
  rw [List.pairwise_iff_getElem] at h
  rcases Nat.lt_trichotomy i j with h1 | h1 | h1
  · have := h i j hil hjl h1
    rw [ea, eb] at this; omega
  · exact h1
  · have := h j i hjl hil h1
    rw [ea, eb] at this; omega
theorem Ris.uniq {L : List Ver} (h : Ris L) {a b : Ver} (ha : a ∈ L) (hb : b ∈ L) (e : a.at_ = b.at_) : a = b := by
  obtain ⟨i, hi⟩ := List.mem_iff_getElem?.1 ha
  obtain ⟨j, hj⟩ := List.mem_iff_getElem?.1 hb
  have := h.idx hi hj e
  subst this
  rw [hi] at hj
  exact Option.some.inj hj
theorem Ris.le {L : List Ver} (h : Ris L) {i j : Nat} {a b : Ver} (hi : L[i]? = some a) (hj : L[j]? = some b) (e : i ≤ j) : a.at_ ≤ b.at_ := by
  have hil := (List.getElem?_eq_some_iff.1 hi).1
  have hjl := (List.getElem?_eq_some_iff.1 hj).1
  have ea := (List.getElem?_eq_some_iff.1 hi).2
  have eb := (List.getElem?_eq_some_iff.1 hj).2
  unfold Ris at h
  rw [List.pairwise_iff_getElem] at h
  rcases Nat.lt_or_ge i j with h1 | h1
  · have := h i j hil hjl h1
    rw [ea, eb] at this; omega
  · have : i = j := by omega
    subst this
    rw [hi] at hj
    rw [Option.some.inj hj]; omega
theorem Ris.mem_set {L : List Ver} (h : Ris L) {k : Nat} {v u x : Ver} (hk : L[k]? = some v) : x ∈ L.set k u ↔ x = u ∨ (x ∈ L ∧ x.at_ ≠ v.at_) := by
  have hkl := (List.getElem?_eq_some_iff.1 hk).1
  rw [List.mem_iff_getElem?]
  constructor
  · rintro ⟨j, hj⟩
    rw [List.getElem?_set] at hj
    by_cases e : k = j
    · rw [if_pos e, if_pos hkl] at hj
      exact .inl (Option.some.inj hj).symm
    · rw [if_neg e] at hj
      exact .inr ⟨List.mem_iff_getElem?.2 ⟨j, hj⟩, fun e2 => e (h.idx hk hj e2.symm)⟩
  · rintro (rfl | ⟨hx, hne⟩)
    · exact ⟨k, by rw [List.getElem?_set, if_pos rfl, if_pos hkl]⟩
    · obtain ⟨j, hj⟩ := List.mem_iff_getElem?.1 hx
      refine ⟨j, ?_⟩
      rw [List.getElem?_set, if_neg ?_]
      · exact hj
      · rintro rfl
        rw [hk] at hj
        exact hne (by rw [Option.some.inj hj])
theorem Ris.mem_erase {L : List Ver} (h : Ris L) {k : Nat} {v x : Ver} (hk : L[k]? = some v) : x ∈ L.eraseIdx k ↔ x ∈ L ∧ x.at_ ≠ v.at_ := by
  rw [List.mem_iff_getElem?]
  constructor
  · rintro ⟨j, hj⟩
    rw [List.getElem?_eraseIdx] at hj
    by_cases e : j < k
    · rw [if_pos e] at hj
      exact ⟨List.mem_iff_getElem?.2 ⟨j, hj⟩, fun e2 => by have := h.idx hk hj e2.symm; omega⟩
    · rw [if_neg e] at hj
      exact ⟨List.mem_iff_getElem?.2 ⟨j + 1, hj⟩, fun e2 => by have := h.idx hk hj e2.symm; omega⟩
  · rintro ⟨hx, hne⟩
    obtain ⟨j, hj⟩ := List.mem_iff_getElem?.1 hx
    have hjk : j ≠ k := by
      rintro rfl
      rw [hk] at hj
      exact hne (by rw [Option.some.inj hj])
    by_cases e : j < k
    · exact ⟨j, by rw [List.getElem?_eraseIdx, if_pos e]; exact hj⟩
    · refine ⟨j - 1, ?_⟩
      rw [List.getElem?_eraseIdx, if_neg (by omega)]
      rw [show j - 1 + 1 = j from by omega]
      exact hj
theorem mem_put {L : List Ver} {c : Nat} {u x : Ver} : x ∈ L.take c ++ u :: L.drop c ↔ x = u ∨ x ∈ L := by
  have h : x ∈ L ↔ x ∈ L.take c ∨ x ∈ L.drop c := by
    rw [← List.mem_append, List.take_append_drop]
  rw [List.mem_append, List.mem_cons, h]
  constructor
  · rintro (h | h | h)
    · exact .inr (.inl h)
    · exact .inl h
    · exact .inr (.inr h)
  · rintro (h | h | h)
    · exact .inr (.inl h)
    · exact .inl h
    · exact .inr (.inr h)
/-- The last version that is not above a time. -/
theorem last_of {L : List Ver} (h : Ris L) {t : Int} (hz : cnt L t ≠ 0) : ∃ k v, cnt L t = k + 1 ∧ L[k]? = some v ∧ v.at_ ≤ t ∧ (∀ u ∈ L, u.at_ ≤ t → u.at_ ≤ v.at_) := by
  have hcl := cnt_le L t
  obtain ⟨k, hk⟩ : ∃ k, cnt L t = k + 1 := ⟨cnt L t - 1, by omega⟩
  have hv : L[k]? = some (L[k]'(by omega)) := List.getElem?_eq_getElem _
  refine ⟨k, _, hk, hv, (cnt_at h k _ hv).1 (by omega), fun u hu hut => ?_⟩
  obtain ⟨j, hj⟩ := List.mem_iff_getElem?.1 hu
  have := (cnt_at h j u hj).2 hut
  exact h.le hj hv (by omega)
theorem okT_pos {t : Int} (h : okT t = true) : 1 ≤ t := by
  unfold okT at h
  simp only [Bool.and_eq_true, decide_eq_true_eq] at h
  exact h.1
theorem readP_cases {L : List Ver} (h : Ris L) (t : Int) : ((readP L t).1 = L ∧ (readP L t).2.2.2 ≠ 0) ∨ (∃ v ∈ L, v.at_ = t ∧ readP L t = (L, v.n, v.there, 0) ∧ 1 ≤ t) ∨
    ∃ k v, L[k]? = some v ∧ v.at_ < t ∧ v.opn = false ∧ (∀ u ∈ L, u.at_ ≤ t → u.at_ ≤ v.at_) ∧ readP L t = (L.set k { v with read := max v.read t }, v.n, v.there, 0) ∧ 1 ≤ t := by
  by_cases ho : okT t = false
  · left
    unfold readP
    rw [if_pos ho]
    exact ⟨rfl, by show (2 : Int) ≠ 0; decide⟩
  · have h1 := okT_pos (t := t) (by simpa using ho)
    by_cases hz : cnt L t = 0
    · left
      unfold readP
      rw [if_neg ho, if_pos hz]
      exact ⟨rfl, by show (22 : Int) ≠ 0; decide⟩
    · obtain ⟨k, v, hk, hv, hvt, hmax⟩ := last_of h hz
      have hkk : cnt L t - 1 = k := by omega
      by_cases he : v.at_ = t
      · right; left
        refine ⟨v, List.mem_iff_getElem?.2 ⟨k, hv⟩, he, ?_, h1⟩
        unfold readP
        rw [if_neg ho, if_neg hz, hkk, hv]
        simp only
        rw [if_pos he]
      · by_cases hop : v.opn = true
        · left
          unfold readP
          rw [if_neg ho, if_neg hz, hkk, hv]
          simp only
          rw [if_neg he, if_pos hop]
          exact ⟨rfl, by show (20 : Int) ≠ 0; decide⟩
        · right; right
          refine ⟨k, v, hv, by omega, by simpa using hop, hmax, ?_, h1⟩
          unfold readP
          rw [if_neg ho, if_neg hz, hkk, hv]
          simp only
          rw [if_neg he, if_neg hop]
theorem writeP_cases {L : List Ver} (h : Ris L) (t n : Int) (th : Bool) : ((writeP L t n th).1 = L ∧ (writeP L t n th).2 ≠ 0) ∨
    (∃ k v, L[k]? = some v ∧ v.at_ = t ∧ v.opn = true ∧ writeP L t n th = (L.set k { v with n := numT n th, there := th }, 0) ∧ 1 ≤ t) ∨
    ∃ v ∈ L, v.at_ < t ∧ v.read ≤ t ∧ (∀ u ∈ L, u.at_ ≤ t → u.at_ ≤ v.at_) ∧ writeP L t n th = (L.take (cnt L t) ++ { at_ := t, n := numT n th, there := th, read := 0, opn := true } :: L.drop (cnt L t), 0) ∧ 1 ≤ t := by
  by_cases ho : okT t = false
  · left
    unfold writeP
    rw [if_pos ho]
    exact ⟨rfl, by show (2 : Int) ≠ 0; decide⟩
  · have h1 := okT_pos (t := t) (by simpa using ho)
    by_cases hz : cnt L t = 0
    · left
      unfold writeP
      rw [if_neg ho, if_pos hz]
      exact ⟨rfl, by show (22 : Int) ≠ 0; decide⟩
    · obtain ⟨k, v, hk, hv, hvt, hmax⟩ := last_of h hz
      have hkk : cnt L t - 1 = k := by omega
      by_cases hl : t < v.read ∨ (v.at_ = t ∧ v.opn = false)
      · left
        unfold writeP
        rw [if_neg ho, if_neg hz, hkk, hv]
        simp only
        rw [if_pos hl]
        exact ⟨rfl, by show (22 : Int) ≠ 0; decide⟩
      · by_cases he : v.at_ = t
        · right; left
          refine ⟨k, v, hv, he, ?_, ?_, h1⟩
          · cases e : v.opn
            · exact (hl (.inr ⟨he, e⟩)).elim
            · rfl
          · unfold writeP
            rw [if_neg ho, if_neg hz, hkk, hv]
            simp only
            rw [if_neg hl, if_pos he]
        · right; right
          refine ⟨v, List.mem_iff_getElem?.2 ⟨k, hv⟩, by omega, ?_, hmax, ?_, h1⟩
          · have : ¬ t < v.read := fun e => hl (.inl e)
            omega
          · unfold writeP
            rw [if_neg ho, if_neg hz, hkk, hv]
            simp only
            rw [if_neg hl, if_neg he]
theorem openP_cases {L : List Ver} (t : Int) : openP L t = none ∨ ∃ k v, openP L t = some (k, v) ∧ L[k]? = some v ∧ v.at_ = t ∧ v.opn = true := by
  unfold openP
  by_cases hz : cnt L t = 0
  · left; rw [if_pos hz]
  · rw [if_neg hz]
    cases hv : L[cnt L t - 1]? with
    | none => exact .inl rfl
    | some v =>
      simp only
      by_cases e : v.at_ = t ∧ v.opn = true
      · right
        rw [if_pos e]
        exact ⟨_, v, rfl, hv, e.1, e.2⟩
      · left
        rw [if_neg e]
structure GotP where
  at_ : Int
  n : Int
  there : Bool
def ownP (l : List GotP) (t : Int) : Option GotP := l.find? fun g => decide (g.at_ = t)
def withoutP (l : List GotP) (t : Int) : List GotP := l.filter fun g => decide (g.at_ ≠ t)
theorem mem_without {l : List GotP} {t : Int} {g : GotP} : g ∈ withoutP l t ↔ g ∈ l ∧ g.at_ ≠ t := by
  unfold withoutP
  rw [List.mem_filter]
  simp
theorem own_some {l : List GotP} {t : Int} {g : GotP} (h : ownP l t = some g) : g ∈ l ∧ g.at_ = t := by
  unfold ownP at h
  have h1 := List.mem_of_find?_eq_some h
  have h2 := List.find?_some h
  exact ⟨h1, by simpa using h2⟩
theorem own_none {l : List GotP} {t : Int} (h : ownP l t = none) : ∀ g ∈ l, g.at_ ≠ t := by
  unfold ownP at h
  rw [List.find?_eq_none] at h
  intro g hg
  have := h g hg
  simpa using this
structure Inv (L : List Ver) (wrote got : List GotP) : Prop where
  ris : Ris L
  first : ∃ u ∈ L, u.at_ = 0 ∧ u.opn = false
  w1 : ∀ g ∈ wrote, ∃ u ∈ L, u.at_ = g.at_ ∧ u.n = g.n ∧ u.there = g.there
  w2 : ∀ u ∈ L, u.at_ ≠ 0 → ∃ g ∈ wrote, g.at_ = u.at_
  g1 : ∀ g ∈ got, ∃ u ∈ L, u.at_ < g.at_ ∧ u.n = g.n ∧ u.there = g.there ∧ u.opn = false ∧ g.at_ ≤ u.read ∧ ∀ v ∈ L, v.at_ < g.at_ → v.at_ ≤ u.at_
theorem inv_new (n : Int) (th : Bool) : Inv [⟨0, n, th, 0, false⟩] [] [] :=
  ⟨List.pairwise_singleton _ _, ⟨_, List.mem_singleton.2 rfl, rfl, rfl⟩, (fun g hg => by cases hg), (fun u hu h0 => by obtain rfl := List.mem_singleton.1 hu; exact (h0 rfl).elim), (fun g hg => by cases hg)⟩
theorem Inv.pos {L : List Ver} {wrote got : List GotP} (h : Inv L wrote got) : 0 < L.length := by
  obtain ⟨u, hu, _⟩ := h.first
  exact List.length_pos_of_mem hu
/-- A reading of another's version. -/
theorem Inv.reads {L : List Ver} {wrote got : List GotP} (h : Inv L wrote got) {k : Nat} {v : Ver} {t : Int} (hk : L[k]? = some v) : Inv (L.set k { v with read := max v.read t }) wrote got := by
  have hm : ∀ x, x ∈ L.set k { v with read := max v.read t } ↔ x = { v with read := max v.read t } ∨ (x ∈ L ∧ x.at_ ≠ v.at_) := fun x => h.ris.mem_set hk
  have hvL : v ∈ L := List.mem_iff_getElem?.2 ⟨k, hk⟩
  have lift : ∀ u ∈ L, ∃ u' ∈ L.set k { v with read := max v.read t }, u'.at_ = u.at_ ∧ u'.n = u.n ∧ u'.there = u.there ∧ u'.opn = u.opn ∧ u.read ≤ u'.read := fun u hu => by
    by_cases e : u.at_ = v.at_
    · have := h.ris.uniq hu hvL e
      subst this
      exact ⟨_, (hm _).2 (.inl rfl), rfl, rfl, rfl, rfl, by show u.read ≤ max u.read t; omega⟩
    · exact ⟨u, (hm _).2 (.inr ⟨hu, e⟩), rfl, rfl, rfl, rfl, by omega⟩
  have down : ∀ x ∈ L.set k { v with read := max v.read t }, ∃ u ∈ L, u.at_ = x.at_ := fun x hx => by
    rcases (hm x).1 hx with rfl | ⟨h1, _⟩
    · exact ⟨v, hvL, rfl⟩
    · exact ⟨x, h1, rfl⟩
  refine ⟨h.ris.set hk rfl, ?_, fun g hg => ?_, fun x hx h0 => ?_, fun g hg => ?_⟩
  · obtain ⟨u, hu, h1, h2⟩ := h.first
    obtain ⟨u', hu', a1, a2, a3, a4, a5⟩ := lift u hu
    exact ⟨u', hu', by rw [a1, h1], by rw [a4, h2]⟩
  · obtain ⟨u, hu, h1, h2, h3⟩ := h.w1 g hg
    obtain ⟨u', hu', a1, a2, a3, a4, a5⟩ := lift u hu
    exact ⟨u', hu', by rw [a1, h1], by rw [a2, h2], by rw [a3, h3]⟩
  · obtain ⟨u, hu, e⟩ := down x hx
    rw [← e]
    exact h.w2 u hu (by rw [e]; exact h0)
  · obtain ⟨u, hu, h1, h2, h3, h4, h5, h6⟩ := h.g1 g hg
    obtain ⟨u', hu', a1, a2, a3, a4, a5⟩ := lift u hu
    refine ⟨u', hu', by rw [a1]; exact h1, by rw [a2, h2], by rw [a3, h3], by rw [a4, h4], by omega, fun x hx hlt => ?_⟩
    obtain ⟨y, hy, e⟩ := down x hx
    rw [a1, ← e]
    exact h6 y hy (by omega)
/-- Read: the error is none. -/
theorem Inv.read_own {L : List Ver} {wrote got : List GotP} (h : Inv L wrote got) {t : Int} {g : GotP} (h0 : (readP L t).2.2.2 = 0) (ho : ownP wrote t = some g) : (readP L t).2.1 = g.n ∧ (readP L t).2.2.1 = g.there ∧ Inv (readP L t).1 wrote got := by
  obtain ⟨hg, hgt⟩ := own_some ho
  obtain ⟨u, hu, u1, u2, u3⟩ := h.w1 g hg
  rcases readP_cases h.ris t with ⟨_, h1⟩ | ⟨v, hv, e, hr, _⟩ | ⟨k, v, hv, hlt, hop, hmax, hr, _⟩
  · exact (h1 h0).elim
  · have := h.ris.uniq hu hv (by rw [u1, hgt, e])
    subst this
    rw [hr]
    exact ⟨u2, u3, h⟩
  · have := hmax u hu (by omega)
    omega
theorem Inv.read_other {L : List Ver} {wrote got : List GotP} (h : Inv L wrote got) {t : Int} (h0 : (readP L t).2.2.2 = 0) (ho : ownP wrote t = none) : Inv (readP L t).1 wrote (got ++ [⟨t, (readP L t).2.1, (readP L t).2.2.1⟩]) := by
  rcases readP_cases h.ris t with ⟨_, h1⟩ | ⟨v, hv, e, hr, hp⟩ | ⟨k, v, hv, hlt, hop, hmax, hr, _⟩
  · exact (h1 h0).elim
  · obtain ⟨g, hg, hgt⟩ := h.w2 v hv (by omega)
    exact (own_none ho g hg (by rw [hgt, e])).elim
  · rw [hr]
    have h2 := h.reads (t := t) hv
    have hvL : v ∈ L := List.mem_iff_getElem?.2 ⟨k, hv⟩
    refine ⟨h2.ris, h2.first, h2.w1, h2.w2, fun g hg => ?_⟩
    rcases List.mem_append.1 hg with hg | hg
    · exact h2.g1 g hg
    · obtain rfl := List.mem_singleton.1 hg
      refine ⟨{ v with read := max v.read t }, (h.ris.mem_set hv).2 (.inl rfl), hlt, rfl, rfl, hop, by show t ≤ max v.read t; omega, fun x hx hxt => ?_⟩
      show x.at_ ≤ v.at_
      rcases (h.ris.mem_set hv).1 hx with rfl | ⟨h3, _⟩
      · exact Int.le_refl _
      · exact hmax x h3 (by have : x.at_ < t := hxt; omega)
theorem Inv.read_err {L : List Ver} {wrote got : List GotP} (h : Inv L wrote got) {t : Int} (h0 : (readP L t).2.2.2 ≠ 0) : Inv (readP L t).1 wrote got := by
  rcases readP_cases h.ris t with ⟨h1, _⟩ | ⟨v, hv, e, hr, hp⟩ | ⟨k, v, hv, hlt, hop, hmax, hr, _⟩
  · rw [h1]; exact h
  · rw [hr] at h0; exact (h0 rfl).elim
  · rw [hr] at h0; exact (h0 rfl).elim
theorem Inv.write_err {L : List Ver} {wrote got : List GotP} (h : Inv L wrote got) {t n : Int} {th : Bool} (h0 : (writeP L t n th).2 ≠ 0) : Inv (writeP L t n th).1 wrote got := by
  rcases writeP_cases h.ris t n th with ⟨h1, _⟩ | ⟨k, v, hv, e, hop, hr, _⟩ | ⟨v, hv, hlt, hrd, hmax, hr, _⟩
  · rw [h1]; exact h
  · rw [hr] at h0; exact (h0 rfl).elim
  · rw [hr] at h0; exact (h0 rfl).elim
theorem Inv.write_ok {L : List Ver} {wrote got : List GotP} (h : Inv L wrote got) {t n : Int} {th : Bool} (h0 : (writeP L t n th).2 = 0) : Inv (writeP L t n th).1 (withoutP wrote t ++ [⟨t, numT n th, th⟩]) got := by
  have hris := (writeP_ris (t := t) (n := n) (there := th) h.ris).1
  rcases writeP_cases h.ris t n th with ⟨_, h1⟩ | ⟨k, v, hv, e, hop, hr, hp⟩ | ⟨v, hv, hlt, hrd, hmax, hr, hp⟩
  · exact (h1 h0).elim
  · rw [hr] at hris ⊢
    have hvL : v ∈ L := List.mem_iff_getElem?.2 ⟨k, hv⟩
    have hm : ∀ x, x ∈ L.set k { v with n := numT n th, there := th } ↔ x = { v with n := numT n th, there := th } ∨ (x ∈ L ∧ x.at_ ≠ v.at_) := fun x => h.ris.mem_set hv
    refine ⟨hris, ?_, fun g hg => ?_, fun x hx hx0 => ?_, fun g hg => ?_⟩
    · obtain ⟨u, hu, h1, h2⟩ := h.first
      exact ⟨u, (hm u).2 (.inr ⟨hu, by omega⟩), h1, h2⟩
    · rcases List.mem_append.1 hg with hg | hg
      · obtain ⟨hg, hne⟩ := mem_without.1 hg
        obtain ⟨u, hu, u1, u2, u3⟩ := h.w1 g hg
        exact ⟨u, (hm u).2 (.inr ⟨hu, by omega⟩), u1, u2, u3⟩
      · obtain rfl := List.mem_singleton.1 hg
        exact ⟨_, (hm _).2 (.inl rfl), e, rfl, rfl⟩
    · rcases (hm x).1 hx with rfl | ⟨h1, h2⟩
      · exact ⟨_, List.mem_append_right _ (List.mem_singleton.2 rfl), e.symm⟩
      · obtain ⟨g, hg, hgt⟩ := h.w2 x h1 hx0
        exact ⟨g, List.mem_append_left _ (mem_without.2 ⟨hg, by omega⟩), hgt⟩
    · obtain ⟨u, hu, h1, h2, h3, h4, h5, h6⟩ := h.g1 g hg
      have hne : u.at_ ≠ v.at_ := fun e2 => by
        have := h.ris.uniq hu hvL e2
        subst this
        rw [h4] at hop; cases hop
      refine ⟨u, (hm u).2 (.inr ⟨hu, hne⟩), h1, h2, h3, h4, h5, fun x hx hxt => ?_⟩
      rcases (hm x).1 hx with rfl | ⟨h7, _⟩
      · exact h6 v hvL hxt
      · exact h6 x h7 hxt
  · rw [hr] at hris ⊢
    refine ⟨hris, ?_, fun g hg => ?_, fun x hx hx0 => ?_, fun g hg => ?_⟩
    · obtain ⟨u, hu, h1, h2⟩ := h.first
      exact ⟨u, mem_put.2 (.inr hu), h1, h2⟩
    · rcases List.mem_append.1 hg with hg | hg
      · obtain ⟨hg, hne⟩ := mem_without.1 hg
        obtain ⟨u, hu, u1, u2, u3⟩ := h.w1 g hg
        exact ⟨u, mem_put.2 (.inr hu), u1, u2, u3⟩
      · obtain rfl := List.mem_singleton.1 hg
        exact ⟨_, mem_put.2 (.inl rfl), rfl, rfl, rfl⟩
    · rcases mem_put.1 hx with rfl | h1
      · exact ⟨_, List.mem_append_right _ (List.mem_singleton.2 rfl), rfl⟩
      · by_cases e : x.at_ = t
        · exact ⟨_, List.mem_append_right _ (List.mem_singleton.2 rfl), e.symm⟩
        · obtain ⟨g, hg, hgt⟩ := h.w2 x h1 hx0
          exact ⟨g, List.mem_append_left _ (mem_without.2 ⟨hg, by omega⟩), hgt⟩
    · obtain ⟨u, hu, h1, h2, h3, h4, h5, h6⟩ := h.g1 g hg
      refine ⟨u, mem_put.2 (.inr hu), h1, h2, h3, h4, h5, fun x hx hxt => ?_⟩
      rcases mem_put.1 hx with rfl | h7
      · show t ≤ u.at_
        have hxt : t < g.at_ := hxt
        rcases Int.lt_or_le u.at_ t with h8 | h8
        · have a1 := hmax u hu (by omega)
          have a2 := h6 v hv (by omega)
          have := h.ris.uniq hu hv (by omega)
          subst this
          omega
        · exact h8
      · exact h6 x h7 hxt
theorem Inv.commit {L : List Ver} {wrote got : List GotP} (h : Inv L wrote got) (t : Int) : Inv (commitP L t).1 wrote got := by
  unfold commitP
  rcases openP_cases (L := L) t with e | ⟨k, v, e, hv, hvt, hop⟩
  · rw [e]; exact h
  · rw [e]
    show Inv (L.set k { v with opn := false }) wrote got
    have hvL : v ∈ L := List.mem_iff_getElem?.2 ⟨k, hv⟩
    have hm : ∀ x, x ∈ L.set k { v with opn := false } ↔ x = { v with opn := false } ∨ (x ∈ L ∧ x.at_ ≠ v.at_) := fun x => h.ris.mem_set hv
    have lift : ∀ u ∈ L, ∃ u' ∈ L.set k { v with opn := false }, u'.at_ = u.at_ ∧ u'.n = u.n ∧ u'.there = u.there ∧ u'.read = u.read ∧ (u.opn = false → u'.opn = false) := fun u hu => by
      by_cases e : u.at_ = v.at_
      · have := h.ris.uniq hu hvL e
        subst this
        exact ⟨_, (hm _).2 (.inl rfl), rfl, rfl, rfl, rfl, fun _ => rfl⟩
      · exact ⟨u, (hm _).2 (.inr ⟨hu, e⟩), rfl, rfl, rfl, rfl, id⟩
    have down : ∀ x ∈ L.set k { v with opn := false }, ∃ u ∈ L, u.at_ = x.at_ := fun x hx => by
      rcases (hm x).1 hx with rfl | ⟨h1, _⟩
      · exact ⟨v, hvL, rfl⟩
      · exact ⟨x, h1, rfl⟩
    refine ⟨h.ris.set hv rfl, ?_, fun g hg => ?_, fun x hx h0 => ?_, fun g hg => ?_⟩
    · obtain ⟨u, hu, h1, h2⟩ := h.first
      obtain ⟨u', hu', a1, a2, a3, a4, a5⟩ := lift u hu
      exact ⟨u', hu', by rw [a1, h1], a5 h2⟩
    · obtain ⟨u, hu, h1, h2, h3⟩ := h.w1 g hg
      obtain ⟨u', hu', a1, a2, a3, a4, a5⟩ := lift u hu
      exact ⟨u', hu', by rw [a1, h1], by rw [a2, h2], by rw [a3, h3]⟩
    · obtain ⟨u, hu, e⟩ := down x hx
      rw [← e]
      exact h.w2 u hu (by rw [e]; exact h0)
    · obtain ⟨u, hu, h1, h2, h3, h4, h5, h6⟩ := h.g1 g hg
      obtain ⟨u', hu', a1, a2, a3, a4, a5⟩ := lift u hu
      refine ⟨u', hu', by rw [a1]; exact h1, by rw [a2, h2], by rw [a3, h3], a5 h4, by omega, fun x hx hlt => ?_⟩
      obtain ⟨y, hy, e⟩ := down x hx
      rw [a1, ← e]
      exact h6 y hy (by omega)
theorem Inv.abort_no {L : List Ver} {wrote got : List GotP} (h : Inv L wrote got) {t : Int} (h0 : (abortP L t).2 = false) : Inv (abortP L t).1 wrote got := by
  unfold abortP at h0 ⊢
  rcases openP_cases (L := L) t with e | ⟨k, v, e, hv, hvt, hop⟩
  · rw [e]; exact h
  · rw [e] at h0; cases h0
theorem Inv.abort_yes {L : List Ver} {wrote got : List GotP} (h : Inv L wrote got) {t : Int} (h0 : (abortP L t).2 = true) : Inv (abortP L t).1 (withoutP wrote t) got := by
  unfold abortP at h0 ⊢
  rcases openP_cases (L := L) t with e | ⟨k, v, e, hv, hvt, hop⟩
  · rw [e] at h0; cases h0
  · rw [e]
    show Inv (L.eraseIdx k) _ got
    have hvL : v ∈ L := List.mem_iff_getElem?.2 ⟨k, hv⟩
    have hm : ∀ x, x ∈ L.eraseIdx k ↔ x ∈ L ∧ x.at_ ≠ v.at_ := fun x => h.ris.mem_erase hv
    have shut : ∀ u ∈ L, u.opn = false → u.at_ ≠ v.at_ := fun u hu h4 e2 => by
      have := h.ris.uniq hu hvL e2
      subst this
      rw [h4] at hop; cases hop
    refine ⟨h.ris.erase k, ?_, fun g hg => ?_, fun x hx h0 => ?_, fun g hg => ?_⟩
    · obtain ⟨u, hu, h1, h2⟩ := h.first
      exact ⟨u, (hm u).2 ⟨hu, shut u hu h2⟩, h1, h2⟩
    · obtain ⟨hg, hne⟩ := mem_without.1 hg
      obtain ⟨u, hu, u1, u2, u3⟩ := h.w1 g hg
      exact ⟨u, (hm u).2 ⟨hu, by omega⟩, u1, u2, u3⟩
    · obtain ⟨h1, h2⟩ := (hm x).1 hx
      obtain ⟨g, hg, hgt⟩ := h.w2 x h1 h0
      exact ⟨g, mem_without.2 ⟨hg, by omega⟩, hgt⟩
    · obtain ⟨u, hu, h1, h2, h3, h4, h5, h6⟩ := h.g1 g hg
      exact ⟨u, (hm u).2 ⟨hu, shut u hu h4⟩, h1, h2, h3, h4, h5, fun x hx hlt => h6 x ((hm x).1 hx).1 hlt⟩
/-- The last version below a time, walked from the first one on. -/
def belowP (L : List Ver) (t : Int) (z : Ver) : Ver := L.foldl (fun a v => if v.at_ < t then v else a) z
theorem belowP_snoc (L : List Ver) (t : Int) (z v : Ver) : belowP (L ++ [v]) t z = if v.at_ < t then v else belowP L t z := by
  unfold belowP
  rw [List.foldl_append]
  rfl
theorem belowP_of {L : List Ver} {t : Int} {z u : Ver} (h : Ris L) (hu : u ∈ L) (hut : u.at_ < t) (hmax : ∀ v ∈ L, v.at_ < t → v.at_ ≤ u.at_) : belowP L t z = u := by
  obtain ⟨i, hi⟩ := List.mem_iff_getElem?.1 hu
  have key : ∀ k, i < k → k ≤ L.length → belowP (L.take k) t z = u := by
    intro k
    induction k with
    | zero => intro h0; omega
    | succ k ih =>
      intro hik hk
      have hx : L[k]? = some L[k] := List.getElem?_eq_getElem (by omega)
      rw [List.take_add_one, hx]
      show belowP (L.take k ++ [L[k]]) t z = u
      rw [belowP_snoc]
      by_cases e : i = k
      · subst e
        rw [hi] at hx
        have := Option.some.inj hx
        rw [← this, if_pos hut]
      · rw [if_neg ?_]
        · exact ih (by omega) (by omega)
        · intro e2
          have h1 := hmax _ (List.mem_of_getElem? hx) e2
          have h2 := h.le hi hx (by omega)
          have := h.idx hi hx (by omega)
          omega
  have hil := (List.getElem?_eq_some_iff.1 hi).1
  have := key L.length hil (Nat.le_refl _)
  rwa [List.take_length] at this
theorem Inv.last {L : List Ver} {wrote got : List GotP} (h : Inv L wrote got) {g : GotP} (hg : g ∈ got) (z : Ver) : (belowP L g.at_ z).n = g.n ∧ (belowP L g.at_ z).there = g.there := by
  obtain ⟨u, hu, h1, h2, h3, h4, h5, h6⟩ := h.g1 g hg
  rw [belowP_of h.ris hu h1 h6]
  exact ⟨h2, h3⟩
end Go.Proofs.YtmaokoekbjjgfaaDoor
