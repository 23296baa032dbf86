/- The reference's sets of texts, in plain words: nothing here speaks of memory. -/
import Derived.Test.YtoidfkcecggjfaaDoorZValB
set_option linter.unusedSimpArgs false
set_option linter.unusedVariables false
set_option linter.unnecessarySimpa false
namespace Go.Proofs.YtoidfkcecggjfaaDoor

/-- One text of the set that stood, when k goes in. -/
def insS (k : K) (s : List K × Bool) (x : K) : List K × Bool :=
  let l := if s.2 = false ∧ k ≤ x then s.1 ++ [k] else s.1
  (if x ≠ k then l ++ [x] else l, s.2 || decide (k ≤ x))
def insW (k : K) (set : List K) : List K × Bool := set.foldl (insS k) ([], false)
/-- k goes in. -/
def insP (set : List K) (k : K) : List K := if (insW k set).2 = true then (insW k set).1 else (insW k set).1 ++ [k]
def setP (keys : List K) : List K := keys.foldl insP []
structure InsI (k : K) (p l : List K) (b : Bool) : Prop where
  rise : l.Pairwise (· < ·)
  mem : ∀ y, y ∈ l ↔ (y ∈ p ∧ y ≠ k) ∨ (y = k ∧ b = true)
  yes : b = true → ∃ x ∈ p, k ≤ x
  no : b = false → ∀ x ∈ p, x < k
theorem k_total (a b : K) : a ≤ b ∨ b < a := by
  rcases Classical.em (b < a) with h | h
  · exact .inr h
  · exact .inl (List.not_lt.1 h)
theorem ins_step {k x : K} {p l : List K} {b : Bool} (h : InsI k p l b) (hx : ∀ y ∈ p, y < x) : InsI k (p ++ [x]) (insS k (l, b) x).1 (insS k (l, b) x).2 := by
  have hl : ∀ y ∈ l, y < x ∨ (y = k ∧ b = true) := fun y hy => by
    rcases (h.mem y).1 hy with ⟨h1, _⟩ | h1
    · exact .inl (hx y h1)
    · exact .inr h1
  have kx : b = true → k < x := fun hb => by
    obtain ⟨z, hz, hkz⟩ := h.yes hb
    exact k_lt_of_le_of_lt hkz (hx z hz)
  have hlx : ∀ y ∈ l, y < x := fun y hy => by
    rcases hl y hy with h1 | ⟨rfl, hb⟩
    · exact h1
    · exact kx hb
  unfold insS
  cases b with
  | true =>
    have hkx := kx rfl
    have hne : x ≠ k := fun e => k_irrefl k (e ▸ hkx)
    simp only [Bool.true_eq_false, false_and, if_false, ne_eq, hne, not_false_eq_true, if_true, Bool.true_or]
    refine ⟨List.pairwise_append.2 ⟨h.rise, List.pairwise_singleton _ _, fun a ha c hc => by rw [List.mem_singleton.1 hc]; exact hlx a ha⟩, fun y => ?_, fun _ => ⟨x, by simp, k_le_of_lt hkx⟩, fun e => by cases e⟩
    rw [List.mem_append, List.mem_append, h.mem y, List.mem_singleton]
    constructor
    · rintro ((⟨h1, h2⟩ | h1) | rfl)
      · exact .inl ⟨.inl h1, h2⟩
      · exact .inr h1
      · exact .inl ⟨.inr rfl, hne⟩
    · rintro (⟨h1 | rfl, h2⟩ | h1)
      · exact .inl (.inl ⟨h1, h2⟩)
      · exact .inr rfl
      · exact .inl (.inr h1)
  | false =>
    have hlk : ∀ y ∈ l, y < k := fun y hy => by
      rcases (h.mem y).1 hy with ⟨h1, _⟩ | ⟨_, h1⟩
      · exact h.no rfl y h1
      · cases h1
    rcases k_total k x with hkx | hxk
    · simp only [hkx, and_self, if_true, decide_true, Bool.or_true]
      have r1 : (l ++ [k]).Pairwise (· < ·) := List.pairwise_append.2 ⟨h.rise, List.pairwise_singleton _ _, fun a ha c hc => by rw [List.mem_singleton.1 hc]; exact hlk a ha⟩
      by_cases hne : x = k
      · subst hne
        simp only [ne_eq, not_true_eq_false, if_false]
        refine ⟨r1, fun y => ?_, fun _ => ⟨x, by simp, hkx⟩, fun e => by cases e⟩
        rw [List.mem_append, List.mem_append, h.mem y, List.mem_singleton]
        constructor
        · rintro ((⟨h1, h2⟩ | ⟨_, h1⟩) | rfl)
          · exact .inl ⟨.inl h1, h2⟩
          · cases h1
          · exact .inr ⟨rfl, rfl⟩
        · rintro (⟨h1 | h1, h2⟩ | ⟨h1, _⟩)
          · exact .inl (.inl ⟨h1, h2⟩)
          · exact absurd h1 h2
          · exact .inr h1
      · simp only [ne_eq, hne, not_false_eq_true, if_true]
        have hkx2 : k < x := k_lt_of_le_ne hkx (fun e => hne e.symm)
        refine ⟨List.pairwise_append.2 ⟨r1, List.pairwise_singleton _ _, fun a ha c hc => ?_⟩, fun y => ?_, fun _ => ⟨x, by simp, hkx⟩, fun e => by cases e⟩
        · rw [List.mem_singleton.1 hc]
          rcases List.mem_append.1 ha with h1 | h1
          · exact hlx a h1
          · rw [List.mem_singleton.1 h1]; exact hkx2
        · rw [List.mem_append, List.mem_append, List.mem_append, h.mem y, List.mem_singleton, List.mem_singleton]
          constructor
          · rintro (((⟨h1, h2⟩ | ⟨_, h1⟩) | rfl) | rfl)
            · exact .inl ⟨.inl h1, h2⟩
            · cases h1
            · exact .inr ⟨rfl, rfl⟩
            · exact .inl ⟨.inr rfl, hne⟩
          · rintro (⟨h1 | h1, h2⟩ | ⟨h1, _⟩)
            · exact .inl (.inl (.inl ⟨h1, h2⟩))
            · exact .inr h1
            · exact .inl (.inr h1)
    · have hnk : ¬ k ≤ x := fun hle => k_irrefl k (k_lt_of_le_of_lt hle hxk)
      have hne : x ≠ k := fun e => k_irrefl k (e ▸ hxk)
      simp only [hnk, and_false, if_false, ne_eq, hne, not_false_eq_true, if_true, decide_false, Bool.or_self]
      refine ⟨List.pairwise_append.2 ⟨h.rise, List.pairwise_singleton _ _, fun a ha c hc => by rw [List.mem_singleton.1 hc]; exact hlx a ha⟩, fun y => ?_, (fun e => by cases e), fun _ y hy => ?_⟩
      · rw [List.mem_append, List.mem_append, h.mem y, List.mem_singleton]
        constructor
        · rintro ((⟨h1, h2⟩ | ⟨_, h1⟩) | rfl)
          · exact .inl ⟨.inl h1, h2⟩
          · cases h1
          · exact .inl ⟨.inr rfl, hne⟩
        · rintro (⟨h1 | h1, h2⟩ | ⟨_, h1⟩)
          · exact .inl (.inl ⟨h1, h2⟩)
          · exact .inr h1
          · cases h1
      · rcases List.mem_append.1 hy with h1 | h1
        · exact h.no rfl y h1
        · rw [List.mem_singleton.1 h1]; exact hxk
theorem ins_all (k : K) : ∀ (rest p l : List K) (b : Bool), (p ++ rest).Pairwise (· < ·) → InsI k p l b → InsI k (p ++ rest) (rest.foldl (insS k) (l, b)).1 (rest.foldl (insS k) (l, b)).2
  | [], p, l, b, _, h => by simpa using h
  | x :: rest, p, l, b, hp, h => by
    have h1 := ins_step h (x := x) (fun y hy => (List.pairwise_append.1 hp).2.2 y hy x (by simp))
    have h2 := ins_all k rest (p ++ [x]) _ _ (by simpa using hp) h1
    simpa using h2
theorem insP_ok {set : List K} (k : K) (h : set.Pairwise (· < ·)) : (insP set k).Pairwise (· < ·) ∧ ∀ y, y ∈ insP set k ↔ y ∈ set ∨ y = k := by
  have h1 := ins_all k set [] [] false (by simpa using h) ⟨List.Pairwise.nil, (fun y => by simp), (fun e => by cases e), fun _ x hx => by cases hx⟩
  rw [List.nil_append] at h1
  have h1 : InsI k set (insW k set).1 (insW k set).2 := h1
  unfold insP
  cases hb : (insW k set).2 with
  | true =>
    rw [hb] at h1
    refine ⟨by simpa using h1.rise, fun y => ?_⟩
    simp only [if_true]
    rw [h1.mem y]
    by_cases e : y = k
    · simp [e]
    · simp [e]
  | false =>
    rw [hb] at h1
    simp only [Bool.false_eq_true, if_false]
    refine ⟨List.pairwise_append.2 ⟨h1.rise, List.pairwise_singleton _ _, fun a ha c hc => ?_⟩, fun y => ?_⟩
    · rw [List.mem_singleton.1 hc]
      rcases (h1.mem a).1 ha with ⟨h2, _⟩ | ⟨_, h2⟩
      · exact h1.no rfl a h2
      · cases h2
    · rw [List.mem_append, h1.mem y, List.mem_singleton]
      by_cases e : y = k
      · simp [e]
      · simp [e]
theorem set_all : ∀ (keys set : List K), set.Pairwise (· < ·) → (keys.foldl insP set).Pairwise (· < ·) ∧ ∀ y, y ∈ keys.foldl insP set ↔ y ∈ set ∨ y ∈ keys
  | [], set, h => ⟨h, fun y => by simp⟩
  | k :: keys, set, h => by
    obtain ⟨h1, h2⟩ := insP_ok k h
    obtain ⟨h3, h4⟩ := set_all keys _ h1
    refine ⟨h3, fun y => ?_⟩
    show y ∈ keys.foldl insP (insP set k) ↔ _
    rw [h4 y, h2 y, List.mem_cons]
    exact or_assoc
def pen (b : Bool) : Nat := if b = true then 0 else 1
theorem insS_len (k x : K) (l : List K) (b : Bool) : (insS k (l, b) x).1.length + pen (insS k (l, b) x).2 ≤ l.length + pen b + 1 := by
  unfold insS pen
  by_cases h1 : k ≤ x <;> by_cases h2 : x = k <;> cases b <;> simp [h1, h2] <;> omega
theorem insW_len (k : K) : ∀ (rest l : List K) (b : Bool), (rest.foldl (insS k) (l, b)).1.length + pen (rest.foldl (insS k) (l, b)).2 ≤ l.length + pen b + rest.length
  | [], l, b => Nat.le_refl _
  | x :: rest, l, b => by
    have h1 := insS_len k x l b
    rw [List.foldl_cons, List.length_cons]
    generalize insS k (l, b) x = p at h1 ⊢
    obtain ⟨l2, b2⟩ := p
    have h2 := insW_len k rest l2 b2
    have h1 : l2.length + pen b2 ≤ l.length + pen b + 1 := h1
    omega
theorem insP_len (set : List K) (k : K) : (insP set k).length ≤ set.length + 1 := by
  have h := insW_len k set [] false
  have h : (insW k set).1.length + pen (insW k set).2 ≤ 0 + 1 + set.length := h
  unfold insP
  cases hb : (insW k set).2 with
  | true =>
    rw [hb] at h
    have h : (insW k set).1.length + 0 ≤ 0 + 1 + set.length := h
    simp only [if_true]
    omega
  | false =>
    rw [hb] at h
    have h : (insW k set).1.length + 1 ≤ 0 + 1 + set.length := h
    simp only [Bool.false_eq_true, if_false, List.length_append, List.length_singleton]
    omega
theorem set_len : ∀ (keys set : List K), (keys.foldl insP set).length ≤ set.length + keys.length
  | [], set => by simp
  | k :: keys, set => by
    have h1 := insP_len set k
    have h2 := set_len keys (insP set k)
    simp only [List.foldl_cons, List.length_cons]
    omega
/-- The reference's set is the texts, each once, rising. -/
theorem set_rises (keys : List K) : setP keys = rises keys := by
  obtain ⟨h1, h2⟩ := set_all keys [] List.Pairwise.nil
  exact rises_uniq h1 (rises_lt keys) (fun x => by rw [show (x ∈ setP keys) = (x ∈ keys.foldl insP []) from rfl] at *; rw [h2 x, mem_rises]; simp)
end Go.Proofs.YtoidfkcecggjfaaDoor
