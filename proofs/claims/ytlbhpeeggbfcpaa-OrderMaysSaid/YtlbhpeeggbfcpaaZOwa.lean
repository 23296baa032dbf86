/- Lists that rise and have the same numbers are the same; a number put into a rising list (Wif, Wii without what they say of other laws). -/
import Derived.Test.YtlbhpeeggbfcpaaZWie
import Derived.Test.YtlbhpeeggbfcpaaZWaiK
import Derived.Test.YtlbhpeeggbfcpaaZWaiY
set_option linter.unusedSimpArgs false
set_option linter.unusedVariables false
set_option linter.unnecessarySimpa false
namespace Go.Proofs.Ytlbhpeeggbfcpaa
open Go.RowKit

theorem rise_uniq : ∀ {a b : List Int}, a.Nodup → b.Nodup → a.Pairwise (· ≤ ·) → b.Pairwise (· ≤ ·) → (∀ y, y ∈ a ↔ y ∈ b) → a = b
  | [], [], _, _, _, _, _ => rfl
  | [], y :: b, _, _, _, _, h => by have := (h y).2 (by simp); cases this
  | x :: a, [], _, _, _, _, h => by have := (h x).1 (by simp); cases this
  | x :: a, y :: b, ha, hb, ra, rb, h => by
    rw [List.nodup_cons] at ha hb
    rw [List.pairwise_cons] at ra rb
    have hxy : x = y := by
      have h1 : x ∈ y :: b := (h x).1 (by simp)
      have h2 : y ∈ x :: a := (h y).2 (by simp)
      rcases List.mem_cons.1 h1 with e | e
      · exact e
      · rcases List.mem_cons.1 h2 with e2 | e2
        · exact e2.symm
        · have := ra.1 y e2
          have := rb.1 x e
          omega
    subst hxy
    congr 1
    refine rise_uniq ha.2 hb.2 ra.2 rb.2 (fun z => ?_)
    constructor
    · intro hz
      rcases List.mem_cons.1 ((h z).1 (List.mem_cons_of_mem _ hz)) with e | e
      · rw [e] at hz; exact (ha.1 hz).elim
      · exact e
    · intro hz
      rcases List.mem_cons.1 ((h z).2 (List.mem_cons_of_mem _ hz)) with e | e
      · rw [e] at hz; exact (hb.1 hz).elim
      · exact e
/-- A number put into a rising list, step by step. -/
def intoS (n : Int) (s : List Int × Bool) (x : Int) : List Int × Bool :=
  ((if (!s.2 && decide (n ≤ x)) then s.1 ++ [n] else s.1) ++ (if x = n then [] else [x]), s.2 || decide (n ≤ x))
def intoP (l : List Int) (n : Int) : List Int :=
  (l.foldl (intoS n) ([], false)).1 ++ if (l.foldl (intoS n) ([], false)).2 then [] else [n]
/-- What stands when some were gone through. -/
structure IntoI (l : List Int) (n : Int) (s : List Int × Bool) : Prop where
  flag : s.2 = true ↔ ∃ x ∈ l, n ≤ x
  rise : s.1.Pairwise (· < ·)
  mem : ∀ y, y ∈ s.1 ↔ (y ∈ l ∨ (s.2 = true ∧ y = n)) ∧ (s.2 = false → y < n)
  few : s.1.length ≤ l.length + 1
  low : s.2 = false → s.1.length ≤ l.length
theorem into_holds (n : Int) : ∀ (l : List Int), l.Pairwise (· < ·) → IntoI l n (l.foldl (intoS n) ([], false)) := by
  intro l
  refine snoc_ind (p := fun l => l.Pairwise (· < ·) → IntoI l n (l.foldl (intoS n) ([], false))) l ?_ ?_
  · intro _
    exact ⟨by simp, List.Pairwise.nil, fun y => by simp, by simp, fun _ => by simp⟩
  · intro l x ih hl
    rw [List.pairwise_append] at hl
    obtain ⟨h1, _, h3⟩ := hl
    have hx : ∀ a ∈ l, a < x := fun a ha => h3 a ha x (by simp)
    have hI := ih h1
    rw [List.foldl_append]
    show IntoI (l ++ [x]) n (intoS n (l.foldl (intoS n) ([], false)) x)
    generalize l.foldl (intoS n) ([], false) = s at hI
    obtain ⟨o, b⟩ := s
    have hflag := hI.flag
    have hrise : o.Pairwise (· < ·) := hI.rise
    have hmem : ∀ y, y ∈ o ↔ (y ∈ l ∨ (b = true ∧ y = n)) ∧ (b = false → y < n) := hI.mem
    have hfew : o.length ≤ l.length + 1 := hI.few
    have hlow : b = false → o.length ≤ l.length := hI.low
    unfold intoS
    dsimp only
    cases b with
    | true =>
      obtain ⟨z, hz, hnz⟩ := hflag.1 rfl
      have hzx := hx z hz
      have hne : x ≠ n := by omega
      have hnx : n ≤ x := by omega
      simp only [Bool.not_true, Bool.false_and, Bool.false_eq_true, if_false, if_neg hne, Bool.true_or]
      refine ⟨⟨fun _ => ⟨z, List.mem_append_left _ hz, hnz⟩, fun _ => rfl⟩, ?_, fun y => ?_, ?_, fun e => by cases e⟩
      · rw [List.pairwise_append]
        refine ⟨hrise, List.pairwise_singleton _ _, fun a ha c hc => ?_⟩
        rw [List.mem_singleton] at hc
        rw [hc]
        rcases ((hmem a).1 ha).1 with e | ⟨_, e⟩
        · exact hx a e
        · omega
      · show y ∈ o ++ [x] ↔ _
        rw [List.mem_append, hmem, List.mem_append, List.mem_singleton]
        constructor
        · rintro (⟨e, _⟩ | e)
          · exact ⟨e.elim (fun e => .inl (.inl e)) (fun e => .inr e), fun e => by cases e⟩
          · exact ⟨.inl (.inr e), fun e => by cases e⟩
        · rintro ⟨(e | e) | e, _⟩
          · exact .inl ⟨.inl e, fun e => by cases e⟩
          · exact .inr e
          · exact .inl ⟨.inr e, fun e => by cases e⟩
      · show (o ++ [x]).length ≤ (l ++ [x]).length + 1
        rw [List.length_append, List.length_append]
        simp only [List.length_singleton]
        omega
    | false =>
      have hall : ∀ z ∈ l, z < n := fun z hz => by
        by_cases e : z < n
        · exact e
        · have := hflag.2 ⟨z, hz, by omega⟩
          cases this
      have ho : ∀ y, y ∈ o ↔ y ∈ l := fun y => by
        rw [hmem]
        constructor
        · rintro ⟨e | ⟨e, _⟩, _⟩
          · exact e
          · cases e
        · exact fun e => ⟨.inl e, fun _ => hall y e⟩
      have hlw := hlow rfl
      by_cases hnx : n ≤ x
      · have hd : decide (n ≤ x) = true := decide_eq_true hnx
        simp only [hd, Bool.not_false, Bool.true_and, if_true, Bool.or_true]
        refine ⟨⟨fun _ => ⟨x, by simp, hnx⟩, fun _ => rfl⟩, ?_, fun y => ?_, ?_, fun e => by cases e⟩
        · show ((o ++ [n]) ++ if x = n then [] else [x]).Pairwise (· < ·)
          have h5 : (o ++ [n]).Pairwise (· < ·) := by
            rw [List.pairwise_append]
            refine ⟨hrise, List.pairwise_singleton _ _, fun a ha c hc => ?_⟩
            rw [List.mem_singleton] at hc
            rw [hc]
            exact hall a ((ho a).1 ha)
          by_cases e : x = n
          · rw [if_pos e, List.append_nil]
            exact h5
          · rw [if_neg e, List.pairwise_append]
            refine ⟨h5, List.pairwise_singleton _ _, fun a ha c hc => ?_⟩
            rw [List.mem_singleton] at hc
            rw [hc]
            rcases List.mem_append.1 ha with e2 | e2
            · exact hx a ((ho a).1 e2)
            · rw [List.mem_singleton] at e2
              omega
        · show y ∈ (o ++ [n]) ++ (if x = n then [] else [x]) ↔ _
          rw [List.mem_append, List.mem_append, List.mem_singleton, ho, List.mem_append, List.mem_singleton]
          constructor
          · rintro ((e | e) | e)
            · exact ⟨.inl (.inl e), fun e => by cases e⟩
            · exact ⟨.inr ⟨rfl, e⟩, fun e => by cases e⟩
            · by_cases e2 : x = n
              · rw [if_pos e2] at e; cases e
              · rw [if_neg e2, List.mem_singleton] at e
                exact ⟨.inl (.inr e), fun e => by cases e⟩
          · rintro ⟨(e | e) | ⟨_, e⟩, _⟩
            · exact .inl (.inl e)
            · by_cases e2 : x = n
              · exact .inl (.inr (by rw [e, e2]))
              · rw [if_neg e2, List.mem_singleton]
                exact .inr e
            · exact .inl (.inr e)
        · show ((o ++ [n]) ++ if x = n then [] else [x]).length ≤ (l ++ [x]).length + 1
          rw [List.length_append, List.length_append, List.length_append]
          have : (if x = n then ([] : List Int) else [x]).length ≤ 1 := by split <;> simp
          simp only [List.length_singleton]
          omega
      · have hd : decide (n ≤ x) = false := decide_eq_false hnx
        have hne : x ≠ n := by omega
        simp only [hd, Bool.not_false, Bool.true_and, Bool.false_eq_true, if_false, Bool.or_false, if_neg hne]
        refine ⟨⟨fun e => (by cases e), fun ⟨z, hz, hnz⟩ => ?_⟩, ?_, fun y => ?_, ?_, fun _ => ?_⟩
        · rcases List.mem_append.1 hz with e | e
          · have := hall z e; omega
          · rw [List.mem_singleton] at e; omega
        · rw [List.pairwise_append]
          refine ⟨hrise, List.pairwise_singleton _ _, fun a ha c hc => ?_⟩
          rw [List.mem_singleton] at hc
          rw [hc]
          exact hx a ((ho a).1 ha)
        · show y ∈ o ++ [x] ↔ _
          rw [List.mem_append, ho, List.mem_append, List.mem_singleton]
          constructor
          · rintro (e | e)
            · exact ⟨.inl (.inl e), fun _ => hall y e⟩
            · exact ⟨.inl (.inr e), fun _ => by omega⟩
          · rintro ⟨(e | e) | ⟨e, _⟩, _⟩
            · exact .inl e
            · exact .inr e
            · cases e
        · show (o ++ [x]).length ≤ (l ++ [x]).length + 1
          rw [List.length_append, List.length_append]
          omega
        · show (o ++ [x]).length ≤ (l ++ [x]).length
          rw [List.length_append, List.length_append]
          omega
theorem intoP_rise {l : List Int} (n : Int) (h : l.Pairwise (· < ·)) : (intoP l n).Pairwise (· < ·) ∧ ∀ y, y ∈ intoP l n ↔ y ∈ l ∨ y = n := by
  have hI := into_holds n l h
  unfold intoP
  generalize l.foldl (intoS n) ([], false) = s at hI
  obtain ⟨o, b⟩ := s
  have hmem : ∀ y, y ∈ o ↔ (y ∈ l ∨ (b = true ∧ y = n)) ∧ (b = false → y < n) := hI.mem
  cases b with
  | true =>
    simp only [if_true, List.append_nil]
    refine ⟨hI.rise, fun y => ?_⟩
    rw [hmem]
    simp
  | false =>
    have hall : ∀ z ∈ l, z < n := fun z hz => by
      by_cases e : z < n
      · exact e
      · have := hI.flag.2 ⟨z, hz, by omega⟩
        cases this
    simp only [Bool.false_eq_true, if_false]
    refine ⟨?_, fun y => ?_⟩
    · rw [List.pairwise_append]
      refine ⟨hI.rise, List.pairwise_singleton _ _, fun a ha c hc => ?_⟩
      rw [List.mem_singleton] at hc
      rw [hc]
      exact ((hmem a).1 ha).2 rfl
    · rw [List.mem_append, List.mem_singleton, hmem]
      constructor
      · rintro (⟨e | ⟨e, _⟩, _⟩ | e)
        · exact .inl e
        · cases e
        · exact .inr e
      · rintro (e | e)
        · exact .inl ⟨.inl e, fun _ => hall y e⟩
        · exact .inr e
theorem intoP_len {l : List Int} (n : Int) (h : l.Pairwise (· < ·)) : (intoP l n).length ≤ l.length + 1 := by
  have hI := into_holds n l h
  unfold intoP
  generalize l.foldl (intoS n) ([], false) = s at hI
  obtain ⟨o, b⟩ := s
  have h1 : o.length ≤ l.length + 1 := hI.few
  have h2 : b = false → o.length ≤ l.length := hI.low
  cases b with
  | true => simpa using h1
  | false =>
    have := h2 rfl
    simp
    omega
/-- All that edges name, as the reference has it. -/
def allP (l : List (Int × Int)) : List Int := l.foldl (fun o e => intoP (intoP o e.1) e.2) []
theorem allP_holds : ∀ l : List (Int × Int), (allP l).Pairwise (· < ·) ∧ (∀ y, y ∈ allP l ↔ ∃ e ∈ l, y = e.1 ∨ y = e.2) ∧ (allP l).length ≤ 2 * l.length := by
  intro l
  refine snoc_ind (p := fun l => (allP l).Pairwise (· < ·) ∧ (∀ y, y ∈ allP l ↔ ∃ e ∈ l, y = e.1 ∨ y = e.2) ∧ (allP l).length ≤ 2 * l.length) l ⟨List.Pairwise.nil, fun y => by simp [allP], by simp [allP]⟩ (fun l e ih => ?_)
  obtain ⟨h1, h2, h3⟩ := ih
  have e1 : allP (l ++ [e]) = intoP (intoP (allP l) e.1) e.2 := by unfold allP; rw [List.foldl_append]; rfl
  obtain ⟨h4, h5⟩ := intoP_rise e.1 h1
  obtain ⟨h6, h7⟩ := intoP_rise e.2 h4
  rw [e1]
  refine ⟨h6, fun y => ?_, ?_⟩
  · rw [h7, h5, h2]
    constructor
    · rintro ((⟨e', he, h⟩ | h) | h)
      · exact ⟨e', List.mem_append_left _ he, h⟩
      · exact ⟨e, by simp, .inl h⟩
      · exact ⟨e, by simp, .inr h⟩
    · rintro ⟨e', he, h⟩
      rcases List.mem_append.1 he with h8 | h8
      · exact .inl (.inl ⟨e', h8, h⟩)
      · rw [List.mem_singleton] at h8
        rw [h8] at h
        rcases h with h | h
        · exact .inl (.inr h)
        · exact .inr h
  · have h8 := intoP_len e.1 h1
    have h9 := intoP_len e.2 h4
    rw [List.length_append, List.length_singleton]
    omega
theorem lt_le {l : List Int} (h : l.Pairwise (· < ·)) : l.Nodup ∧ l.Pairwise (· ≤ ·) := ⟨h.imp (fun h => by omega), h.imp (fun h => by omega)⟩
theorem KeysP.all {l : List (Int × Int)} {ns : List Int} (h : KeysP l ns) : ns = allP l := by
  obtain ⟨h1, h2, _⟩ := allP_holds l
  exact rise_uniq h.one (lt_le h1).1 h.rise (lt_le h1).2 (fun y => by rw [h.mem, h2])
end Go.Proofs.Ytlbhpeeggbfcpaa
