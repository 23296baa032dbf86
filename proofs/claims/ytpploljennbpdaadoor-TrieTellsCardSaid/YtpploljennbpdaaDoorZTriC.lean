/- trie in plain words: what is above a node, where two meet, who is preferred; of the leaves of a tree that was built. -/
import Derived.Test.YtpploljennbpdaaDoorZTriB
set_option linter.unusedSimpArgs false
set_option linter.unusedVariables false
set_option linter.unnecessarySimpa false
namespace Go.Proofs.YtpploljennbpdaaDoor

/-- The node ahead; the root's: -1. -/
def upP (P : List Pth) (n : Nat) : Int := match P[n]? with | some p => if n = 0 then -1 else (idxP P p.dropLast : Int) | none => -1
theorem up_root {P : List Pth} : upP P 0 = -1 := by unfold upP; split <;> rfl
theorem up_at {P : List Pth} {n : Nat} {p : Pth} (hn : P[n]? = some p) (h0 : 0 < n) : upP P n = (idxP P p.dropLast : Int) := by
  unfold upP
  rw [hn]
  show (if n = 0 then -1 else _) = _
  rw [if_neg (by omega)]
/-- The nodes from a node up to the root. -/
def aboveP (P : List Pth) (n : Nat) : List Nat := match P[n]? with | some p => (List.range (p.length + 1)).map (fun k => idxP P (p.take (p.length - k))) | none => []
theorem above_some {P : List Pth} {n : Nat} {p : Pth} (hn : P[n]? = some p) : aboveP P n = (List.range (p.length + 1)).map (fun k => idxP P (p.take (p.length - k))) := by unfold aboveP; rw [hn]
theorem above_none {P : List Pth} {n : Nat} (hn : P[n]? = none) : aboveP P n = [] := by unfold aboveP; rw [hn]
theorem take_in {P : List Pth} (h : TreeP P) {n : Nat} {p : Pth} (hn : P[n]? = some p) (k : Nat) : P[idxP P (p.take k)]? = some (p.take k) := by
  obtain ⟨j, hj⟩ := h.prefix_of hn (List.take_prefix k p)
  exact idx_at (List.mem_of_getElem? hj)
theorem mem_above {P : List Pth} (h : TreeP P) {n : Nat} {p : Pth} (hn : P[n]? = some p) {m : Nat} : m ∈ aboveP P n ↔ ∃ q, P[m]? = some q ∧ q <+: p := by
  rw [above_some hn, List.mem_map]
  constructor
  · rintro ⟨k, _, rfl⟩
    exact ⟨_, take_in h hn _, List.take_prefix _ _⟩
  · rintro ⟨q, hq, hpq⟩
    refine ⟨p.length - q.length, List.mem_range.2 (by omega), ?_⟩
    have := hpq.length_le
    rw [show p.length - (p.length - q.length) = q.length from by omega, ← List.prefix_iff_eq_take.1 hpq]
    exact h.idx hq
theorem above_at {P : List Pth} (h : TreeP P) {n : Nat} {p : Pth} (hn : P[n]? = some p) {k : Nat} (hk : k ≤ p.length) : (aboveP P n)[k]? = some (idxP P (p.take (p.length - k))) := by
  rw [above_some hn, List.getElem?_map, List.getElem?_range (by omega)]
  rfl
theorem above_len {P : List Pth} {n : Nat} {p : Pth} (hn : P[n]? = some p) : (aboveP P n).length = p.length + 1 := by rw [above_some hn, List.length_map, List.length_range]
/-- One step up. -/
theorem above_up {P : List Pth} (h : TreeP P) {n : Nat} {p : Pth} (hn : P[n]? = some p) {k : Nat} (hk : k < p.length) : upP P (idxP P (p.take (p.length - k))) = (idxP P (p.take (p.length - (k + 1))) : Int) := by
  have hm := take_in h hn (p.length - k)
  have h0 : 0 < idxP P (p.take (p.length - k)) := by
    cases e : idxP P (p.take (p.length - k)) with
    | succ j => omega
    | zero =>
      rw [e, h.root] at hm
      have := congrArg (Option.map List.length) hm
      simp at this
      omega
  rw [up_at hm h0, List.dropLast_eq_take, List.take_take, List.length_take]
  congr 3
  omega
theorem above_nodup {P : List Pth} (h : TreeP P) {n : Nat} {p : Pth} (hn : P[n]? = some p) : (aboveP P n).Nodup := by
  rw [above_some hn]
  unfold List.Nodup
  rw [List.pairwise_map]
  refine (List.pairwise_lt_range (n := p.length + 1)).imp_of_mem ?_
  intro a b ha hb hlt e
  have h1 := take_in h hn (p.length - a)
  have h2 := take_in h hn (p.length - b)
  rw [e, h2] at h1
  have := congrArg (Option.map List.length) h1
  have := List.mem_range.1 hb
  simp at *
  omega
theorem above_le {P : List Pth} (h : TreeP P) {n : Nat} {p : Pth} (hn : P[n]? = some p) : p.length + 1 ≤ P.length := by
  rw [← above_len hn]
  exact length_le_of_nodup _ _ (above_nodup h hn) (fun m hm => by
    obtain ⟨q, hq, _⟩ := (mem_above h hn).1 hm
    exact (List.getElem?_eq_some_iff.1 hq).1)
theorem above_lt {P : List Pth} (h : TreeP P) {n m : Nat} (hm : m ∈ aboveP P n) : m < P.length := by
  cases hn : P[n]? with
  | none => rw [above_none hn] at hm; cases hm
  | some p =>
    obtain ⟨q, hq, _⟩ := (mem_above h hn).1 hm
    exact (List.getElem?_eq_some_iff.1 hq).1
/-- The first of some list that is in another one; -1: none. -/
def firstI (A B : List Nat) : Int := match A.find? (fun n => B.contains n) with | some n => (n : Int) | none => -1
/-- The lowest node above both. -/
def meetP (P : List Pth) (a b : Nat) : Int := firstI (aboveP P a) (aboveP P b)
theorem meet_none {P : List Pth} {a b : Nat} (h : P[a]? = none ∨ P[b]? = none) : meetP P a b = -1 := by
  unfold meetP firstI
  rcases h with h | h
  · rw [above_none h]; rfl
  · rw [above_none (n := b) h]
    have : (aboveP P a).find? (fun n => ([] : List Nat).contains n) = none := List.find?_eq_none.2 (fun x _ => by simp)
    rw [this]
theorem meet_spec {P : List Pth} (h : TreeP P) {a b : Nat} {p q : Pth} (ha : P[a]? = some p) (hb : P[b]? = some q) :
    ∃ (m : Nat) (r : Pth), meetP P a b = (m : Int) ∧ P[m]? = some r ∧ r <+: p ∧ r <+: q ∧ ∀ s, s <+: p → s <+: q → s.length ≤ r.length := by
  unfold meetP firstI
  rw [above_some ha, List.find?_map]
  cases hf : (List.range (p.length + 1)).find? ((fun n => (aboveP P b).contains n) ∘ fun k => idxP P (p.take (p.length - k))) with
  | none =>
    exfalso
    have h1 := List.find?_eq_none.1 hf p.length (List.mem_range.2 (by omega))
    refine h1 ?_
    show (aboveP P b).contains (idxP P (p.take (p.length - p.length))) = true
    rw [List.contains_iff_mem, mem_above h hb, Nat.sub_self, List.take_zero]
    exact ⟨[], by have := take_in h ha 0; rwa [List.take_zero] at this, List.nil_prefix⟩
  | some k =>
    obtain ⟨h1, h2, h3⟩ := List.find?_range_eq_some.1 hf
    have h2 := List.mem_range.1 h2
    have h1' : (aboveP P b).contains (idxP P (p.take (p.length - k))) = true := h1
    rw [List.contains_iff_mem, mem_above h hb] at h1'
    obtain ⟨r, hr, hrq⟩ := h1'
    have ht := take_in h ha (p.length - k)
    rw [hr] at ht
    obtain rfl := Option.some.inj ht
    refine ⟨_, _, rfl, hr, List.take_prefix _ _, hrq, fun s hs1 hs2 => ?_⟩
    rw [List.length_take]
    have hsl := hs1.length_le
    by_cases hlt : p.length - s.length < k
    · exfalso
      have h4 := h3 _ hlt
      have h5 : (aboveP P b).contains (idxP P (p.take (p.length - (p.length - s.length)))) = true := by
        rw [show p.length - (p.length - s.length) = s.length from by omega, ← List.prefix_iff_eq_take.1 hs1, List.contains_iff_mem, mem_above h hb]
        obtain ⟨j, hj⟩ := h.prefix_of ha hs1
        exact ⟨s, idx_at (List.mem_of_getElem? hj), hs2⟩
      have h6 : (!((fun n => (aboveP P b).contains n) ∘ fun k => idxP P (p.take (p.length - k))) (p.length - s.length)) = true := h4
      rw [show ((fun n => (aboveP P b).contains n) ∘ fun k => idxP P (p.take (p.length - k))) (p.length - s.length) = true from h5] at h6
      cases h6
    · omega
theorem meet_eq {P : List Pth} (h : TreeP P) {a b : Nat} {p q : Pth} (ha : P[a]? = some p) (hb : P[b]? = some q) : meetP P a b = (a : Int) ↔ p <+: q := by
  obtain ⟨m, r, e, hm, h1, h2, h3⟩ := meet_spec h ha hb
  rw [e]
  constructor
  · intro e2
    obtain rfl : m = a := by omega
    rw [hm] at ha
    obtain rfl := Option.some.inj ha
    exact h2
  · intro hpq
    have h4 := h3 p (List.prefix_refl _) hpq
    have : r = p := h1.eq_of_length (Nat.le_antisymm h1.length_le h4)
    subst this
    rw [h.inj hm ha]
/-- Does one stand ahead of another one, and not above it? -/
def prefP (P : List Pth) (a b : Nat) : Bool := decide (a < P.length ∧ b < P.length ∧ meetP P a b ≠ (a : Int) ∧ (preP P 0).idxOf a < (preP P 0).idxOf b)
/-- The first of two that a list has, is it the first one? -/
def firstB (O : List Nat) (a b : Nat) : Bool := match O.find? (fun n => n == a || n == b) with | some n => n == a | none => false
theorem first_idx {a b : Nat} (hab : a ≠ b) : ∀ O : List Nat, a ∈ O → firstB O a b = decide (O.idxOf a < O.idxOf b)
  | [], h => by cases h
  | x :: O, h => by
    unfold firstB
    rw [List.find?_cons, List.idxOf_cons, List.idxOf_cons]
    by_cases e1 : x = a
    · have e2 : (x == b) = false := by rw [beq_eq_false_iff_ne]; omega
      subst e1
      rw [e2]
      simp
    · by_cases e3 : x = b
      · subst e3
        have e4 : (x == a) = false := by rw [beq_eq_false_iff_ne]; omega
        rw [e4]
        simp [e1]
      · have e4 : (x == a) = false := by rw [beq_eq_false_iff_ne]; omega
        have e5 : (x == b) = false := by rw [beq_eq_false_iff_ne]; omega
        have h2 : a ∈ O := by
          rcases List.mem_cons.1 h with h | h
          · exact absurd h.symm e1
          · exact h
        have ih := first_idx hab O h2
        unfold firstB at ih
        rw [e4, e5]
        simp only [Bool.or_false, cond_false]
        rw [ih]
        simp
theorem pref_ref {P : List Pth} (h : TreeP P) {a b : Nat} {p q : Pth} (ha : P[a]? = some p) (hb : P[b]? = some q) : prefP P a b = (!decide (p <+: q) && firstB (preP P 0) a b) := by
  have hal := (List.getElem?_eq_some_iff.1 ha).1
  have hbl := (List.getElem?_eq_some_iff.1 hb).1
  unfold prefP
  by_cases hpq : p <+: q
  · have := (meet_eq h ha hb).2 hpq
    simp [hpq, this]
  · have h1 : meetP P a b ≠ (a : Int) := fun e => hpq ((meet_eq h ha hb).1 e)
    have hab : a ≠ b := fun e => by
      subst e
      rw [ha] at hb
      obtain rfl := Option.some.inj hb
      exact hpq (List.prefix_refl _)
    rw [first_idx hab _ ((mem_pre h 0 [] h.root a).2 ⟨p, ha, List.nil_prefix⟩)]
    simp [hpq, h1, hal, hbl]
theorem pref_none {P : List Pth} {a b : Nat} (h : P[a]? = none ∨ P[b]? = none) : prefP P a b = false := by
  unfold prefP
  rw [decide_eq_false_iff_not]
  rintro ⟨h1, h2, _⟩
  rcases h with h | h <;> rw [List.getElem?_eq_none_iff] at h <;> omega
/-! the leaves of a tree that was built -/
theorem idx_sub {l O : List Nat} (hs : l.Sublist O) (hnd : O.Nodup) : ∀ {i k a b : Nat}, l[i]? = some a → l[k]? = some b → i < k → O.idxOf a < O.idxOf b := by
  induction hs with
  | slnil => intro i k a b h; cases h
  | @cons l O x hs ih =>
    intro i k a b hi hk hlt
    obtain ⟨h1, h2⟩ := List.nodup_cons.1 hnd
    have ha := hs.subset (List.mem_of_getElem? hi)
    have hb := hs.subset (List.mem_of_getElem? hk)
    have e1 : (x == a) = false := by rw [beq_eq_false_iff_ne]; exact fun e => h1 (by rw [e]; exact ha)
    have e2 : (x == b) = false := by rw [beq_eq_false_iff_ne]; exact fun e => h1 (by rw [e]; exact hb)
    have := ih h2 hi hk hlt
    rw [List.idxOf_cons, List.idxOf_cons, e1, e2]
    simp; omega
  | @cons_cons l O x hs ih =>
    intro i k a b hi hk hlt
    obtain ⟨h1, h2⟩ := List.nodup_cons.1 hnd
    obtain ⟨k, rfl⟩ : ∃ k', k = k' + 1 := ⟨k - 1, by omega⟩
    have hk : l[k]? = some b := hk
    have hb := hs.subset (List.mem_of_getElem? hk)
    have e2 : (x == b) = false := by rw [beq_eq_false_iff_ne]; exact fun e => h1 (by rw [e]; exact hb)
    cases i with
    | zero =>
      have hi : some x = some a := hi
      obtain rfl := Option.some.inj hi
      rw [List.idxOf_cons, List.idxOf_cons, e2]
      simp
    | succ i =>
      have hi : l[i]? = some a := hi
      have ha := hs.subset (List.mem_of_getElem? hi)
      have e1 : (x == a) = false := by rw [beq_eq_false_iff_ne]; exact fun e => h1 (by rw [e]; exact ha)
      have := ih h2 hi hk (by omega)
      rw [List.idxOf_cons, List.idxOf_cons, e1, e2]
      simp; omega
/-- Two leaves of a tree that was built: their paths, where they meet, who is preferred. -/
theorem good_pair {L : List Pth} (h8 : ∀ p ∈ L, p.length ≤ 8) (hne : ∀ p ∈ L, p ≠ []) (hL : L ≠ []) (hg : goodP L) {i k a b : Nat} (hik : i ≠ k) (hi : (leavesP (treeP L))[i]? = some a) (hk : (leavesP (treeP L))[k]? = some b) :
    ∃ (p q r : Pth) (m : Nat), L[i]? = some p ∧ L[k]? = some q ∧ (treeP L)[a]? = some p ∧ (treeP L)[b]? = some q ∧ meetP (treeP L) a b = (m : Int) ∧ (treeP L)[m]? = some r ∧ r <+: p ∧ r <+: q ∧ r.length < p.length ∧ r.length < q.length ∧ p[r.length]? ≠ q[r.length]? ∧ prefP (treeP L) a b = decide (i < k) := by
  have hT := tree_ok L h8
  obtain ⟨g1, g2, g3⟩ := (good_iff h8 hne hL).1 hg
  have ta := g3 i a hi
  have tb := g3 k b hk
  have hil : i < L.length := by have := (List.getElem?_eq_some_iff.1 hi).1; omega
  have hkl : k < L.length := by have := (List.getElem?_eq_some_iff.1 hk).1; omega
  rw [List.getElem?_eq_getElem hil] at ta
  rw [List.getElem?_eq_getElem hkl] at tb
  have hp := List.getElem?_eq_getElem hil
  have hq := List.getElem?_eq_getElem hkl
  generalize L[i] = p at *
  generalize L[k] = q at *
  obtain ⟨m, r, e, hm, h1, h2, h3⟩ := meet_spec hT ta tb
  have npq := g1 i k p q hp hq hik
  have nqp := g1 k i q p hq hp (Ne.symm hik)
  have hrp : r.length < p.length := by
    have := h1.length_le
    rcases Nat.lt_or_eq_of_le this with h | h
    · exact h
    · exact absurd (by rw [← h1.eq_of_length h]; exact h2) npq
  have hrq : r.length < q.length := by
    have := h2.length_le
    rcases Nat.lt_or_eq_of_le this with h | h
    · exact h
    · exact absurd (by rw [← h2.eq_of_length h]; exact h1) nqp
  refine ⟨p, q, r, m, hp, hq, ta, tb, e, hm, h1, h2, hrp, hrq, ?_, ?_⟩
  · intro he
    rw [List.getElem?_eq_getElem hrp, List.getElem?_eq_getElem hrq] at he
    have he := Option.some.inj he
    have e1 : p.take (r.length + 1) = r ++ [p[r.length]] := by rw [List.take_succ_eq_append_getElem hrp, ← List.prefix_iff_eq_take.1 h1]
    have e2 : q.take (r.length + 1) = r ++ [q[r.length]] := by rw [List.take_succ_eq_append_getElem hrq, ← List.prefix_iff_eq_take.1 h2]
    have h4 := h3 (r ++ [p[r.length]]) (by rw [← e1]; exact List.take_prefix _ _) (by rw [he, ← e2]; exact List.take_prefix _ _)
    rw [List.length_append, List.length_singleton] at h4
    omega
  · have hmt : meetP (treeP L) a b ≠ (a : Int) := fun e => npq ((meet_eq hT ta tb).1 e)
    have hal := (List.getElem?_eq_some_iff.1 ta).1
    have hbl := (List.getElem?_eq_some_iff.1 tb).1
    unfold prefP
    have hsub : (leavesP (treeP L)).Sublist (preP (treeP L) 0) := List.filter_sublist
    have hnd := pre_nodup hT 0 [] hT.root
    rcases Nat.lt_or_gt_of_ne hik with hlt | hlt
    · have := idx_sub hsub hnd hi hk hlt
      simp [hal, hbl, hmt, this, hlt]
    · have := idx_sub hsub hnd hk hi hlt
      have n1 : ¬ (preP (treeP L) 0).idxOf a < (preP (treeP L) 0).idxOf b := by omega
      have n2 : ¬ i < k := by omega
      simp [n1, n2]
end Go.Proofs.YtpploljennbpdaaDoor
