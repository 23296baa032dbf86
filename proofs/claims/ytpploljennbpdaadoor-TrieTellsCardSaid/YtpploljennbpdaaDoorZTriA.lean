/- trie in plain words: a tree of paths as a list of beginnings; kids, the order, what is above. Nothing here speaks of the program. -/
import Derived.Lib.Hide
set_option linter.unusedSimpArgs false
set_option linter.unusedVariables false
set_option linter.unnecessarySimpa false
namespace Go.Proofs.YtpploljennbpdaaDoor

abbrev Pth := List Int
/-- The nodes behind node n, by rising numbers. -/
def kidB (P : List Pth) (n m : Nat) : Bool := decide (0 < m ∧ P[m]?.map List.dropLast = P[n]?)
def kidsP (P : List Pth) (n : Nat) : List Nat := (List.range P.length).filter (kidB P n)
/-- Node number 0 is no beginning at all; of each other one the beginning that is shorter by one stands ahead of it; all are short. -/
structure TreeP (P : List Pth) : Prop where
  root : P[0]? = some []
  nd : P.Nodup
  up : ∀ (i : Nat) (p : Pth), P[i]? = some p → 0 < i → ∃ j, j < i ∧ P[j]? = some p.dropLast
  short : ∀ p ∈ P, p.length ≤ 8
theorem TreeP.inj {P : List Pth} (h : TreeP P) {i j : Nat} {p : Pth} (hi : P[i]? = some p) (hj : P[j]? = some p) : i = j := by
  obtain ⟨hi', ei⟩ := List.getElem?_eq_some_iff.1 hi
  obtain ⟨hj', ej⟩ := List.getElem?_eq_some_iff.1 hj
  have hp := List.pairwise_iff_getElem.1 h.nd
  rcases Nat.lt_trichotomy i j with hlt | e | hlt
  · exact absurd (ei.trans ej.symm) (hp i j hi' hj' hlt)
  · exact e
  · exact absurd (ej.trans ei.symm) (hp j i hj' hi' hlt)
theorem TreeP.ne_nil {P : List Pth} (h : TreeP P) {i : Nat} {p : Pth} (hi : P[i]? = some p) (h0 : 0 < i) : p ≠ [] := fun e => by
  subst e
  have := h.inj hi h.root
  omega
theorem TreeP.len {P : List Pth} (h : TreeP P) {i : Nat} {p : Pth} (hi : P[i]? = some p) : p.length ≤ 8 := h.short p (List.mem_of_getElem? hi)
theorem mem_kids {P : List Pth} {n m : Nat} {p : Pth} (hn : P[n]? = some p) : m ∈ kidsP P n ↔ 0 < m ∧ ∃ q, P[m]? = some q ∧ q.dropLast = p := by
  unfold kidsP kidB
  rw [List.mem_filter, List.mem_range, hn]
  constructor
  · rintro ⟨hm, h⟩
    rw [decide_eq_true_eq] at h
    refine ⟨h.1, P[m], List.getElem?_eq_getElem hm, ?_⟩
    have := h.2
    rw [List.getElem?_eq_getElem hm] at this
    exact Option.some.inj this
  · rintro ⟨h0, q, hq, e⟩
    refine ⟨(List.getElem?_eq_some_iff.1 hq).1, ?_⟩
    rw [decide_eq_true_eq, hq]
    exact ⟨h0, by rw [Option.map_some, e]⟩
theorem kids_none {P : List Pth} {n : Nat} (hn : P[n]? = none) : kidsP P n = [] := by
  unfold kidsP kidB
  rw [List.filter_eq_nil_iff]
  intro m hm h
  rw [decide_eq_true_eq, hn, List.getElem?_eq_getElem (List.mem_range.1 hm)] at h
  cases h.2
theorem kids_nodup (P : List Pth) (n : Nat) : (kidsP P n).Nodup := List.nodup_range.sublist List.filter_sublist
theorem kids_rise (P : List Pth) (n : Nat) : (kidsP P n).Pairwise (· < ·) := List.pairwise_lt_range.sublist List.filter_sublist
theorem TreeP.kid {P : List Pth} (h : TreeP P) {n m : Nat} {p : Pth} (hn : P[n]? = some p) (hm : m ∈ kidsP P n) : 0 < m ∧ ∃ x, P[m]? = some (p ++ [x]) := by
  obtain ⟨h0, q, hq, e⟩ := (mem_kids hn).1 hm
  have hne := h.ne_nil hq h0
  refine ⟨h0, q.getLast hne, ?_⟩
  rw [hq, ← e, List.dropLast_concat_getLast hne]
theorem TreeP.kid_of {P : List Pth} (h : TreeP P) {n m : Nat} {p : Pth} {x : Int} (hn : P[n]? = some p) (hm : P[m]? = some (p ++ [x])) : m ∈ kidsP P n := by
  refine (mem_kids hn).2 ⟨?_, _, hm, by rw [List.dropLast_concat]⟩
  cases m with
  | succ m => omega
  | zero => rw [h.root] at hm; cases p <;> cases hm
/-- A node and all below it, in order. -/
def preF (P : List Pth) : Nat → Nat → List Nat
  | 0, _ => []
  | f + 1, n => n :: (kidsP P n).flatMap (preF P f)
def preP (P : List Pth) (n : Nat) : List Nat := match P[n]? with | some p => preF P (9 - p.length) n | none => []
theorem preP_some {P : List Pth} {n : Nat} {p : Pth} (hn : P[n]? = some p) : preP P n = preF P (9 - p.length) n := by unfold preP; rw [hn]
theorem flatMap_congr' {α β : Type} {f g : α → List β} : ∀ {l : List α}, (∀ a ∈ l, f a = g a) → l.flatMap f = l.flatMap g
  | [], _ => rfl
  | a :: l, h => by rw [List.flatMap_cons, List.flatMap_cons, h a (List.mem_cons_self ..), flatMap_congr' (fun b hb => h b (List.mem_cons_of_mem _ hb))]
theorem preP_eq {P : List Pth} (h : TreeP P) {n : Nat} {p : Pth} (hn : P[n]? = some p) : preP P n = n :: (kidsP P n).flatMap (preP P) := by
  have hl := h.len hn
  rw [preP_some hn, show 9 - p.length = (8 - p.length) + 1 from by omega]
  show n :: (kidsP P n).flatMap (preF P (8 - p.length)) = _
  congr 1
  refine flatMap_congr' fun m hm => ?_
  obtain ⟨_, x, hx⟩ := h.kid hn hm
  rw [preP_some hx, List.length_append, List.length_singleton, show 9 - (p.length + 1) = 8 - p.length from by omega]
theorem preP_none {P : List Pth} {n : Nat} (hn : P[n]? = none) : preP P n = [] := by unfold preP; rw [hn]
/-- Induction from the leaves on. -/
theorem TreeP.ind {P : List Pth} (h : TreeP P) {C : Nat → Pth → Prop} (hC : ∀ n p, P[n]? = some p → (∀ m x, m ∈ kidsP P n → P[m]? = some (p ++ [x]) → C m (p ++ [x])) → C n p) : ∀ n p, P[n]? = some p → C n p := by
  have : ∀ k n p, P[n]? = some p → 8 - p.length = k → C n p := by
    intro k
    induction k with
    | zero =>
      intro n p hn hk
      refine hC n p hn (fun m x hm hx => ?_)
      have := h.len hx
      rw [List.length_append, List.length_singleton] at this
      have := h.len hn
      omega
    | succ k ih =>
      intro n p hn hk
      exact hC n p hn (fun m x hm hx => ih m _ hx (by rw [List.length_append, List.length_singleton]; omega))
  exact fun n p hn => this _ n p hn rfl
theorem TreeP.take {P : List Pth} (h : TreeP P) : ∀ (k : Nat) {i : Nat} {p : Pth}, P[i]? = some p → ∃ j : Nat, P[j]? = some (p.take (p.length - k))
  | 0, i, p, hi => ⟨i, by rw [Nat.sub_zero, List.take_length]; exact hi⟩
  | k + 1, i, p, hi => by
    obtain ⟨j, hj⟩ := h.take k hi
    by_cases hk : p.length ≤ k
    · refine ⟨j, ?_⟩
      rw [hj, show p.length - (k + 1) = p.length - k from by omega]
    · have h0 : 0 < j := by
        cases j with
        | succ j => omega
        | zero =>
          rw [h.root] at hj
          have := congrArg (Option.map List.length) hj
          simp at this
          omega
      obtain ⟨j2, _, hj2⟩ := h.up j _ hj h0
      refine ⟨j2, ?_⟩
      rw [hj2, List.dropLast_eq_take, List.take_take, List.length_take]
      congr 2
      omega
theorem TreeP.prefix_of {P : List Pth} (h : TreeP P) {i : Nat} {p q : Pth} (hi : P[i]? = some p) (hq : q <+: p) : ∃ j : Nat, P[j]? = some q := by
  obtain ⟨j, hj⟩ := h.take (p.length - q.length) hi
  have hl := hq.length_le
  rw [show p.length - (p.length - q.length) = q.length from by omega, ← List.prefix_iff_eq_take.1 hq] at hj
  exact ⟨j, hj⟩
theorem mem_pre {P : List Pth} (h : TreeP P) : ∀ n p, P[n]? = some p → ∀ m, m ∈ preP P n ↔ ∃ q, P[m]? = some q ∧ p <+: q := by
  refine h.ind (C := fun n p => ∀ m, m ∈ preP P n ↔ ∃ q, P[m]? = some q ∧ p <+: q) (fun n p hn ih m => ?_)
  rw [preP_eq h hn, List.mem_cons, List.mem_flatMap]
  constructor
  · rintro (rfl | ⟨k, hk, hm⟩)
    · exact ⟨p, hn, List.prefix_refl p⟩
    · obtain ⟨_, x, hx⟩ := h.kid hn hk
      obtain ⟨q, hq, hpq⟩ := (ih k x hk hx m).1 hm
      exact ⟨q, hq, (List.prefix_append p [x]).trans hpq⟩
  · rintro ⟨q, hq, r, rfl⟩
    cases r with
    | nil => left; rw [List.append_nil] at hq; exact h.inj hq hn
    | cons x r =>
      right
      obtain ⟨k, hk⟩ := h.prefix_of hq (q := p ++ [x]) ⟨r, by simp⟩
      have hm := h.kid_of hn hk
      exact ⟨k, hm, (ih k x hm hk m).2 ⟨_, hq, r, by simp⟩⟩
theorem pre_lt {P : List Pth} (h : TreeP P) {n m : Nat} (hm : m ∈ preP P n) : m < P.length := by
  cases hn : P[n]? with
  | none => rw [preP_none hn] at hm; cases hm
  | some p =>
    obtain ⟨q, hq, _⟩ := (mem_pre h n p hn m).1 hm
    exact (List.getElem?_eq_some_iff.1 hq).1
theorem prefix_len {a b : Pth} {x y : Int} {q : Pth} (h1 : a ++ [x] <+: q) (h2 : a ++ [y] <+: q) : x = y := by
  have e1 := List.prefix_iff_eq_take.1 h1
  have e2 := List.prefix_iff_eq_take.1 h2
  rw [List.length_append, List.length_singleton] at e1 e2
  have := e1.trans e2.symm
  simpa using this
theorem flatMap_nodup {α β : Type} {f : α → List β} : ∀ {l : List α}, (∀ a ∈ l, (f a).Nodup) → l.Pairwise (fun a b => ∀ x, x ∈ f a → x ∈ f b → False) → (l.flatMap f).Nodup
  | [], _, _ => by simp
  | a :: l, h1, h2 => by
    rw [List.flatMap_cons, List.nodup_append]
    obtain ⟨h3, h4⟩ := List.pairwise_cons.1 h2
    refine ⟨h1 a (List.mem_cons_self ..), flatMap_nodup (fun b hb => h1 b (List.mem_cons_of_mem _ hb)) h4, ?_⟩
    intro x hx y hy e
    subst e
    obtain ⟨b, hb, hxb⟩ := List.mem_flatMap.1 hy
    exact h3 b hb x hx hxb
theorem pre_nodup {P : List Pth} (h : TreeP P) : ∀ n p, P[n]? = some p → (preP P n).Nodup := by
  refine h.ind (C := fun n p => (preP P n).Nodup) (fun n p hn ih => ?_)
  rw [preP_eq h hn, List.nodup_cons]
  constructor
  · intro hm
    obtain ⟨k, hk, hm⟩ := List.mem_flatMap.1 hm
    obtain ⟨_, x, hx⟩ := h.kid hn hk
    obtain ⟨q, hq, hpq⟩ := (mem_pre h k _ hx n).1 hm
    rw [hn] at hq
    have := hpq.length_le
    rw [← Option.some.inj hq, List.length_append, List.length_singleton] at this
    omega
  · refine flatMap_nodup (fun k hk => by obtain ⟨_, x, hx⟩ := h.kid hn hk; exact ih k x hk hx) ?_
    refine (kids_rise P n).imp_of_mem ?_
    intro a b ha hb hlt m hma hmb
    obtain ⟨_, x, hx⟩ := h.kid hn ha
    obtain ⟨_, y, hy⟩ := h.kid hn hb
    obtain ⟨q, hq, hpq⟩ := (mem_pre h a _ hx m).1 hma
    obtain ⟨q', hq', hpq'⟩ := (mem_pre h b _ hy m).1 hmb
    rw [hq] at hq'
    cases hq'
    have := prefix_len (b := []) hpq hpq'
    subst this
    have := h.inj hx hy
    omega
theorem length_le_of_nodup : ∀ (n : Nat) (l : List Nat), l.Nodup → (∀ m ∈ l, m < n) → l.length ≤ n
  | 0, l, _, h => by
    cases l with
    | nil => exact Nat.le_refl _
    | cons a l => exact absurd (h a (List.mem_cons_self ..)) (by omega)
  | n + 1, l, hnd, h => by
    have h1 := length_le_of_nodup n (l.erase n) (hnd.erase n) (fun m hm => by
      have h2 := h m (List.mem_of_mem_erase hm)
      have h3 : m ≠ n := fun e => by subst e; exact hnd.not_mem_erase hm
      omega)
    rw [List.length_erase] at h1
    split at h1 <;> omega
theorem pre_len {P : List Pth} (h : TreeP P) (n : Nat) : (preP P n).length ≤ P.length := by
  cases hn : P[n]? with
  | none => rw [preP_none hn]; exact Nat.zero_le _
  | some p => exact length_le_of_nodup _ _ (pre_nodup h n p hn) (fun m hm => pre_lt h hm)
/-- The leaves, in order. -/
def leavesP (P : List Pth) : List Nat := (preP P 0).filter fun n => (kidsP P n).isEmpty
theorem mem_leaves {P : List Pth} (h : TreeP P) {n : Nat} : n ∈ leavesP P ↔ n < P.length ∧ kidsP P n = [] := by
  unfold leavesP
  rw [List.mem_filter, mem_pre h 0 [] h.root, List.isEmpty_iff]
  constructor
  · rintro ⟨⟨q, hq, _⟩, h2⟩
    exact ⟨(List.getElem?_eq_some_iff.1 hq).1, h2⟩
  · rintro ⟨h1, h2⟩
    exact ⟨⟨P[n], List.getElem?_eq_getElem h1, List.nil_prefix⟩, h2⟩
theorem leaves_nodup {P : List Pth} (h : TreeP P) : (leavesP P).Nodup := (pre_nodup h 0 [] h.root).sublist List.filter_sublist
end Go.Proofs.YtpploljennbpdaaDoor
