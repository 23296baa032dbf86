/- trie in plain words: the tree of paths is built; what is above; where two meet; who is preferred. -/
import Derived.Test.YtpploljennbpdaaDoorZTriA
set_option linter.unusedSimpArgs false
set_option linter.unusedVariables false
set_option linter.unnecessarySimpa false
namespace Go.Proofs.YtpploljennbpdaaDoor

theorem snoc_lt {P : List Pth} {z : Pth} {i : Nat} (h : i < P.length) : (P ++ [z])[i]? = P[i]? := List.getElem?_append_left h
theorem snoc_at (P : List Pth) (z : Pth) : (P ++ [z])[P.length]? = some z := by rw [List.getElem?_append_right (Nat.le_refl _), Nat.sub_self]; rfl
theorem TreeP.add {P : List Pth} (h : TreeP P) {n : Nat} {p : Pth} {x : Int} (hn : P[n]? = some p) (hx : p ++ [x] ∉ P) (hl : p.length < 8) : TreeP (P ++ [p ++ [x]]) := by
  have h0 := (List.getElem?_eq_some_iff.1 hn).1
  refine ⟨by rw [snoc_lt (by omega)]; exact h.root, ?_, ?_, ?_⟩
  · rw [List.nodup_append]
    refine ⟨h.nd, (by simp), fun a ha b hb e => ?_⟩
    rw [List.mem_singleton] at hb
    exact hx (by rw [← hb, ← e]; exact ha)
  · intro i q hi hi0
    by_cases hlt : i < P.length
    · rw [snoc_lt hlt] at hi
      obtain ⟨j, hj, hjq⟩ := h.up i q hi hi0
      exact ⟨j, hj, by rw [snoc_lt (by omega)]; exact hjq⟩
    · have hil := (List.getElem?_eq_some_iff.1 hi).1
      rw [List.length_append, List.length_singleton] at hil
      obtain rfl : i = P.length := by omega
      rw [snoc_at] at hi
      obtain rfl := Option.some.inj hi
      exact ⟨n, h0, by rw [snoc_lt h0, List.dropLast_concat]; exact hn⟩
  · intro q hq
    rw [List.mem_append, List.mem_singleton] at hq
    rcases hq with hq | rfl
    · exact h.short q hq
    · rw [List.length_append, List.length_singleton]; omega
theorem kidB_snoc {P : List Pth} {z : Pth} {m i : Nat} (hm : m < P.length) (hi : i < P.length) : kidB (P ++ [z]) m i = kidB P m i := by
  unfold kidB
  rw [snoc_lt hm, snoc_lt hi]
theorem kids_snoc (P : List Pth) (z : Pth) (m : Nat) : kidsP (P ++ [z]) m = ((List.range P.length).filter (kidB (P ++ [z]) m)) ++ if kidB (P ++ [z]) m P.length then [P.length] else [] := by
  unfold kidsP
  rw [List.length_append, List.length_singleton, List.range_succ, List.filter_append]
  congr 1
  rw [List.filter_cons]
  rfl
theorem kids_add_same {P : List Pth} (h : TreeP P) {n : Nat} {p : Pth} {x : Int} (hn : P[n]? = some p) : kidsP (P ++ [p ++ [x]]) n = kidsP P n ++ [P.length] := by
  have h0 := (List.getElem?_eq_some_iff.1 hn).1
  rw [kids_snoc, if_pos (by
    unfold kidB
    rw [decide_eq_true_eq, snoc_at, snoc_lt h0, hn, Option.map_some, List.dropLast_concat]
    exact ⟨by omega, rfl⟩)]
  congr 1
  exact List.filter_congr fun i hi => kidB_snoc h0 (List.mem_range.1 hi)
theorem kids_add_other {P : List Pth} (h : TreeP P) {n m : Nat} {p : Pth} {x : Int} (hn : P[n]? = some p) (hm : m < P.length) (hne : m ≠ n) : kidsP (P ++ [p ++ [x]]) m = kidsP P m := by
  rw [kids_snoc, if_neg (by
    unfold kidB
    rw [decide_eq_true_eq, snoc_at, snoc_lt hm, Option.map_some, List.dropLast_concat]
    exact fun e => hne (h.inj e.2.symm hn)), List.append_nil]
  exact List.filter_congr fun i hi => kidB_snoc hm (List.mem_range.1 hi)
theorem kids_add_new {P : List Pth} (h : TreeP P) {p : Pth} {x : Int} (hx : p ++ [x] ∉ P) : kidsP (P ++ [p ++ [x]]) P.length = [] := by
  rw [kids_snoc, if_neg (by
    unfold kidB
    rw [decide_eq_true_eq, snoc_at, Option.map_some, List.dropLast_concat]
    exact fun e => by have := congrArg List.length (Option.some.inj e.2); simp at this), List.append_nil]
  rw [List.filter_eq_nil_iff]
  intro i hi e
  have hi := List.mem_range.1 hi
  unfold kidB at e
  rw [decide_eq_true_eq, snoc_at, snoc_lt hi, List.getElem?_eq_getElem hi, Option.map_some] at e
  obtain ⟨j, _, hj⟩ := h.up i P[i] (List.getElem?_eq_getElem hi) e.1
  rw [e.2] at hj
  exact hx (List.mem_of_getElem? hj)
/-! the tree of paths -/
def addK (P : List Pth) (q : Pth) : List Pth := if q ∈ P then P else P ++ [q]
def addN (P : List Pth) (p : Pth) : Nat → List Pth
  | 0 => P
  | k + 1 => addK (addN P p k) (p.take (k + 1))
def addP (P : List Pth) (p : Pth) : List Pth := addN P p p.length
def treeP (L : List Pth) : List Pth := L.foldl addP [[]]
theorem addK_pre (P : List Pth) (q : Pth) : P <+: addK P q := by
  unfold addK
  split
  · exact List.prefix_refl _
  · exact List.prefix_append _ _
theorem mem_addK {P : List Pth} {q r : Pth} : r ∈ addK P q ↔ r ∈ P ∨ r = q := by
  unfold addK
  split
  · rename_i h
    exact ⟨.inl, fun e => e.elim id (fun e => by rw [e]; exact h)⟩
  · rw [List.mem_append, List.mem_singleton]
theorem addN_pre (P : List Pth) (p : Pth) : ∀ k, P <+: addN P p k
  | 0 => List.prefix_refl _
  | k + 1 => (addN_pre P p k).trans (addK_pre _ _)
theorem addN_le (P : List Pth) (p : Pth) {k m : Nat} (h : k ≤ m) : addN P p k <+: addN P p m := by
  induction m with
  | zero => rw [show k = 0 from by omega]; exact List.prefix_refl _
  | succ m ih =>
    by_cases e : k = m + 1
    · rw [e]; exact List.prefix_refl _
    · exact (ih (by omega)).trans (addK_pre _ _)
theorem mem_addN {P : List Pth} {p : Pth} {q : Pth} : ∀ k, k ≤ p.length → (q ∈ addN P p k ↔ q ∈ P ∨ ∃ j, 0 < j ∧ j ≤ k ∧ q = p.take j)
  | 0, _ => ⟨.inl, fun e => e.elim id (fun ⟨j, h1, h2, _⟩ => by omega)⟩
  | k + 1, hk => by
    unfold addN
    rw [mem_addK, mem_addN k (by omega)]
    constructor
    · rintro ((h | ⟨j, h1, h2, e⟩) | e)
      · exact .inl h
      · exact .inr ⟨j, h1, by omega, e⟩
      · exact .inr ⟨k + 1, by omega, Nat.le_refl _, e⟩
    · rintro (h | ⟨j, h1, h2, e⟩)
      · exact .inl (.inl h)
      · by_cases ej : j = k + 1
        · subst ej; exact .inr e
        · exact .inl (.inr ⟨j, h1, by omega, e⟩)
theorem addN_ok {P : List Pth} (h : TreeP P) {p : Pth} (hp : p.length ≤ 8) : ∀ k, k ≤ p.length → TreeP (addN P p k) ∧ p.take k ∈ addN P p k
  | 0, _ => ⟨h, by rw [List.take_zero]; exact List.mem_of_getElem? h.root⟩
  | k + 1, hk => by
    obtain ⟨h1, h2⟩ := addN_ok h hp k (by omega)
    have hm : p.take (k + 1) ∈ addN P p (k + 1) := by unfold addN; rw [mem_addK]; exact .inr rfl
    refine ⟨?_, hm⟩
    unfold addN addK
    split
    · exact h1
    · rename_i hn
      obtain ⟨n, hn'⟩ := List.getElem?_of_mem h2
      have e : p.take (k + 1) = p.take k ++ [p[k]] := by rw [List.take_succ_eq_append_getElem (by omega)]
      rw [e] at hn ⊢
      exact h1.add hn' hn (by rw [List.length_take]; omega)
theorem addP_ok {P : List Pth} (h : TreeP P) {p : Pth} (hp : p.length ≤ 8) : TreeP (addP P p) := (addN_ok h hp _ (Nat.le_refl _)).1
theorem tree0 : TreeP [[]] := ⟨rfl, by simp, (fun i p hi h0 => by
  have := (List.getElem?_eq_some_iff.1 hi).1
  simp at this
  omega), fun p hp => by rw [List.mem_singleton] at hp; subst hp; exact Nat.zero_le _⟩
theorem tree_snoc (L : List Pth) (p : Pth) : treeP (L ++ [p]) = addP (treeP L) p := by unfold treeP; rw [List.foldl_append]; rfl
theorem list_snoc_ind {α : Type} {C : List α → Prop} (h0 : C []) (hs : ∀ l a, C l → C (l ++ [a])) : ∀ l, C l := by
  have : ∀ l : List α, C l.reverse := by
    intro l
    induction l with
    | nil => exact h0
    | cons a l ih => rw [List.reverse_cons]; exact hs _ _ ih
  intro l
  have h := this l.reverse
  rwa [List.reverse_reverse] at h
theorem tree_ok : ∀ L : List Pth, (∀ p ∈ L, p.length ≤ 8) → TreeP (treeP L) := by
  refine list_snoc_ind (fun _ => tree0) (fun L p ih h => ?_)
  rw [tree_snoc]
  exact addP_ok (ih (fun q hq => h q (List.mem_append_left _ hq))) (h p (by simp))
theorem mem_tree : ∀ (L : List Pth) (q : Pth), q ∈ treeP L ↔ q = [] ∨ ∃ p ∈ L, q <+: p := by
  refine list_snoc_ind (fun q => ?_) (fun L p ih q => ?_)
  · show q ∈ [[]] ↔ _
    rw [List.mem_singleton]
    exact ⟨.inl, fun e => e.elim id (fun ⟨p, hp, _⟩ => by cases hp)⟩
  · rw [tree_snoc]
    unfold addP
    rw [mem_addN p.length (Nat.le_refl _), ih]
    constructor
    · rintro ((h | ⟨r, hr, h⟩) | ⟨j, h1, h2, rfl⟩)
      · exact .inl h
      · exact .inr ⟨r, List.mem_append_left _ hr, h⟩
      · exact .inr ⟨p, by simp, List.take_prefix _ _⟩
    · rintro (h | ⟨r, hr, h⟩)
      · exact .inl (.inl h)
      · rw [List.mem_append, List.mem_singleton] at hr
        rcases hr with hr | rfl
        · exact .inl (.inr ⟨r, hr, h⟩)
        · by_cases hq : q = []
          · exact .inl (.inl hq)
          · exact .inr ⟨q.length, List.length_pos_iff.2 hq, h.length_le, List.prefix_iff_eq_take.1 h⟩
theorem addP_len (P : List Pth) (p : Pth) : (addP P p).length ≤ P.length + p.length := by
  have : ∀ k, (addN P p k).length ≤ P.length + k := by
    intro k
    induction k with
    | zero => exact Nat.le_refl _
    | succ k ih =>
      unfold addN addK
      split
      · omega
      · rw [List.length_append, List.length_singleton]; omega
  exact this _
theorem tree_len : ∀ L : List Pth, (∀ p ∈ L, p.length ≤ 8) → (treeP L).length ≤ 1 + 8 * L.length := by
  refine list_snoc_ind (fun _ => Nat.le_refl _) (fun L p ih h => ?_)
  rw [tree_snoc, List.length_append, List.length_singleton]
  have h1 := ih (fun q hq => h q (List.mem_append_left _ hq))
  have h2 := addP_len (treeP L) p
  have h3 := h p (by simp)
  omega
/-! the ends of paths, and the leaves -/
def idxP (P : List Pth) (q : Pth) : Nat := P.idxOf q
theorem idx_at {P : List Pth} {q : Pth} (h : q ∈ P) : P[idxP P q]? = some q := by
  unfold idxP
  have hl := List.idxOf_lt_length_of_mem h
  rw [List.getElem?_eq_getElem hl, List.getElem_idxOf hl]
theorem TreeP.idx {P : List Pth} (h : TreeP P) {i : Nat} {q : Pth} (hi : P[i]? = some q) : idxP P q = i := h.inj (idx_at (List.mem_of_getElem? hi)) hi
theorem idx_pre {P T : List Pth} (hT : TreeP T) (hp : P <+: T) {i : Nat} {q : Pth} (hi : P[i]? = some q) : idxP T q = i := by
  obtain ⟨r, rfl⟩ := hp
  exact hT.idx (by rw [List.getElem?_append_left (List.getElem?_eq_some_iff.1 hi).1]; exact hi)
def endsP (T L : List Pth) : List Nat := L.map (idxP T)
/-- The leaves, in order, stand for the paths as they are told. -/
def goodP (L : List Pth) : Prop := endsP (treeP L) L <+: leavesP (treeP L)
instance (L : List Pth) : Decidable (goodP L) := inferInstanceAs (Decidable (_ <+: _))
theorem end_at {L : List Pth} {p : Pth} (h : p ∈ L) : (treeP L)[idxP (treeP L) p]? = some p := idx_at ((mem_tree L p).2 (.inr ⟨p, h, List.prefix_refl _⟩))
theorem leaf_mem {L : List Pth} (h8 : ∀ p ∈ L, p.length ≤ 8) (hne : ∀ p ∈ L, p ≠ []) (hL : L ≠ []) {n : Nat} {q : Pth} (hn : (treeP L)[n]? = some q) (hk : kidsP (treeP L) n = []) : q ∈ L := by
  have hT := tree_ok L h8
  have key : ∀ p ∈ L, q <+: p → q ∈ L := fun p hp ⟨r, hr⟩ => by
    cases r with
    | nil => rw [List.append_nil] at hr; rw [hr]; exact hp
    | cons x r =>
      obtain ⟨k, hk'⟩ := List.getElem?_of_mem ((mem_tree L (q ++ [x])).2 (.inr ⟨p, hp, r, by rw [← hr]; simp⟩))
      have := hT.kid_of hn hk'
      rw [hk] at this
      cases this
  rcases (mem_tree L q).1 (List.mem_of_getElem? hn) with rfl | ⟨p, hp, hqp⟩
  · obtain ⟨p, r, rfl⟩ := List.exists_cons_of_ne_nil hL
    exact key p (List.mem_cons_self ..) List.nil_prefix
  · exact key p hp hqp
theorem good_eq {L : List Pth} (h8 : ∀ p ∈ L, p.length ≤ 8) (hne : ∀ p ∈ L, p ≠ []) (hL : L ≠ []) (hg : goodP L) : leavesP (treeP L) = endsP (treeP L) L := by
  have hT := tree_ok L h8
  obtain ⟨r, hr⟩ := hg
  cases r with
  | nil => rw [← hr, List.append_nil]
  | cons m r =>
    exfalso
    have hnd := leaves_nodup hT
    have hm : m ∈ leavesP (treeP L) := by rw [← hr]; simp
    obtain ⟨h1, h2⟩ := (mem_leaves hT).1 hm
    have h3 := leaf_mem h8 hne hL (List.getElem?_eq_getElem h1) h2
    have h4 : m ∈ endsP (treeP L) L := List.mem_map.2 ⟨_, h3, hT.idx (List.getElem?_eq_getElem h1)⟩
    rw [← hr, List.nodup_append] at hnd
    exact hnd.2.2 m h4 m (by simp) rfl
/-- As the document's own answer asks it. -/
theorem good_iff {L : List Pth} (h8 : ∀ p ∈ L, p.length ≤ 8) (hne : ∀ p ∈ L, p ≠ []) (hL : L ≠ []) :
    goodP L ↔ (∀ (i j : Nat) (p q : Pth), L[i]? = some p → L[j]? = some q → i ≠ j → ¬ p <+: q) ∧ (leavesP (treeP L)).length = L.length ∧ ∀ (i m : Nat), (leavesP (treeP L))[i]? = some m → (treeP L)[m]? = L[i]? := by
  have hT := tree_ok L h8
  constructor
  · intro hg
    have he := good_eq h8 hne hL hg
    have hnd := leaves_nodup hT
    refine ⟨?_, by rw [he]; unfold endsP; rw [List.length_map], ?_⟩
    · intro i j p q hi hj hij hpq
      have hp := List.mem_of_getElem? hi
      have hq := List.mem_of_getElem? hj
      have hie : (endsP (treeP L) L)[i]? = some (idxP (treeP L) p) := by unfold endsP; rw [List.getElem?_map, hi]; rfl
      have hje : (endsP (treeP L) L)[j]? = some (idxP (treeP L) q) := by unfold endsP; rw [List.getElem?_map, hj]; rfl
      obtain ⟨r, rfl⟩ := hpq
      cases r with
      | nil =>
        rw [List.append_nil] at hje
        rw [← he] at hie hje
        obtain ⟨hi', ei⟩ := List.getElem?_eq_some_iff.1 hie
        obtain ⟨hj', ej⟩ := List.getElem?_eq_some_iff.1 hje
        have hp := List.pairwise_iff_getElem.1 hnd
        rcases Nat.lt_or_gt_of_ne hij with hlt | hlt
        · exact hp i j hi' hj' hlt (ei.trans ej.symm)
        · exact hp j i hj' hi' hlt (ej.trans ei.symm)
      | cons x r =>
        have hm : idxP (treeP L) p ∈ leavesP (treeP L) := by rw [he]; exact List.mem_of_getElem? hie
        obtain ⟨_, h2⟩ := (mem_leaves hT).1 hm
        obtain ⟨k, hk⟩ := List.getElem?_of_mem ((mem_tree L (p ++ [x])).2 (.inr ⟨_, hq, r, by simp⟩))
        have := hT.kid_of (end_at hp) hk
        rw [h2] at this
        cases this
    · intro i m hi
      rw [he] at hi
      unfold endsP at hi
      rw [List.getElem?_map] at hi
      cases hx : L[i]? with
      | none => rw [hx] at hi; cases hi
      | some p =>
        rw [hx] at hi
        obtain rfl := Option.some.inj hi
        exact end_at (List.mem_of_getElem? hx)
  · rintro ⟨_, h2, h3⟩
    unfold goodP
    have : endsP (treeP L) L = leavesP (treeP L) := by
      refine List.ext_getElem? fun i => ?_
      unfold endsP
      rw [List.getElem?_map]
      cases hx : (leavesP (treeP L))[i]? with
      | none =>
        rw [List.getElem?_eq_none_iff] at hx
        rw [List.getElem?_eq_none (by omega)]
        rfl
      | some m =>
        have h4 := h3 i m hx
        have hi : i < L.length := by have := (List.getElem?_eq_some_iff.1 hx).1; omega
        rw [List.getElem?_eq_getElem hi] at h4 ⊢
        rw [Option.map_some, hT.idx h4]
    rw [this]
    exact List.prefix_refl _
end Go.Proofs.YtpploljennbpdaaDoor
