/- Tickets, in plain words: who must come ahead of whom, the order that they bear out, and that of the graph of neighbours. Users and their sites, in plain words: who comes first, who waits for whom. -/
import Derived.Test.YtlbhpeeggbfcpaaZOwb
set_option linter.unusedSimpArgs false
set_option linter.unusedVariables false
set_option linter.unnecessarySimpa false
namespace Go.Proofs.Ytlbhpeeggbfcpaa
open Go.RowKit

/-- A ticket: of whom, of which site, which number. -/
structure Tk where
  g : Int
  site : Int
  n : Int
instance : Inhabited Tk := ⟨⟨0, 0, 0⟩⟩
theorem lt_ext {a b : List Int} (ha : a.Pairwise (· < ·)) (hb : b.Pairwise (· < ·)) (h : ∀ x, x ∈ a ↔ x ∈ b) : a = b :=
  rise_uniq (lt_le ha).1 (lt_le hb).1 (lt_le ha).2 (lt_le hb).2 h
/-- Must one come ahead of another one? -/
def aheadB (T : List Tk) (a b : Int) : Bool := T.any fun x => T.any fun y => x.g == a && y.g == b && a != b && x.site == y.site && decide (x.n < y.n)
theorem ahead_iff {T : List Tk} {a b : Int} : aheadB T a b = true ↔ ∃ x ∈ T, ∃ y ∈ T, x.g = a ∧ y.g = b ∧ a ≠ b ∧ x.site = y.site ∧ x.n < y.n := by
  unfold aheadB
  rw [List.any_eq_true]
  constructor
  · rintro ⟨x, hx, h⟩
    rw [List.any_eq_true] at h
    obtain ⟨y, hy, h⟩ := h
    simp at h
    exact ⟨x, hx, y, hy, h.1.1.1.1, h.1.1.1.2, h.1.1.2, h.1.2, h.2⟩
  · rintro ⟨x, hx, y, hy, h1, h2, h3, h4, h5⟩
    refine ⟨x, hx, ?_⟩
    rw [List.any_eq_true]
    exact ⟨y, hy, by simp [h1, h2, h3, h4, h5]⟩
/-- No two tickets of one site have one number. -/
def OnceP (T : List Tk) : Prop := T.Pairwise fun x y => ¬ (x.site = y.site ∧ x.n = y.n)
theorem OnceP.perm {S T : List Tk} (h : OnceP T) (hp : S.Perm T) : OnceP S := by
  unfold OnceP at h ⊢
  exact (hp.pairwise_iff (R := fun x y : Tk => ¬ (x.site = y.site ∧ x.n = y.n)) (fun h e => h ⟨e.1.symm, e.2.symm⟩)).2 h
/-- All of which there is a ticket, rising. -/
def allG (T : List Tk) : List Int := T.foldl (fun o x => intoP o x.g) []
theorem allG_holds : ∀ T : List Tk, (allG T).Pairwise (· < ·) ∧ (∀ y, y ∈ allG T ↔ ∃ x ∈ T, y = x.g) ∧ (allG T).length ≤ T.length := by
  intro T
  refine snoc_ind (p := fun T => (allG T).Pairwise (· < ·) ∧ (∀ y, y ∈ allG T ↔ ∃ x ∈ T, y = x.g) ∧ (allG T).length ≤ T.length) T ⟨List.Pairwise.nil, fun y => by simp [allG], by simp [allG]⟩ ?_
  rintro T t ⟨h1, h2, h3⟩
  have e : allG (T ++ [t]) = intoP (allG T) t.g := by unfold allG; rw [List.foldl_append]; rfl
  rw [e]
  obtain ⟨h4, h5⟩ := intoP_rise t.g h1
  refine ⟨h4, fun y => ?_, ?_⟩
  · rw [h5, h2]
    constructor
    · rintro (⟨x, hx, e⟩ | e)
      · exact ⟨x, List.mem_append_left _ hx, e⟩
      · exact ⟨t, by simp, e⟩
    · rintro ⟨x, hx, e⟩
      rcases List.mem_append.1 hx with h | h
      · exact .inl ⟨x, h, e⟩
      · rw [List.mem_singleton] at h
        exact .inr (by rw [e, h])
  · have := intoP_len t.g h1
    rw [List.length_append, List.length_singleton]
    omega
/-- Who may be next. -/
def freeT (T : List Tk) (all o : List Int) : List Int := all.filter fun g => !o.contains g && all.all fun h => o.contains h || !aheadB T h g
theorem mem_freeT {T : List Tk} {all o : List Int} {g : Int} : g ∈ freeT T all o ↔ g ∈ all ∧ g ∉ o ∧ ∀ h ∈ all, aheadB T h g = true → h ∈ o := by
  unfold freeT
  rw [List.mem_filter, Bool.and_eq_true, List.all_eq_true]
  constructor
  · rintro ⟨h1, h2, h3⟩
    refine ⟨h1, by simpa using h2, fun h hh ha => ?_⟩
    have := h3 h hh
    rw [ha] at this
    simpa using this
  · rintro ⟨h1, h2, h3⟩
    refine ⟨h1, by simpa using h2, fun h hh => ?_⟩
    by_cases ha : aheadB T h g = true
    · have := h3 h hh ha
      simp [this]
    · simp at ha
      simp [ha]
/-- The order, one by one, the least one of those that may be next. -/
def ordT (T : List Tk) (all : List Int) : Nat → List Int → Option (List Int)
  | 0, o => some o
  | n + 1, o => match freeT T all o with
    | [] => none
    | w :: _ => ordT T all n (o ++ [w])
theorem ordT_none {T : List Tk} {ks o : List Int} (h : freeT T ks o = []) : ∀ n, 0 < n → ordT T ks n o = none
  | n + 1, _ => by unfold ordT; rw [h]
theorem ordT_some {T : List Tk} {ks o F : List Int} {w : Int} (h : freeT T ks o = w :: F) (n : Nat) : ordT T ks (n + 1) o = ordT T ks n (o ++ [w]) := by
  show (match freeT T ks o with | [] => none | w :: _ => ordT T ks n (o ++ [w])) = _
  rw [h]
/-- The neighbours in a row of tickets: each with the next one, where both are of one site. -/
def adjL : List Tk → List (Tk × Tk)
  | x :: y :: r => (if x.site = y.site then [(x, y)] else []) ++ adjL (y :: r)
  | _ => []
/-- Sorted by sites, then by numbers. -/
def ltT (x y : Tk) : Prop := x.site < y.site ∨ (x.site = y.site ∧ x.n < y.n)
theorem ltT_of {S : List Tk} (hs : S.Pairwise fun x y => ¬ ltT y x) (ho : OnceP S) : S.Pairwise ltT := by
  refine hs.imp₂ (fun x y h1 h2 => ?_) ho
  unfold ltT at h1 ⊢
  omega
theorem adj_mem {S : List Tk} (hs : S.Pairwise ltT) {p : Tk × Tk} (hp : p ∈ adjL S) : p.1 ∈ S ∧ p.2 ∈ S ∧ p.1.site = p.2.site ∧ p.1.n < p.2.n := by
  induction S with
  | nil => cases hp
  | cons x S ih =>
    cases S with
    | nil => cases hp
    | cons y r =>
      rw [adjL, List.mem_append] at hp
      rw [List.pairwise_cons] at hs
      rcases hp with h | h
      · split at h
        · next he =>
          rw [List.mem_singleton] at h
          subst h
          have := hs.1 y (by simp)
          unfold ltT at this
          exact ⟨by simp, by simp, he, by show x.n < y.n; omega⟩
        · cases h
      · obtain ⟨h1, h2, h3, h4⟩ := ih hs.2 h
        exact ⟨List.mem_cons_of_mem _ h1, List.mem_cons_of_mem _ h2, h3, h4⟩
/-- What holds of one ticket, and goes from each one to the one ahead of it, holds of all of that site ahead of it. -/
theorem adj_back {S : List Tk} (hs : S.Pairwise ltT) {Q : Int → Prop} (hadj : ∀ p ∈ adjL S, Q p.2.g → Q p.1.g) {x y : Tk} (hx : x ∈ S) (hy : y ∈ S) (he : x.site = y.site) (hn : x.n < y.n) (hq : Q y.g) : Q x.g := by
  have key : ∀ S : List Tk, S.Pairwise ltT → (∀ p ∈ adjL S, Q p.2.g → Q p.1.g) → ∀ x, S.head? = some x → ∀ y ∈ S, x.site = y.site → Q y.g → Q x.g := by
    intro S
    induction S with
    | nil => intro _ _ x hx; cases hx
    | cons a S ih =>
      intro hs hadj x hx y hy he hq
      have hx : a = x := by simpa using hx
      subst hx
      cases S with
      | nil =>
        have : y = a := by simpa using hy
        rw [← this]; exact hq
      | cons b r =>
        rw [List.pairwise_cons] at hs
        rcases List.mem_cons.1 hy with rfl | hy
        · exact hq
        · have hab := hs.1 b (by simp)
          have hby : b = y ∨ ltT b y := by
            rcases List.mem_cons.1 hy with h | h
            · exact .inl h.symm
            · exact .inr ((List.pairwise_cons.1 hs.2).1 y h)
          have hse : a.site = b.site := by
            unfold ltT at hab hby
            rcases hby with rfl | hby
            · omega
            · omega
          have hqb : Q b.g := ih hs.2 (fun p hp => hadj p (by rw [adjL]; exact List.mem_append_right _ hp)) b rfl y hy (by omega) hq
          exact hadj (a, b) (by rw [adjL, if_pos hse]; simp) hqb
  obtain ⟨A, B, rfl⟩ := List.append_of_mem hx
  have hsB : (x :: B).Pairwise ltT := (List.pairwise_append.1 hs).2.1
  have hyB : y ∈ x :: B := by
    rcases List.mem_append.1 hy with h | h
    · have := (List.pairwise_append.1 hs).2.2 y h x (by simp)
      unfold ltT at this
      omega
    · exact h
  have hadj' : ∀ p ∈ adjL (x :: B), Q p.2.g → Q p.1.g := fun p hp => hadj p (by
    clear hadj hs hx hy hsB hyB
    induction A with
    | nil => exact hp
    | cons a A ih =>
      cases A with
      | nil => show p ∈ adjL (a :: x :: B); rw [adjL]; exact List.mem_append_right _ hp
      | cons b A => show p ∈ adjL (a :: b :: (A ++ x :: B)); rw [adjL]; exact List.mem_append_right _ ih)
  exact key _ hsB hadj' x rfl y hyB he hq
/-- Who waits for whom: all for one that is none of them, and each one for the one ahead of it. -/
def adjE (S : List Tk) : List (Int × Int) := (adjL S).flatMap fun p => if p.1.g = p.2.g then [] else [(p.2.g, p.1.g)]
def edgesT (T S : List Tk) (s : Int) : List (Int × Int) := T.map (fun t => (t.g, s)) ++ adjE S
theorem mem_adjE {S : List Tk} {a b : Int} : (a, b) ∈ adjE S ↔ ∃ p ∈ adjL S, p.2.g = a ∧ p.1.g = b ∧ a ≠ b := by
  unfold adjE
  rw [List.mem_flatMap]
  constructor
  · rintro ⟨p, hp, h⟩
    split at h
    · cases h
    · next hne =>
      rw [List.mem_singleton] at h
      injection h with h1 h2
      exact ⟨p, hp, h1.symm, h2.symm, fun e => hne (by rw [← h2, ← h1, e])⟩
  · rintro ⟨p, hp, rfl, rfl, hne⟩
    exact ⟨p, hp, by rw [if_neg (Ne.symm hne)]; simp⟩
section
variable {T S : List Tk} {s : Int}
theorem keysT (hp : S.Perm T) (hs : S.Pairwise ltT) (hT : ∀ t ∈ T, t.g ≠ s) {ns : List Int} (hk : KeysP (edgesT T S s) ns) (h0 : T ≠ []) : ∀ y, y ∈ ns ↔ y = s ∨ y ∈ allG T := by
  intro y
  rw [hk.mem, (allG_holds T).2.1]
  constructor
  · rintro ⟨⟨a, b⟩, he, h⟩
    rcases List.mem_append.1 he with he | he
    · obtain ⟨t, ht, e⟩ := List.mem_map.1 he
      injection e with e1 e2
      rcases h with h | h
      · exact .inr ⟨t, ht, by rw [h]; exact e1.symm⟩
      · exact .inl (by rw [h]; exact e2.symm)
    · obtain ⟨p, hp', e1, e2, _⟩ := mem_adjE.1 he
      obtain ⟨m1, m2, _⟩ := adj_mem hs hp'
      rcases h with h | h
      · exact .inr ⟨_, hp.mem_iff.1 m2, by rw [h]; exact e1.symm⟩
      · exact .inr ⟨_, hp.mem_iff.1 m1, by rw [h]; exact e2.symm⟩
  · rintro (rfl | ⟨t, ht, rfl⟩)
    · obtain ⟨t, r, rfl⟩ : ∃ t r, T = t :: r := by
        cases T with
        | nil => exact absurd rfl h0
        | cons t r => exact ⟨t, r, rfl⟩
      exact ⟨(t.g, y), by unfold edgesT; simp, .inr rfl⟩
    · exact ⟨(t.g, s), List.mem_append_left _ (List.mem_map.2 ⟨t, ht, rfl⟩), .inl rfl⟩
/-- What has been put so far: all that it waits for is there, too. -/
def ClosedT (S : List Tk) (o : List Int) : Prop := ∀ p ∈ adjL S, p.2.g ∈ o → p.1.g ∈ o
theorem free_same (hp : S.Perm T) (hs : S.Pairwise ltT) (hT : ∀ t ∈ T, t.g ≠ s) {ns : List Int} (hk : KeysP (edgesT T S s) ns) (h0 : T ≠ []) {o : List Int} (hc : ClosedT S o) (hsub : ∀ x ∈ o, x ∈ allG T) :
    freeP (graphR (edgesT T S s)) ns (s :: o) = freeT T (allG T) o := by
  have hall := allG_holds T
  have hsall : s ∉ allG T := fun h => by
    obtain ⟨t, ht, e⟩ := (hall.2.1 s).1 h
    exact hT t ht e.symm
  have hns : ns.Pairwise (· < ·) := by
    have h1 := hk.one
    have h2 := hk.rise
    rw [List.Nodup] at h1
    exact h2.imp₂ (fun a b h1 h2 => by omega) h1
  refine lt_ext (hns.filter _) (hall.1.filter _) (fun w => ?_)
  rw [mem_freeT]
  have hm : w ∈ freeP (graphR (edgesT T S s)) ns (s :: o) ↔ w ∈ ns ∧ w ∉ s :: o ∧ ∀ y, (w, y) ∈ edgesT T S s → y ∈ s :: o := by
    rw [mem_free, owes_zero]
    constructor
    · rintro ⟨a, b, c⟩
      exact ⟨a, b, fun y hy => c y ((mem_at _ _ _).2 hy)⟩
    · rintro ⟨a, b, c⟩
      exact ⟨a, b, fun y hy => c y ((mem_at _ _ _).1 hy)⟩
  rw [hm, keysT hp hs hT hk h0]
  constructor
  · rintro ⟨h1, h2, h3⟩
    have hws : w ≠ s := fun e => h2 (by simp [e])
    have hwa : w ∈ allG T := h1.elim (fun e => absurd e hws) id
    refine ⟨hwa, fun e => h2 (List.mem_cons_of_mem _ e), fun h hh ha => ?_⟩
    obtain ⟨x, hx, y, hy, rfl, rfl, hne, hsite, hn⟩ := ahead_iff.1 ha
    have hQ := adj_back (Q := fun g => g ∈ o ∨ g = y.g) hs (fun p hp' hq => by
      by_cases hg : p.1.g = p.2.g
      · rw [hg]; exact hq
      · rcases hq with hq | hq
        · exact .inl (hc p hp' hq)
        · have := h3 p.1.g (List.mem_append_right _ (mem_adjE.2 ⟨p, hp', hq, rfl, fun e => hg (by rw [hq, e])⟩))
          rcases List.mem_cons.1 this with e | e
          · exact absurd e (hT _ (hp.mem_iff.1 (adj_mem hs hp').1))
          · exact .inl e) (hp.mem_iff.2 hx) (hp.mem_iff.2 hy) hsite hn (.inr rfl)
    exact hQ.elim id (fun e => absurd e hne)
  · rintro ⟨h1, h2, h3⟩
    have hws : w ≠ s := fun e => hsall (by rw [← e]; exact h1)
    refine ⟨.inr h1, fun e => (List.mem_cons.1 e).elim hws h2, fun y hy => ?_⟩
    rcases List.mem_append.1 hy with he | he
    · obtain ⟨t, ht, e⟩ := List.mem_map.1 he
      injection e with e1 e2
      simp [e2]
    · obtain ⟨p, hp', e1, e2, hne⟩ := mem_adjE.1 he
      obtain ⟨m1, m2, m3, m4⟩ := adj_mem hs hp'
      have hya : y ∈ allG T := (hall.2.1 y).2 ⟨_, hp.mem_iff.1 m1, e2.symm⟩
      exact List.mem_cons_of_mem _ (h3 y hya (ahead_iff.2 ⟨_, hp.mem_iff.1 m1, _, hp.mem_iff.1 m2, e2, e1, Ne.symm hne, m3, m4⟩))
theorem closed_snoc (hp : S.Perm T) (hs : S.Pairwise ltT) {o F : List Int} {w : Int} (hc : ClosedT S o) (hf : freeT T (allG T) o = w :: F) : ClosedT S (o ++ [w]) := by
  obtain ⟨h1, h2, h3⟩ := mem_freeT.1 (show w ∈ freeT T (allG T) o by rw [hf]; simp)
  intro p hp' hq
  obtain ⟨m1, m2, m3, m4⟩ := adj_mem hs hp'
  rcases List.mem_append.1 hq with e | e
  · exact List.mem_append_left _ (hc p hp' e)
  · rw [List.mem_singleton] at e
    by_cases hg : p.1.g = w
    · rw [hg]; simp
    · exact List.mem_append_left _ (h3 p.1.g (((allG_holds T).2.1 _).2 ⟨_, hp.mem_iff.1 m1, rfl⟩) (ahead_iff.2 ⟨_, hp.mem_iff.1 m1, _, hp.mem_iff.1 m2, rfl, e, hg, m3, m4⟩))
theorem ord_same (hp : S.Perm T) (hs : S.Pairwise ltT) (hT : ∀ t ∈ T, t.g ≠ s) {ns : List Int} (hk : KeysP (edgesT T S s) ns) (h0 : T ≠ []) : ∀ (n : Nat) (o : List Int), ClosedT S o → (∀ x ∈ o, x ∈ allG T) →
    ordP (graphR (edgesT T S s)) ns n (s :: o) = (ordT T (allG T) n o).map (s :: ·)
  | 0, o, _, _ => rfl
  | n + 1, o, hc, hsub => by
    have hf := free_same hp hs hT hk h0 hc hsub
    cases hx : freeT T (allG T) o with
    | nil => rw [ord_none (by rw [hf, hx]) _ (Nat.succ_pos _), ordT_none hx _ (Nat.succ_pos _)]; rfl
    | cons w F =>
      rw [ord_some (by rw [hf, hx]) n, ordT_some hx n]
      refine ord_same hp hs hT hk h0 n (o ++ [w]) (closed_snoc hp hs hc hx) (fun x hx2 => ?_)
      rcases List.mem_append.1 hx2 with e | e
      · exact hsub x e
      · rw [List.mem_singleton] at e
        rw [e]
        exact (mem_freeT.1 (show w ∈ freeT T (allG T) o by rw [hx]; simp)).1
theorem free_first (hp : S.Perm T) (hs : S.Pairwise ltT) (hT : ∀ t ∈ T, t.g ≠ s) {ns : List Int} (hk : KeysP (edgesT T S s) ns) (h0 : T ≠ []) : freeP (graphR (edgesT T S s)) ns [] = [s] := by
  have hns : ns.Pairwise (· < ·) := by
    have h1 := hk.one
    have h2 := hk.rise
    rw [List.Nodup] at h1
    exact h2.imp₂ (fun a b h1 h2 => by omega) h1
  refine lt_ext (hns.filter _) (List.pairwise_singleton _ _) (fun w => ?_)
  have hmw : w ∈ freeP (graphR (edgesT T S s)) ns [] ↔ w ∈ ns ∧ w ∉ ([] : List Int) ∧ owes (graphR (edgesT T S s)) [] w = 0 := mem_free
  rw [hmw, owes_zero, keysT hp hs hT hk h0, List.mem_singleton]
  constructor
  · rintro ⟨h1 | h1, _, h3⟩
    · exact h1
    · obtain ⟨t, ht, e⟩ := ((allG_holds T).2.1 w).1 h1
      have := h3 s ((mem_at _ _ _).2 (List.mem_append_left _ (List.mem_map.2 ⟨t, ht, by rw [e]⟩)))
      cases this
  · rintro rfl
    refine ⟨.inl rfl, by simp, fun y hy => ?_⟩
    have hy := (mem_at _ _ _).1 hy
    rcases List.mem_append.1 hy with he | he
    · obtain ⟨t, ht, e⟩ := List.mem_map.1 he
      injection e with e1 e2
      exact absurd e1 (hT t ht)
    · obtain ⟨p, hp', e1, e2, hne⟩ := mem_adjE.1 he
      exact absurd e1 (hT _ (hp.mem_iff.1 (adj_mem hs hp').2.1))
/-- What the program's graph gives is what the document says: the one that is none of them ahead of all. -/
theorem ord_cert (hp : S.Perm T) (hs : S.Pairwise ltT) (hT : ∀ t ∈ T, t.g ≠ s) {ns : List Int} (hk : KeysP (edgesT T S s) ns) (h0 : T ≠ []) :
    ordP (graphR (edgesT T S s)) ns ns.length [] = (ordT T (allG T) (allG T).length []).map (s :: ·) := by
  have hns : ns.Pairwise (· < ·) := by
    have h1 := hk.one
    have h2 := hk.rise
    rw [List.Nodup] at h1
    exact h2.imp₂ (fun a b h1 h2 => by omega) h1
  have hsall : s ∉ allG T := fun h => by
    obtain ⟨t, ht, e⟩ := ((allG_holds T).2.1 s).1 h
    exact hT t ht e.symm
  have hlen : ns.length = (allG T).length + 1 := by
    have h1 : ns.Perm (s :: allG T) := (List.perm_ext_iff_of_nodup (lt_le hns).1 (List.nodup_cons.2 ⟨hsall, (lt_le (allG_holds T).1).1⟩)).2 (fun y => by rw [keysT hp hs hT hk h0, List.mem_cons])
    rw [h1.length_eq, List.length_cons]
  rw [hlen, ord_some (free_first hp hs hT hk h0)]
  exact ord_same hp hs hT hk h0 _ [] (fun p _ h => by cases h) (fun x h => by cases h)
end
/-- What is told is borne out. -/
structure OrdTI (T : List Tk) (o : List Int) : Prop where
  one : o.Nodup
  sub : ∀ x ∈ o, x ∈ allG T
  ahead : ∀ (i k : Nat) (x y : Int), o[i]? = some x → o[k]? = some y → k < i → aheadB T x y = false
theorem OrdTI.nil (T : List Tk) : OrdTI T [] := ⟨List.nodup_nil, (fun x h => by cases h), (fun i k x y h => by simp at h)⟩
theorem OrdTI.snoc {T : List Tk} {o F : List Int} {w : Int} (h : OrdTI T o) (hcl : ∀ x ∈ o, ∀ y ∈ allG T, aheadB T y x = true → y ∈ o) (hf : freeT T (allG T) o = w :: F) : OrdTI T (o ++ [w]) ∧ ∀ x ∈ o ++ [w], ∀ y ∈ allG T, aheadB T y x = true → y ∈ o ++ [w] := by
  obtain ⟨h1, h2, h3⟩ := mem_freeT.1 (show w ∈ freeT T (allG T) o by rw [hf]; simp)
  refine ⟨⟨?_, fun x hx => ?_, fun i k x y hi hk hki => ?_⟩, fun x hx y hy ha => ?_⟩
  · rw [List.nodup_append]
    exact ⟨h.one, by simp, fun a ha b hb e => by
      rw [List.mem_singleton] at hb
      exact h2 (by rw [← hb, ← e]; exact ha)⟩
  · rcases List.mem_append.1 hx with e | e
    · exact h.sub x e
    · rw [List.mem_singleton] at e; rw [e]; exact h1
  · have hil := (List.getElem?_eq_some_iff.1 hi).1
    rw [List.length_append, List.length_singleton] at hil
    rw [List.getElem?_append_left (by omega)] at hk
    by_cases hi2 : i < o.length
    · rw [List.getElem?_append_left hi2] at hi
      exact h.ahead i k x y hi hk hki
    · have hi3 : i = o.length := by omega
      rw [hi3, List.getElem?_append_right (Nat.le_refl _), Nat.sub_self] at hi
      have hi4 : w = x := by simpa using hi
      subst hi4
      by_cases ha : aheadB T w y = true
      · exact absurd (hcl y (List.mem_of_getElem? hk) w h1 ha) h2
      · simpa using ha
  · rcases List.mem_append.1 hx with e | e
    · exact List.mem_append_left _ (hcl x e y hy ha)
    · rw [List.mem_singleton] at e
      rw [e] at ha
      exact List.mem_append_left _ (h3 y hy ha)
theorem ordT_holds {T : List Tk} : ∀ (n : Nat) (o p : List Int), OrdTI T o → (∀ x ∈ o, ∀ y ∈ allG T, aheadB T y x = true → y ∈ o) → ordT T (allG T) n o = some p → OrdTI T p ∧ p.length = o.length + n
  | 0, o, p, h, _, e => by
    injection e with e
    subst e
    exact ⟨h, rfl⟩
  | n + 1, o, p, h, hcl, e => by
    cases hx : freeT T (allG T) o with
    | nil => rw [ordT_none hx _ (Nat.succ_pos _)] at e; cases e
    | cons w F =>
      rw [ordT_some hx] at e
      obtain ⟨h1, h2⟩ := h.snoc hcl hx
      obtain ⟨h3, h4⟩ := ordT_holds n _ _ h1 h2 e
      refine ⟨h3, ?_⟩
      rw [h4, List.length_append, List.length_singleton]
      omega
/-- Tickets rise with those that took them. -/
def RisP (T : List Tk) : Prop := ∀ x ∈ T, ∀ y ∈ T, x.site = y.site → x.n < y.n → x.g ≤ y.g
theorem ahead_lt {T : List Tk} (h : RisP T) {a b : Int} (ha : aheadB T a b = true) : a < b := by
  obtain ⟨x, hx, y, hy, rfl, rfl, hne, h1, h2⟩ := ahead_iff.1 ha
  have := h x hx y hy h1 h2
  omega
theorem ordT_rise {T : List Tk} (h : RisP T) : ∀ (n k : Nat), k + n = (allG T).length → ordT T (allG T) n ((allG T).take k) = some (allG T)
  | 0, k, e => by
    rw [List.take_of_length_le (by omega)]
    rfl
  | n + 1, k, e => by
    have hk : k < (allG T).length := by omega
    have hr := (allG_holds T).1
    obtain ⟨x, hx⟩ : ∃ x, (allG T)[k]? = some x := ⟨_, List.getElem?_eq_getElem hk⟩
    have hlow : ∀ y ∈ allG T, y < x → y ∈ (allG T).take k := fun y hy hlt => by
      obtain ⟨j, hj⟩ := List.getElem?_of_mem hy
      by_cases hjk : j < k
      · exact List.mem_of_getElem? (i := j) (by rw [List.getElem?_take_of_lt hjk]; exact hj)
      · have hjl := (List.getElem?_eq_some_iff.1 hj).1
        rw [List.pairwise_iff_getElem] at hr
        by_cases hjk2 : j = k
        · rw [hjk2, hx] at hj; injection hj with hj; omega
        · have := hr k j hk hjl (by omega)
          rw [(List.getElem?_eq_some_iff.1 hx).2, (List.getElem?_eq_some_iff.1 hj).2] at this
          omega
    have hhigh : ∀ y ∈ (allG T).take k, y < x := fun y hy => by
      obtain ⟨j, hj⟩ := List.getElem?_of_mem hy
      have hjl := (List.getElem?_eq_some_iff.1 hj).1
      rw [List.length_take] at hjl
      rw [List.getElem?_take_of_lt (by omega)] at hj
      rw [List.pairwise_iff_getElem] at hr
      have := hr j k (by omega) hk (by omega)
      rw [(List.getElem?_eq_some_iff.1 hx).2, (List.getElem?_eq_some_iff.1 hj).2] at this
      exact this
    have hfx : x ∈ freeT T (allG T) ((allG T).take k) := mem_freeT.2 ⟨List.mem_of_getElem? hx, fun e => by have := hhigh x e; omega, fun h' hh ha => hlow h' hh (ahead_lt h ha)⟩
    have hfr : (freeT T (allG T) ((allG T).take k)).Pairwise (· < ·) := (allG_holds T).1.filter _
    cases hF : freeT T (allG T) ((allG T).take k) with
    | nil => rw [hF] at hfx; cases hfx
    | cons w F =>
      have hw := mem_freeT.1 (show w ∈ freeT T (allG T) ((allG T).take k) by rw [hF]; simp)
      have hwx : w = x := by
        rw [hF] at hfx hfr
        rcases List.mem_cons.1 hfx with e | e
        · exact e.symm
        · have h1 := (List.pairwise_cons.1 hfr).1 x e
          exact absurd (hlow w hw.1 h1) hw.2.1
      rw [ordT_some hF, hwx]
      have : (allG T).take k ++ [x] = (allG T).take (k + 1) := by rw [List.take_add_one, hx]; rfl
      rw [this]
      exact ordT_rise h n (k + 1) (by omega)
/-- The document's own answer: an order that all tickets bear out. -/
def certP (T : List Tk) (o : List Int) (b : Bool) : Prop := (OnceP T → ordT T (allG T) (allG T).length [] = if b then some o else none) ∧ (¬ OnceP T → b = false) ∧ (b = false → o = [])
theorem certP_uniq {T : List Tk} {o p : List Int} {b c : Bool} (h : certP T o b) (k : certP T p c) : o = p ∧ b = c := by
  obtain ⟨h1, h2, h3⟩ := h
  obtain ⟨k1, k2, k3⟩ := k
  by_cases ho : OnceP T
  · have e := (h1 ho).symm.trans (k1 ho)
    cases b <;> cases c
    · exact ⟨by rw [h3 rfl, k3 rfl], rfl⟩
    · cases e
    · cases e
    · injection e with e
      exact ⟨e, rfl⟩
  · have e1 := h2 ho
    have e2 := k2 ho
    exact ⟨by rw [h3 e1, k3 e2], by rw [e1, e2]⟩
theorem certP_told {T : List Tk} {o : List Int} {b : Bool} (h : certP T o b) : OrdTI T o := by
  obtain ⟨h1, h2, h3⟩ := h
  cases b with
  | false => rw [h3 rfl]; exact OrdTI.nil T
  | true =>
    have ho : OnceP T := Classical.byContradiction fun e => by have := h2 e; cases this
    exact (ordT_holds _ [] _ (OrdTI.nil T) (fun x hx => by cases hx) (h1 ho)).1
theorem certP_rise {T : List Tk} {o : List Int} {b : Bool} (h : certP T o b) (hr : RisP T) (ho : OnceP T) : b = true ∧ o = allG T := by
  have h1 := h.1 ho
  have h2 := ordT_rise hr (allG T).length 0 (by omega)
  rw [List.take_zero] at h2
  rw [h2] at h1
  cases b with
  | false => cases h1
  | true => injection h1 with h1; exact ⟨rfl, h1.symm⟩
/-- The neighbours tell whether any two of one site have one number, and whether all rise. -/
theorem adj_once {S : List Tk} (hs : S.Pairwise fun x y => ¬ ltT y x) (h : ∀ p ∈ adjL S, p.1.n ≠ p.2.n) : S.Pairwise ltT := by
  induction S with
  | nil => exact List.Pairwise.nil
  | cons a S ih =>
    rw [List.pairwise_cons] at hs ⊢
    have hr : S.Pairwise ltT := ih hs.2 (fun p hp => h p (by
      cases S with
      | nil => cases hp
      | cons b r => rw [adjL]; exact List.mem_append_right _ hp))
    refine ⟨fun y hy => ?_, hr⟩
    cases S with
    | nil => cases hy
    | cons b r =>
      have hab : ltT a b := by
        have h1 := hs.1 b (by simp)
        unfold ltT at h1 ⊢
        by_cases he : a.site = b.site
        · have := h (a, b) (by rw [adjL, if_pos he]; simp)
          have : a.n ≠ b.n := this
          omega
        · omega
      rcases List.mem_cons.1 hy with rfl | hy
      · exact hab
      · have := (List.pairwise_cons.1 hr).1 y hy
        unfold ltT at *
        omega
theorem adj_mem' {S : List Tk} {p : Tk × Tk} (hp : p ∈ adjL S) : p.1 ∈ S ∧ p.2 ∈ S ∧ p.1.site = p.2.site := by
  induction S with
  | nil => cases hp
  | cons x S ih =>
    cases S with
    | nil => cases hp
    | cons y r =>
      rw [adjL, List.mem_append] at hp
      rcases hp with h | h
      · split at h
        · next he =>
          rw [List.mem_singleton] at h
          subst h
          exact ⟨by simp, by simp, he⟩
        · cases h
      · obtain ⟨h1, h2, h3⟩ := ih h
        exact ⟨List.mem_cons_of_mem _ h1, List.mem_cons_of_mem _ h2, h3⟩
theorem once_lt {S : List Tk} (h : S.Pairwise ltT) : OnceP S := h.imp (fun h e => by unfold ltT at h; omega)
theorem adj_pair {S : List Tk} {p : Tk × Tk} (ho : OnceP S) (hp : p ∈ adjL S) : p.1.n ≠ p.2.n := by
  induction S with
  | nil => cases hp
  | cons x S ih =>
    unfold OnceP at ho
    rw [List.pairwise_cons] at ho
    cases S with
    | nil => cases hp
    | cons y r =>
      rw [adjL, List.mem_append] at hp
      rcases hp with h | h
      · split at h
        · next he =>
          rw [List.mem_singleton] at h
          subst h
          exact fun e => ho.1 y (by simp) ⟨he, e⟩
        · cases h
      · exact ih ho.2 h
theorem ris_adj {S : List Tk} (hs : S.Pairwise ltT) (h : ∀ p ∈ adjL S, p.1.g ≤ p.2.g) : RisP S := fun x hx y hy he hn =>
  adj_back (Q := fun g => g ≤ y.g) hs (fun p hp hq => by have := h p hp; omega) hx hy he hn (Int.le_refl _)
end Go.Proofs.Ytlbhpeeggbfcpaa

namespace Go.Proofs.Ytlbhpeeggbfcpaa
open Go.RowKit

/-- The least one of those that have a site, one user after the other. -/
def stepF (site : Int) (a : Option Int) (u : Int × List Int) : Option Int := if u.2.contains site && (match a with | none => true | some g => decide (u.1 < g)) then some u.1 else a
def firstP (site : Int) (l : Gr) : Option Int := l.foldl (stepF site) none
theorem first_snoc (site : Int) (l : Gr) (u : Int × List Int) : firstP site (l ++ [u]) = stepF site (firstP site l) u := by unfold firstP; rw [List.foldl_append]; rfl
theorem first_holds (site : Int) : ∀ l : Gr, match firstP site l with
    | none => ∀ u ∈ l, site ∉ u.2
    | some g => (∃ u ∈ l, u.1 = g ∧ site ∈ u.2) ∧ ∀ u ∈ l, site ∈ u.2 → g ≤ u.1 := by
  intro l
  refine snoc_ind (p := fun l => match firstP site l with
    | none => ∀ u ∈ l, site ∉ u.2
    | some g => (∃ u ∈ l, u.1 = g ∧ site ∈ u.2) ∧ ∀ u ∈ l, site ∈ u.2 → g ≤ u.1) l (fun u hu => by cases hu) (fun l u ih => ?_)
  rw [first_snoc]
  revert ih
  cases firstP site l with
  | none =>
    intro ih
    unfold stepF
    by_cases h : site ∈ u.2
    · have : u.2.contains site = true := by simpa using h
      simp only [this, Bool.and_self, if_true]
      refine ⟨⟨u, by simp, rfl, h⟩, fun v hv hs => ?_⟩
      rcases List.mem_append.1 hv with e | e
      · exact absurd hs (ih v e)
      · rw [List.mem_singleton] at e; rw [e]; exact Int.le_refl _
    · have : u.2.contains site = false := by simpa using h
      simp only [this, Bool.false_and, Bool.false_eq_true, if_false]
      intro v hv
      rcases List.mem_append.1 hv with e | e
      · exact ih v e
      · rw [List.mem_singleton] at e; rw [e]; exact h
  | some g =>
    rintro ⟨⟨v, hv, hg, hs⟩, hmin⟩
    unfold stepF
    by_cases h : site ∈ u.2 ∧ u.1 < g
    · have h1 : u.2.contains site = true := by simpa using h.1
      have h2 : decide (u.1 < g) = true := by simpa using h.2
      simp only [h1, h2, Bool.and_self, if_true]
      refine ⟨⟨u, by simp, rfl, h.1⟩, fun x hx hsx => ?_⟩
      rcases List.mem_append.1 hx with e | e
      · have := hmin x e hsx; have := h.2; omega
      · rw [List.mem_singleton] at e; rw [e]; exact Int.le_refl _
    · have h1 : (u.2.contains site && decide (u.1 < g)) = false := by
        rw [Bool.and_eq_false_iff]
        by_cases hc : site ∈ u.2
        · exact .inr (by simpa using fun hlt => h ⟨hc, hlt⟩)
        · exact .inl (by simpa using hc)
      simp only [h1, Bool.false_eq_true, if_false]
      refine ⟨⟨v, List.mem_append_left _ hv, hg, hs⟩, fun x hx hsx => ?_⟩
      rcases List.mem_append.1 hx with e | e
      · exact hmin x e hsx
      · rw [List.mem_singleton] at e
        rw [e] at hsx ⊢
        exact Int.not_lt.1 fun hlt => h ⟨hsx, hlt⟩
/-- May one use a site? -/
def mayP (g site : Int) (l : Gr) : Bool := l.all fun u => !(decide (u.1 < g) && u.2.contains site)
theorem may_iff {g site : Int} {l : Gr} : mayP g site l = true ↔ ∀ u ∈ l, u.1 < g → site ∉ u.2 := by
  unfold mayP
  rw [List.all_eq_true]
  constructor
  · intro h u hu hlt hs
    have := h u hu
    simp [hlt, hs] at this
  · intro h u hu
    by_cases hlt : u.1 < g
    · have := h u hu hlt
      simp [this]
    · simp [hlt]
theorem may_first (g site : Int) (l : Gr) : mayP g site l = (match firstP site l with | none => true | some f => decide (g ≤ f)) := by
  have h := first_holds site l
  revert h
  cases firstP site l with
  | none => intro h; exact may_iff.2 (fun u hu _ => h u hu)
  | some f =>
    rintro ⟨⟨u, hu, hf, hs⟩, hmin⟩
    show mayP g site l = decide (g ≤ f)
    by_cases hg : g ≤ f
    · rw [decide_eq_true hg]
      exact may_iff.2 (fun v hv hlt hsv => by have := hmin v hv hsv; omega)
    · rw [decide_eq_false hg, Bool.eq_false_iff]
      intro h
      exact may_iff.1 h u hu (by omega) hs
/-- All users' numbers, rising. -/
def allU (l : Gr) : List Int := l.foldl (fun o u => intoP o u.1) []
theorem allU_holds : ∀ l : Gr, (allU l).Pairwise (· < ·) ∧ (∀ y, y ∈ allU l ↔ ∃ u ∈ l, y = u.1) ∧ (allU l).length ≤ l.length := by
  intro T
  refine snoc_ind (p := fun T => (allU T).Pairwise (· < ·) ∧ (∀ y, y ∈ allU T ↔ ∃ x ∈ T, y = x.1) ∧ (allU T).length ≤ T.length) T ⟨List.Pairwise.nil, fun y => by simp [allU], by simp [allU]⟩ ?_
  rintro T t ⟨h1, h2, h3⟩
  have e : allU (T ++ [t]) = intoP (allU T) t.1 := by unfold allU; rw [List.foldl_append]; rfl
  rw [e]
  obtain ⟨h4, h5⟩ := intoP_rise t.1 h1
  refine ⟨h4, fun y => ?_, ?_⟩
  · rw [h5, h2]
    constructor
    · rintro (⟨x, hx, e⟩ | e)
      · exact ⟨x, List.mem_append_left _ hx, e⟩
      · exact ⟨t, by simp, e⟩
    · rintro ⟨x, hx, e⟩
      rcases List.mem_append.1 hx with h | h
      · exact .inl ⟨x, h, e⟩
      · rw [List.mem_singleton] at h
        exact .inr (by rw [e, h])
  · have := intoP_len t.1 h1
    rw [List.length_append, List.length_singleton]
    omega
/-- Users one number each, rising, with all their sites, each once. -/
structure TurnP (l T : Gr) : Prop where
  one : (T.map (·.1)).Pairwise (· < ·)
  rise : ∀ u ∈ T, u.2.Pairwise (· < ·)
  mem : ∀ u ∈ T, ∀ s, s ∈ u.2 ↔ ∃ v ∈ l, v.1 = u.1 ∧ s ∈ v.2
  all : ∀ g, g ∈ T.map (·.1) ↔ ∃ v ∈ l, v.1 = g
def siteG (l : Gr) : Gr := l.foldl (fun G u => putK G u.1 (at_ G u.1 ++ u.2)) []
theorem siteG_snoc (l : Gr) (u : Int × List Int) : siteG (l ++ [u]) = putK (siteG l) u.1 (at_ (siteG l) u.1 ++ u.2) := by unfold siteG; rw [List.foldl_append]; rfl
theorem siteG_holds : ∀ l : Gr, (∀ g, hasK (siteG l) g = true ↔ ∃ v ∈ l, v.1 = g) ∧ ∀ g s, s ∈ at_ (siteG l) g ↔ ∃ v ∈ l, v.1 = g ∧ s ∈ v.2 := by
  intro l
  refine snoc_ind (p := fun l => (∀ g, hasK (siteG l) g = true ↔ ∃ v ∈ l, v.1 = g) ∧ ∀ g s, s ∈ at_ (siteG l) g ↔ ∃ v ∈ l, v.1 = g ∧ s ∈ v.2) l ⟨fun g => by simp [siteG, hasK], fun g s => by simp [siteG, at_]⟩ (fun l u ih => ?_)
  obtain ⟨h1, h2⟩ := ih
  rw [siteG_snoc]
  refine ⟨fun g => ?_, fun g s => ?_⟩
  · rw [hasK_putK, Bool.or_eq_true, beq_iff_eq, h1]
    constructor
    · rintro (e | ⟨v, hv, e⟩)
      · exact ⟨u, by simp, e.symm⟩
      · exact ⟨v, List.mem_append_left _ hv, e⟩
    · rintro ⟨v, hv, e⟩
      rcases List.mem_append.1 hv with h | h
      · exact .inr ⟨v, h, e⟩
      · rw [List.mem_singleton] at h
        exact .inl (by rw [← e, h])
  · rw [at_putK]
    by_cases hg : g = u.1
    · rw [if_pos hg, List.mem_append, h2]
      constructor
      · rintro (⟨v, hv, e, hs⟩ | hs)
        · exact ⟨v, List.mem_append_left _ hv, by rw [hg, e], hs⟩
        · exact ⟨u, by simp, hg.symm, hs⟩
      · rintro ⟨v, hv, e, hs⟩
        rcases List.mem_append.1 hv with h | h
        · exact .inl ⟨v, h, by rw [e, hg], hs⟩
        · rw [List.mem_singleton] at h
          exact .inr (by rw [← h]; exact hs)
    · rw [if_neg hg, h2]
      constructor
      · rintro ⟨v, hv, e, hs⟩
        exact ⟨v, List.mem_append_left _ hv, e, hs⟩
      · rintro ⟨v, hv, e, hs⟩
        rcases List.mem_append.1 hv with h | h
        · exact ⟨v, h, e, hs⟩
        · rw [List.mem_singleton] at h
          exact absurd (by rw [← e, h]) hg
/-- The users as they are put in turn. -/
def turnT (l : Gr) : Gr := (allU l).map fun g => (g, rises (at_ (siteG l) g))
theorem turnT_holds (l : Gr) : TurnP l (turnT l) := by
  obtain ⟨h1, h2, _⟩ := allU_holds l
  have e : (turnT l).map (·.1) = allU l := by unfold turnT; rw [List.map_map]; exact List.map_id _
  refine ⟨by rw [e]; exact h1, fun u hu => ?_, fun u hu s => ?_, fun g => ?_⟩
  · obtain ⟨g, _, rfl⟩ := List.mem_map.1 hu
    exact rises_lt (at_ (siteG l) g)
  · obtain ⟨g, _, rfl⟩ := List.mem_map.1 hu
    rw [mem_rises_iff, (siteG_holds l).2]
  · rw [e, h2]
    exact ⟨fun ⟨v, hv, e⟩ => ⟨v, hv, e.symm⟩, fun ⟨v, hv, e⟩ => ⟨v, hv, e.symm⟩⟩
/-- Have two rows of sites one in common? -/
def shB (a b : List Int) : Bool := a.any fun s => b.contains s
theorem shB_iff {a b : List Int} : shB a b = true ↔ ∃ s ∈ a, s ∈ b := by
  unfold shB
  rw [List.any_eq_true]
  exact ⟨fun ⟨s, h1, h2⟩ => ⟨s, h1, by simpa using h2⟩, fun ⟨s, h1, h2⟩ => ⟨s, h1, by simpa using h2⟩⟩
/-- For whom one waits: all with a lesser number with which it has a site in common. -/
def aheadT (T : Gr) (u : Int × List Int) : List Int := (T.filter fun v => decide (v.1 < u.1) && shB u.2 v.2).map (·.1)
def waitsT (T : Gr) (k : Nat) : List (Int × Int) := (T.take k).flatMap fun u => (aheadT T u).map fun t => (u.1, t)
/-- The same, as the document has it. -/
def shareB (l : Gr) (f t : Int) : Bool := l.any fun u => l.any fun v => u.2.any fun s => u.1 == f && v.1 == t && decide (t < f) && v.2.contains s
theorem share_iff {l : Gr} {f t : Int} : shareB l f t = true ↔ t < f ∧ ∃ u ∈ l, ∃ v ∈ l, u.1 = f ∧ v.1 = t ∧ ∃ s ∈ u.2, s ∈ v.2 := by
  unfold shareB
  simp only [List.any_eq_true, Bool.and_eq_true, beq_iff_eq, decide_eq_true_eq, List.contains_iff_mem]
  constructor
  · rintro ⟨u, hu, v, hv, s, hs, ⟨⟨h1, h2⟩, h3⟩, h4⟩
    exact ⟨h3, u, hu, v, hv, h1, h2, s, hs, h4⟩
  · rintro ⟨h3, u, hu, v, hv, h1, h2, s, hs, h4⟩
    exact ⟨u, hu, v, hv, s, hs, ⟨⟨h1, h2⟩, h3⟩, h4⟩
def waitsP (l : Gr) : List (Int × Int) := (allU l).flatMap fun f => ((allU l).filter fun t => shareB l f t).map fun t => (f, t)
theorem aheadT_lt {T : Gr} (h : (T.map (·.1)).Pairwise (· < ·)) (u : Int × List Int) : (aheadT T u).Pairwise (· < ·) := by
  unfold aheadT
  rw [List.pairwise_map] at h ⊢
  exact h.filter _
theorem mem_aheadT {T : Gr} {u : Int × List Int} {t : Int} : t ∈ aheadT T u ↔ ∃ v ∈ T, v.1 = t ∧ t < u.1 ∧ ∃ s ∈ u.2, s ∈ v.2 := by
  unfold aheadT
  rw [List.mem_map]
  constructor
  · rintro ⟨v, hv, rfl⟩
    rw [List.mem_filter, Bool.and_eq_true, shB_iff] at hv
    exact ⟨v, hv.1, rfl, by simpa using hv.2.1, hv.2.2⟩
  · rintro ⟨v, hv, rfl, hlt, hs⟩
    exact ⟨v, List.mem_filter.2 ⟨hv, by rw [Bool.and_eq_true, shB_iff]; exact ⟨by simpa using hlt, hs⟩⟩, rfl⟩
theorem waits_same {l T : Gr} (h : TurnP l T) : waitsT T T.length = waitsP l := by
  have ha : allU l = T.map (·.1) := lt_ext (allU_holds l).1 h.one (fun x => by
    rw [(allU_holds l).2.1, h.all]
    exact ⟨fun ⟨v, hv, e⟩ => ⟨v, hv, e.symm⟩, fun ⟨v, hv, e⟩ => ⟨v, hv, e.symm⟩⟩)
  unfold waitsT waitsP
  rw [List.take_length, ha, List.flatMap_map]
  have key : ∀ u ∈ T, aheadT T u = (T.map (·.1)).filter fun t => shareB l u.1 t := fun u hu => by
    refine lt_ext (aheadT_lt h.one u) (h.one.filter _) (fun t => ?_)
    rw [mem_aheadT, List.mem_filter, share_iff]
    constructor
    · rintro ⟨v, hv, rfl, hlt, s, hs1, hs2⟩
      obtain ⟨a, ha1, ha2, ha3⟩ := (h.mem u hu s).1 hs1
      obtain ⟨b, hb1, hb2, hb3⟩ := (h.mem v hv s).1 hs2
      exact ⟨List.mem_map.2 ⟨v, hv, rfl⟩, hlt, a, ha1, b, hb1, ha2, hb2, s, ha3, hb3⟩
    · rintro ⟨ht, hlt, a, ha1, b, hb1, ha2, hb2, s, ha3, hb3⟩
      obtain ⟨v, hv, hvt⟩ := List.mem_map.1 ht
      exact ⟨v, hv, hvt, hlt, s, (h.mem u hu s).2 ⟨a, ha1, ha2, ha3⟩, (h.mem v hv s).2 ⟨b, hb1, by rw [hb2]; exact hvt.symm, hb3⟩⟩
  clear ha
  have gen : ∀ L : Gr, (∀ u ∈ L, u ∈ T) → L.flatMap (fun u => (aheadT T u).map fun t => (u.1, t)) = L.flatMap (fun u => ((T.map (·.1)).filter fun t => shareB l u.1 t).map fun t => (u.1, t)) := by
    intro L
    induction L with
    | nil => intro _; rfl
    | cons u L ih =>
      intro hL
      rw [List.flatMap_cons, List.flatMap_cons, key u (hL u (by simp)), ih (fun x hx => hL x (List.mem_cons_of_mem _ hx))]
  exact gen T (fun u hu => hu)
theorem waits_down {l : Gr} {e : Int × Int} (h : e ∈ waitsP l) : e.2 < e.1 := by
  unfold waitsP at h
  obtain ⟨f, _, h⟩ := List.mem_flatMap.1 h
  obtain ⟨t, ht, rfl⟩ := List.mem_map.1 h
  exact (share_iff.1 (List.mem_filter.1 ht).2).1
theorem waits_num {l : Gr} {e : Int × Int} (h : e ∈ waitsP l) : e.1 ∈ allU l ∧ e.2 ∈ allU l := by
  unfold waitsP at h
  obtain ⟨f, hf, h⟩ := List.mem_flatMap.1 h
  obtain ⟨t, ht, rfl⟩ := List.mem_map.1 h
  exact ⟨hf, (List.mem_filter.1 ht).1⟩
/-- Where all wait for lesser ones, nobody stands in a circle. -/
theorem no_circ {l : List (Int × Int)} {c : List Int} (h : CircP l c) (hd : ∀ e ∈ l, e.2 < e.1) : c = [] := by
  have down : ∀ z y, Rch (fun x z => (x, z) ∈ l) z y → y ≤ z := fun z y hr => by
    induction hr with
    | refl => exact Int.le_refl _
    | tail _ e ih => have := hd _ e; simp only at this; omega
  apply List.eq_nil_iff_forall_not_mem.2
  intro y hy
  obtain ⟨z, hz, hr⟩ := (h.mem y).1 hy
  have h1 := hd _ hz
  have h2 := down z y hr
  simp only at h1
  omega
theorem flat_len {α β : Type} (f : α → List β) (m : Nat) : ∀ l : List α, (∀ x ∈ l, (f x).length ≤ m) → (l.flatMap f).length ≤ l.length * m
  | [], _ => by simp
  | x :: l, h => by
    have h1 := h x (by simp)
    have h2 := flat_len f m l (fun y hy => h y (List.mem_cons_of_mem _ hy))
    rw [List.flatMap_cons, List.length_append, List.length_cons, Nat.succ_mul]
    omega
theorem waitsT_len {T : Gr} (k : Nat) : (waitsT T k).length ≤ k * T.length := by
  unfold waitsT
  refine Nat.le_trans (flat_len _ T.length _ (fun u _ => ?_)) (Nat.mul_le_mul_right _ (by rw [List.length_take]; omega))
  rw [List.length_map]
  unfold aheadT
  rw [List.length_map]
  exact List.length_filter_le _ _
theorem may_least {l : Gr} {u : Int × List Int} {s : Int} (hmin : ∀ v ∈ l, u.1 ≤ v.1) : mayP u.1 s l = true := may_iff.2 (fun v hv hlt => by have := hmin v hv; omega)
end Go.Proofs.Ytlbhpeeggbfcpaa
