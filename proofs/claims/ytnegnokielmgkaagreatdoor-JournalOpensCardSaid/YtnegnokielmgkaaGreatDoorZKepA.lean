/- What a tape does, in plain lists: segments under unlike numbers, in whatever order; and the reference's list, kept by rising numbers. Nothing here speaks of the program. What a change answers, and what it leaves, case by case. Nothing here speaks of the program. What lasts of a tape, in plain lists. Nothing here speaks of the program. -/
set_option linter.unusedSimpArgs false
set_option linter.unusedVariables false
set_option linter.unnecessarySimpa false
namespace Go.Proofs.YtnegnokielmgkaaGreatDoor

/-- Number, bytes, how many are synced. -/
abbrev Sg := Int × List UInt8 × Nat
def numsOf (A : List Sg) : List Int := A.map (·.1)
def dropS (A : List Sg) (n : Int) : List Sg := A.filter fun x => x.1 != n
def putS (A : List Sg) (x : Sg) : List Sg := x :: dropS A x.1
/-- What stands under a number. -/
def lookS (A : List Sg) (n : Int) : Option (List UInt8 × Nat) := (A.find? fun x => x.1 == n).map (·.2)
def sizeS (A : List Sg) : Nat := (A.map fun x => x.2.1.length).sum

theorem dropS_none {A : List Sg} {n : Int} (h : ∀ x ∈ A, x.1 ≠ n) : dropS A n = A := by
  unfold dropS
  rw [List.filter_eq_self]
  intro x hx
  simpa using h x hx
theorem dropS_perm {A B : List Sg} (h : A.Perm B) (n : Int) : (dropS A n).Perm (dropS B n) := h.filter _
theorem putS_perm {A B : List Sg} (h : A.Perm B) (x : Sg) : (putS A x).Perm (putS B x) := (dropS_perm h x.1).cons x
theorem mem_dropS {A : List Sg} {n : Int} {x : Sg} : x ∈ dropS A n ↔ x ∈ A ∧ x.1 ≠ n := by
  unfold dropS
  rw [List.mem_filter]
  simp
theorem dropS_nodup {A : List Sg} (h : (numsOf A).Nodup) (n : Int) : (numsOf (dropS A n)).Nodup :=
  List.Nodup.sublist ((List.filter_sublist).map _) h
theorem putS_nodup {A : List Sg} (h : (numsOf A).Nodup) (x : Sg) : (numsOf (putS A x)).Nodup := by
  unfold numsOf putS
  rw [List.map_cons, List.nodup_cons]
  refine ⟨fun hx => ?_, dropS_nodup h x.1⟩
  obtain ⟨y, hy, e⟩ := List.mem_map.1 hx
  exact (mem_dropS.1 hy).2 e
theorem lookS_of_mem {A : List Sg} (h : (numsOf A).Nodup) {n : Int} {b : List UInt8} {s : Nat} (hm : (n, b, s) ∈ A) : lookS A n = some (b, s) := by
  induction A with
  | nil => cases hm
  | cons y A ih =>
    unfold numsOf at h
    rw [List.map_cons, List.nodup_cons] at h
    unfold lookS
    rcases List.mem_cons.1 hm with rfl | hm
    · simp
    · have hne : y.1 ≠ n := fun e => h.1 (List.mem_map.2 ⟨_, hm, e.symm⟩)
      rw [List.find?_cons_of_neg (by simpa using hne)]
      exact ih h.2 hm
theorem lookS_none {A : List Sg} {n : Int} (h : ∀ x ∈ A, x.1 ≠ n) : lookS A n = none := by
  unfold lookS
  rw [List.find?_eq_none.2 (fun x hx => by simpa using h x hx)]
  rfl
theorem lookS_some {A : List Sg} {n : Int} {y : List UInt8 × Nat} (h : lookS A n = some y) : (n, y) ∈ A := by
  unfold lookS at h
  obtain ⟨x, hx, rfl⟩ := Option.map_eq_some_iff.1 h
  have h1 := List.find?_some hx
  have h2 := List.mem_of_find?_eq_some hx
  have : x.1 = n := by simpa using h1
  subst this
  exact h2
theorem lookS_perm {A B : List Sg} (hA : (numsOf A).Nodup) (h : A.Perm B) (n : Int) : lookS A n = lookS B n := by
  have hB : (numsOf B).Nodup := (h.map _).nodup_iff.1 hA
  cases hl : lookS A n with
  | none =>
    cases hr : lookS B n with
    | none => rfl
    | some y => rw [lookS_of_mem hA (h.mem_iff.2 (lookS_some hr))] at hl; cases hl
  | some y => rw [lookS_of_mem hB (h.mem_iff.1 (lookS_some hl))]
theorem sizeS_perm {A B : List Sg} (h : A.Perm B) : sizeS A = sizeS B := (h.map _).sum_nat
/-- One entry is set, under its number. -/
theorem set_perm {A : List Sg} (h : (numsOf A).Nodup) {j : Nat} {n : Int} {y y' : List UInt8 × Nat} (hj : A[j]? = some (n, y)) : (A.set j (n, y')).Perm (putS A (n, y')) := by
  induction A generalizing j with
  | nil => simp at hj
  | cons a A ih =>
    unfold numsOf at h
    rw [List.map_cons, List.nodup_cons] at h
    cases j with
    | zero =>
      obtain rfl : a = (n, y) := by simpa using hj
      rw [List.set_cons_zero]
      unfold putS
      have h1 : ∀ x ∈ A, x.1 ≠ n := fun x hx e => h.1 (List.mem_map.2 ⟨x, hx, e⟩)
      have : dropS ((n, y) :: A) n = A := by
        unfold dropS
        rw [List.filter_cons_of_neg (by simp)]
        exact dropS_none h1
      show ((n, y') :: A).Perm ((n, y') :: dropS ((n, y) :: A) n)
      rw [this]
    | succ j =>
      rw [List.getElem?_cons_succ] at hj
      rw [List.set_cons_succ]
      have hm : (n, y) ∈ A := List.mem_of_getElem? hj
      have hne : a.1 ≠ n := fun e => h.1 (List.mem_map.2 ⟨_, hm, e.symm⟩)
      refine ((ih h.2 hj).cons a).trans ?_
      unfold putS
      have : dropS (a :: A) n = a :: dropS A n := by
        unfold dropS
        rw [List.filter_cons_of_pos (by simpa using hne)]
      show (a :: (n, y') :: dropS A n).Perm ((n, y') :: dropS (a :: A) n)
      rw [this]
      exact List.Perm.swap _ _ _
theorem erase_perm {A : List Sg} (h : (numsOf A).Nodup) {j : Nat} {n : Int} {y : List UInt8 × Nat} (hj : A[j]? = some (n, y)) : A.eraseIdx j = dropS A n := by
  induction A generalizing j with
  | nil => simp at hj
  | cons a A ih =>
    unfold numsOf at h
    rw [List.map_cons, List.nodup_cons] at h
    cases j with
    | zero =>
      obtain rfl : a = (n, y) := by simpa using hj
      rw [List.eraseIdx_cons_zero]
      unfold dropS
      rw [List.filter_cons_of_neg (by simp)]
      exact (dropS_none (fun x hx e => h.1 (List.mem_map.2 ⟨x, hx, e⟩))).symm
    | succ j =>
      rw [List.getElem?_cons_succ] at hj
      rw [List.eraseIdx_cons_succ, ih h.2 hj]
      have hm : (n, y) ∈ A := List.mem_of_getElem? hj
      have hne : a.1 ≠ n := fun e => h.1 (List.mem_map.2 ⟨_, hm, e.symm⟩)
      unfold dropS
      rw [List.filter_cons_of_pos (by simpa using hne)]
theorem nodup_at {A : List Sg} (h : (numsOf A).Nodup) {n : Int} : (∃ (j : Nat) (y : List UInt8 × Nat), A[j]? = some (n, y)) ∨ ∀ x ∈ A, x.1 ≠ n := by
  by_cases hx : ∃ x ∈ A, x.1 = n
  · obtain ⟨x, hx, rfl⟩ := hx
    obtain ⟨j, hj⟩ := List.getElem?_of_mem hx
    exact .inl ⟨j, x.2, hj⟩
  · exact .inr fun x h1 h2 => hx ⟨x, h1, h2⟩

/-! a list by rising numbers, to which an entry is put -/
def Rises (A : List Sg) : Prop := A.Pairwise fun a b => a.1 < b.1
theorem Rises.nodup {A : List Sg} (h : Rises A) : (numsOf A).Nodup := by
  unfold numsOf
  rw [List.Nodup, List.pairwise_map]
  exact h.imp (fun hab e => by omega)
/-- The halves of a round of put: what was collected, whether x is among it. -/
def putHalf {α : Type} (key : α → Int) (x : α) (st : List α × Bool) (y : α) : List α × Bool := if st.2 = false ∧ key x ≤ key y then (st.1 ++ [x], true) else st
def putRest {α : Type} (key : α → Int) (x : α) (st : List α × Bool) (y : α) : List α × Bool := if key y ≠ key x then (st.1 ++ [y], st.2) else st
def putLast {α : Type} (x : α) (st : List α × Bool) : List α := if st.2 then st.1 else st.1 ++ [x]
def putAll {α : Type} (key : α → Int) (x : α) (l : List α) : List α × Bool := l.foldl (fun st y => putRest key x (putHalf key x st y) y) ([], false)
theorem putAll_snoc {α : Type} (key : α → Int) (x : α) (l : List α) (y : α) : putAll key x (l ++ [y]) = putRest key x (putHalf key x (putAll key x l) y) y := by
  unfold putAll
  rw [List.foldl_append]
  rfl
theorem putHalf_true {α : Type} {key : α → Int} {x y : α} {st : List α × Bool} (h : st.2 = false) (k : key x ≤ key y) : putHalf key x st y = (st.1 ++ [x], true) := if_pos ⟨h, k⟩
theorem putHalf_false {α : Type} {key : α → Int} {x y : α} {st : List α × Bool} (h : st.2 = true ∨ ¬ key x ≤ key y) : putHalf key x st y = st := if_neg fun ⟨a, b⟩ => h.elim (fun c => by rw [c] at a; cases a) (fun c => c b)
theorem putRest_ne {α : Type} {key : α → Int} {x y : α} {st : List α × Bool} (h : key y ≠ key x) : putRest key x st y = (st.1 ++ [y], st.2) := if_pos h
theorem putRest_eq {α : Type} {key : α → Int} {x y : α} {st : List α × Bool} (h : key y = key x) : putRest key x st y = st := if_neg (by simpa using h)
theorem mem_putAll {α : Type} (key : α → Int) (x : α) : ∀ (l : List α), ∀ z ∈ (putAll key x l).1, z = x ∨ z ∈ l := by
  intro l
  rw [← List.reverse_reverse l]
  induction l.reverse with
  | nil => intro z hz; cases hz
  | cons y r ih =>
    intro z hz
    rw [List.reverse_cons, putAll_snoc] at hz
    have h1 : ∀ z ∈ (putHalf key x (putAll key x r.reverse) y).1, z = x ∨ z ∈ r.reverse := by
      intro z hz
      unfold putHalf at hz
      split at hz
      · rcases List.mem_append.1 hz with h | h
        · exact ih z h
        · exact .inl (List.mem_singleton.1 h)
      · exact ih z hz
    rw [List.reverse_cons]
    unfold putRest at hz
    split at hz
    · rcases List.mem_append.1 hz with h | h
      · exact (h1 z h).imp_right fun h => List.mem_append.2 (.inl h)
      · exact .inr (List.mem_append.2 (.inr h))
    · exact (h1 z hz).imp_right fun h => List.mem_append.2 (.inl h)
theorem mem_putLast {α : Type} (key : α → Int) (x : α) (l : List α) : ∀ z ∈ putLast x (putAll key x l), z = x ∨ z ∈ l := by
  intro z hz
  unfold putLast at hz
  split at hz
  · exact mem_putAll key x l z hz
  · rcases List.mem_append.1 hz with h | h
    · exact mem_putAll key x l z h
    · exact .inl (List.mem_singleton.1 h)
theorem len_putAll {α : Type} (key : α → Int) (x : α) (l : List α) : (putAll key x l).1.length ≤ l.length + (if (putAll key x l).2 then 1 else 0) := by
  rw [← List.reverse_reverse l]
  induction l.reverse with
  | nil => simp [putAll]
  | cons y r ih =>
    rw [List.reverse_cons, putAll_snoc]
    generalize putAll key x r.reverse = st at *
    obtain ⟨a, b⟩ := st
    simp only [List.length_append, List.length_singleton]
    unfold putRest putHalf
    cases b <;> simp only [Bool.false_eq_true, Bool.true_eq_false, false_and, true_and, if_false, if_true] at * <;> split <;> (try split) <;> simp_all <;> omega
theorem len_putLast {α : Type} (key : α → Int) (x : α) (l : List α) : (putLast x (putAll key x l)).length ≤ l.length + 1 := by
  have := len_putAll key x l
  unfold putLast
  split
  · rename_i h; rw [if_pos h] at this; exact this
  · rename_i h; rw [if_neg h] at this; simp; omega
theorem map_putAll {α β : Type} (f : α → β) (key : α → Int) (key' : β → Int) (hk : ∀ a, key' (f a) = key a) (x : α) (l : List α) : (putAll key' (f x) (l.map f)) = ((putAll key x l).1.map f, (putAll key x l).2) := by
  rw [← List.reverse_reverse l]
  induction l.reverse with
  | nil => rfl
  | cons y r ih =>
    rw [List.reverse_cons, List.map_append, List.map_singleton, putAll_snoc, putAll_snoc, ih]
    generalize putAll key x r.reverse = st
    unfold putRest putHalf
    simp only [hk]
    by_cases h1 : st.2 = false ∧ key x ≤ key y <;> by_cases h2 : key y ≠ key x <;> simp [h1, h2]
theorem map_putLast {α β : Type} (f : α → β) (key : α → Int) (key' : β → Int) (hk : ∀ a, key' (f a) = key a) (x : α) (l : List α) : putLast (f x) (putAll key' (f x) (l.map f)) = (putLast x (putAll key x l)).map f := by
  rw [map_putAll f key key' hk]
  unfold putLast
  split <;> simp
/-- The same of segments, for the laws. -/
def putRound (x : Sg) (st : List Sg × Bool) (y : Sg) : List Sg × Bool := putRest Prod.fst x (putHalf Prod.fst x st y) y
abbrev putDone (x : Sg) (st : List Sg × Bool) : List Sg := putLast x st
def putR (A : List Sg) (x : Sg) : List Sg := putDone x (A.foldl (putRound x) ([], false))
theorem fold_in (x : Sg) : ∀ (A acc : List Sg), A.foldl (putRound x) (acc, true) = (acc ++ dropS A x.1, true)
  | [], acc => by simp [dropS]
  | y :: A, acc => by
    rw [List.foldl_cons]
    by_cases hy : y.1 = x.1
    · have e1 : putRound x (acc, true) y = (acc, true) := by simp [putRound, putHalf, putRest, hy]
      rw [e1, fold_in x A acc]
      unfold dropS
      rw [List.filter_cons_of_neg (by simpa using hy)]
    · have e1 : putRound x (acc, true) y = (acc ++ [y], true) := by simp [putRound, putHalf, putRest, hy]
      rw [e1, fold_in x A (acc ++ [y])]
      unfold dropS
      rw [List.filter_cons_of_pos (by simpa using hy), List.append_assoc, List.singleton_append]
theorem fold_out (x : Sg) : ∀ (A acc : List Sg), Rises (acc ++ A) → (∀ y ∈ acc, y.1 < x.1) →
    (putDone x (A.foldl (putRound x) (acc, false))).Perm (x :: (acc ++ dropS A x.1)) ∧ Rises (putDone x (A.foldl (putRound x) (acc, false)))
  | [], acc, hr, hl => by
    simp only [List.foldl_nil, putDone, putLast, Bool.false_eq_true, if_false, dropS, List.filter_nil, List.append_nil]
    rw [List.append_nil] at hr
    refine ⟨List.perm_append_singleton x acc, ?_⟩
    unfold Rises at *
    rw [List.pairwise_append]
    exact ⟨hr, List.pairwise_singleton _ _, fun a ha b hb => by obtain rfl := List.mem_singleton.1 hb; exact hl a ha⟩
  | y :: A, acc, hr, hl => by
    rw [List.foldl_cons]
    have hr' := hr
    unfold Rises at hr
    rw [List.pairwise_append, List.pairwise_cons] at hr
    obtain ⟨h1, ⟨h2, h3⟩, h4⟩ := hr
    by_cases hle : x.1 ≤ y.1
    · have hA : dropS A x.1 = A := dropS_none fun z hz e => by have := h2 z hz; omega
      by_cases hy : y.1 = x.1
      · have e1 : putRound x (acc, false) y = (acc ++ [x], true) := by
          simp [putRound, putHalf, putRest, hle, hy]
        rw [e1, fold_in x A]
        have e2 : dropS (y :: A) x.1 = A := by
          unfold dropS
          rw [List.filter_cons_of_neg (by simpa using hy)]
          exact hA
        rw [e2, hA]
        simp only [putDone, putLast, if_true]
        refine ⟨by rw [List.append_assoc, List.singleton_append]; exact List.perm_middle, ?_⟩
        unfold Rises
        rw [List.append_assoc, List.singleton_append, List.pairwise_append, List.pairwise_cons]
        refine ⟨h1, ⟨fun z hz => by have := h2 z hz; omega, h3⟩, fun a ha b hb => ?_⟩
        rcases List.mem_cons.1 hb with rfl | hb
        · exact hl a ha
        · exact h4 a ha b (List.mem_cons_of_mem _ hb)
      · have e1 : putRound x (acc, false) y = (acc ++ [x] ++ [y], true) := by
          simp [putRound, putHalf, putRest, hle, hy]
        rw [e1, fold_in x A]
        have e2 : dropS (y :: A) x.1 = y :: A := by
          unfold dropS
          rw [List.filter_cons_of_pos (by simpa using hy)]
          exact congrArg _ hA
        rw [e2, hA]
        simp only [putDone, putLast, if_true]
        have e3 : acc ++ [x] ++ [y] ++ A = acc ++ x :: y :: A := by simp
        rw [e3]
        refine ⟨List.perm_middle, ?_⟩
        unfold Rises
        rw [List.pairwise_append, List.pairwise_cons, List.pairwise_cons]
        refine ⟨h1, ⟨fun z hz => ?_, h2, h3⟩, fun a ha b hb => ?_⟩
        · rcases List.mem_cons.1 hz with rfl | hz
          · omega
          · have := h2 z hz; omega
        · rcases List.mem_cons.1 hb with rfl | hb
          · exact hl a ha
          · exact h4 a ha b hb
    · have hne : y.1 ≠ x.1 := by omega
      have e1 : putRound x (acc, false) y = (acc ++ [y], false) := by
        simp [putRound, putHalf, putRest, hle, hne]
      rw [e1]
      have ih := fold_out x A (acc ++ [y]) (by rw [List.append_assoc, List.singleton_append]; exact hr') (fun z hz => by
        rcases List.mem_append.1 hz with hz | hz
        · exact hl z hz
        · obtain rfl := List.mem_singleton.1 hz; omega)
      have e2 : dropS (y :: A) x.1 = y :: dropS A x.1 := by
        unfold dropS
        rw [List.filter_cons_of_pos (by simpa using hne)]
      rw [e2]
      refine ⟨ih.1.trans ?_, ih.2⟩
      rw [List.append_assoc, List.singleton_append]
theorem putR_is {A : List Sg} (h : Rises A) (x : Sg) : (putR A x).Perm (putS A x) ∧ Rises (putR A x) := by
  have := fold_out x A [] (by simpa using h) (fun y hy => by cases hy)
  simpa [putR, putS] using this
/-! a tape in plain words -/
structure Pl where
  room : Nat
  A : List Sg
  fuse : Int
  down : Bool
/-- Alike, but for the segments' order. -/
structure Pl.Eq (p q : Pl) : Prop where
  room : p.room = q.room
  A : p.A.Perm q.A
  fuse : p.fuse = q.fuse
  down : p.down = q.down
def burnP (p : Pl) : Pl := if 0 < p.fuse then { p with fuse := p.fuse - 1 } else p
def nameP (n : Int) : Bool := decide (0 ≤ n) && decide (n ≤ 1048576)
/-- What is there behind a change that is done. -/
def doneP (p : Pl) (kind : Nat) (seg n : Int) (b : List UInt8) : Pl :=
  match kind with
  | 0 => { burnP p with A := putS p.A (seg, ((lookS p.A seg).getD ([], 0)).1 ++ b, ((lookS p.A seg).getD ([], 0)).2) }
  | 1 => { burnP p with A := putS p.A (seg, ((lookS p.A seg).getD ([], 0)).1, ((lookS p.A seg).getD ([], 0)).1.length) }
  | 2 => { burnP p with A := putS p.A (seg, ((lookS p.A seg).getD ([], 0)).1.take n.toNat, min ((lookS p.A seg).getD ([], 0)).2 n.toNat) }
  | _ => { burnP p with A := dropS p.A seg }
/-- A change: 0 Append of b, 1 Sync, 2 Trim to n, 3 Drop: the answer, and what is there then. -/
def doP (p : Pl) (kind : Nat) (seg n : Int) (b : List UInt8) : Int × Pl :=
  if nameP seg = false then (2, p)
  else if p.down then (8, p)
  else if lookS p.A seg = none ∧ kind ≠ 0 then (3, p)
  else if kind = 0 ∧ (p.room - sizeS p.A < b.length ∨ lookS p.A seg = none ∧ 64 ≤ p.A.length) then (5, p)
  else if kind = 2 ∧ (n < 0 ∨ (((lookS p.A seg).getD ([], 0)).1.length : Int) < n) then (2, p)
  else if p.fuse = 0 then (8, { p with down := true })
  else (0, doneP p kind seg n b)
theorem Pl.Eq.refl (p : Pl) : p.Eq p := ⟨rfl, List.Perm.refl _, rfl, rfl⟩
theorem Pl.Eq.trans {p q r : Pl} (h : p.Eq q) (k : q.Eq r) : p.Eq r := ⟨h.room.trans k.room, h.A.trans k.A, h.fuse.trans k.fuse, h.down.trans k.down⟩
theorem Pl.Eq.symm {p q : Pl} (h : p.Eq q) : q.Eq p := ⟨h.room.symm, h.A.symm, h.fuse.symm, h.down.symm⟩
theorem burnP_eq {p q : Pl} (h : p.Eq q) : (burnP p).Eq (burnP q) := by
  unfold burnP
  rw [h.fuse]
  split
  · exact ⟨h.room, h.A, by simp [h.fuse], h.down⟩
  · exact h
theorem burnP_A (p : Pl) : (burnP p).A = p.A := by unfold burnP; split <;> rfl
theorem doP_eq {p q : Pl} (hn : (numsOf p.A).Nodup) (h : p.Eq q) (kind : Nat) (seg n : Int) (b : List UInt8) : (doP p kind seg n b).1 = (doP q kind seg n b).1 ∧ (doP p kind seg n b).2.Eq (doP q kind seg n b).2 := by
  have hl := lookS_perm hn h.A seg
  have hs := sizeS_perm h.A
  have hc := h.A.length_eq
  have hb := burnP_eq h
  unfold doP
  rw [← hl, ← hs, ← hc, ← h.room, ← h.fuse, ← h.down]
  split
  · exact ⟨rfl, h⟩
  split
  · exact ⟨rfl, h⟩
  split
  · exact ⟨rfl, h⟩
  split
  · exact ⟨rfl, h⟩
  split
  · exact ⟨rfl, h⟩
  split
  · exact ⟨rfl, rfl, h.A, rfl, rfl⟩
  · refine ⟨rfl, ?_⟩
    unfold doneP
    rw [← hl]
    match kind with
    | 0 => exact ⟨hb.room, putS_perm h.A _, hb.fuse, hb.down⟩
    | 1 => exact ⟨hb.room, putS_perm h.A _, hb.fuse, hb.down⟩
    | 2 => exact ⟨hb.room, putS_perm h.A _, hb.fuse, hb.down⟩
    | k + 3 => exact ⟨hb.room, dropS_perm h.A _, hb.fuse, hb.down⟩
end Go.Proofs.YtnegnokielmgkaaGreatDoor

namespace Go.Proofs.YtnegnokielmgkaaGreatDoor

section
variable {p : Pl} {seg n : Int} {b : List UInt8}
theorem doP_name (k : Nat) (h : nameP seg = false) : doP p k seg n b = (2, p) := by unfold doP; rw [if_pos h]
theorem doP_down (k : Nat) (h : nameP seg = true) (hd : p.down = true) : doP p k seg n b = (8, p) := by
  unfold doP
  rw [if_neg (by rw [h]; decide), if_pos hd]
theorem doP_none {k : Nat} (h : nameP seg = true) (hd : p.down = false) (hl : lookS p.A seg = none) (hk : k ≠ 0) : doP p k seg n b = (3, p) := by
  unfold doP
  rw [if_neg (by rw [h]; decide), if_neg (by rw [hd]; decide), if_pos ⟨hl, hk⟩]
theorem doP_full (h : nameP seg = true) (hd : p.down = false) (hf : p.room - sizeS p.A < b.length ∨ lookS p.A seg = none ∧ 64 ≤ p.A.length) : doP p 0 seg n b = (5, p) := by
  unfold doP
  rw [if_neg (by rw [h]; decide), if_neg (by rw [hd]; decide), if_neg (fun c => c.2 rfl), if_pos ⟨rfl, hf⟩]
theorem doP_arg {y : List UInt8 × Nat} (h : nameP seg = true) (hd : p.down = false) (hl : lookS p.A seg = some y) (hf : n < 0 ∨ (y.1.length : Int) < n) : doP p 2 seg n b = (2, p) := by
  unfold doP
  rw [if_neg (by rw [h]; decide), if_neg (by rw [hd]; decide), if_neg (fun c => by rw [hl] at c; cases c.1), if_neg (fun c => by cases c.1), if_pos ⟨rfl, by rw [hl]; exact hf⟩]
/-- A change that is not refused. -/
structure Fine (p : Pl) (k : Nat) (seg n : Int) (b : List UInt8) : Prop where
  name : nameP seg = true
  down : p.down = false
  there : k ≠ 0 → lookS p.A seg ≠ none
  fits : k = 0 → b.length ≤ p.room - sizeS p.A ∧ (lookS p.A seg = none → p.A.length < 64)
  upto : k = 2 → 0 ≤ n ∧ n ≤ (((lookS p.A seg).getD ([], 0)).1.length : Int)
theorem doP_dead {k : Nat} (h : Fine p k seg n b) (hf : p.fuse = 0) : doP p k seg n b = (8, { p with down := true }) := by
  have h1 := h.there
  have h2 := h.fits
  have h3 := h.upto
  unfold doP
  rw [if_neg (by rw [h.name]; decide), if_neg (by rw [h.down]; decide), if_neg (fun c => h1 c.2 c.1), if_neg (fun c => by
    obtain ⟨a1, a2⟩ := h2 c.1
    rcases c.2 with c | ⟨c1, c2⟩
    · omega
    · have := a2 c1; omega), if_neg (fun c => by
    obtain ⟨a1, a2⟩ := h3 c.1
    rcases c.2 with c | c <;> omega), if_pos hf]
theorem doP_fine {k : Nat} (h : Fine p k seg n b) (hf : p.fuse ≠ 0) : doP p k seg n b = (0, doneP p k seg n b) := by
  have h1 := h.there
  have h2 := h.fits
  have h3 := h.upto
  unfold doP
  rw [if_neg (by rw [h.name]; decide), if_neg (by rw [h.down]; decide), if_neg (fun c => h1 c.2 c.1), if_neg (fun c => by
    obtain ⟨a1, a2⟩ := h2 c.1
    rcases c.2 with c | ⟨c1, c2⟩
    · omega
    · have := a2 c1; omega), if_neg (fun c => by
    obtain ⟨a1, a2⟩ := h3 c.1
    rcases c.2 with c | c <;> omega), if_neg hf]
theorem doP_app {y : List UInt8 × Nat} (h : Fine p 0 seg n b) (hf : p.fuse ≠ 0) (hl : (lookS p.A seg).getD ([], 0) = y) : doP p 0 seg n b = (0, { burnP p with A := putS p.A (seg, y.1 ++ b, y.2) }) := by rw [doP_fine h hf]; unfold doneP; rw [hl]; rfl
theorem doP_sync {y : List UInt8 × Nat} (h : Fine p 1 seg n b) (hf : p.fuse ≠ 0) (hl : lookS p.A seg = some y) : doP p 1 seg n b = (0, { burnP p with A := putS p.A (seg, y.1, y.1.length) }) := by rw [doP_fine h hf]; unfold doneP; rw [hl]; rfl
theorem doP_trim {y : List UInt8 × Nat} (h : Fine p 2 seg n b) (hf : p.fuse ≠ 0) (hl : lookS p.A seg = some y) : doP p 2 seg n b = (0, { burnP p with A := putS p.A (seg, y.1.take n.toNat, min y.2 n.toNat) }) := by rw [doP_fine h hf]; unfold doneP; rw [hl]; rfl
theorem doP_drop (h : Fine p 3 seg n b) (hf : p.fuse ≠ 0) : doP p 3 seg n b = (0, { burnP p with A := dropS p.A seg }) := by rw [doP_fine h hf]; rfl
end
/-- An append, told by a map over the entries. -/
theorem map_if_set {A : List Sg} (h : (numsOf A).Nodup) {j : Nat} {n : Int} {y : List UInt8 × Nat} (hj : A[j]? = some (n, y)) (f : Sg → Sg) : A.map (fun x => if x.1 = n then f x else x) = A.set j (f (n, y)) := by
  induction A generalizing j with
  | nil => simp at hj
  | cons a A ih =>
    unfold numsOf at h
    rw [List.map_cons, List.nodup_cons] at h
    cases j with
    | zero =>
      obtain rfl : a = (n, y) := by simpa using hj
      rw [List.map_cons, if_pos rfl, List.set_cons_zero]
      congr 1
      conv => rhs; rw [← List.map_id A]
      refine List.map_congr_left fun x hx => ?_
      rw [if_neg (fun e => h.1 (List.mem_map.2 ⟨x, hx, e⟩))]
      rfl
    | succ j =>
      rw [List.getElem?_cons_succ] at hj
      have hm : (n, y) ∈ A := List.mem_of_getElem? hj
      have hne : a.1 ≠ n := fun e => h.1 (List.mem_map.2 ⟨_, hm, e.symm⟩)
      rw [List.map_cons, if_neg hne, List.set_cons_succ, ih h.2 hj]
theorem app_put {A : List Sg} (h : (numsOf A).Nodup) (n : Int) (d : List UInt8) : (if A.any (fun x => x.1 == n) then A.map (fun x => if x.1 = n then (x.1, x.2.1 ++ d, x.2.2) else x) else A ++ [(n, d, 0)]).Perm (putS A (n, ((lookS A n).getD ([], 0)).1 ++ d, ((lookS A n).getD ([], 0)).2)) := by
  rcases nodup_at h (n := n) with ⟨j, y, hj⟩ | hm
  · rw [if_pos (List.any_eq_true.2 ⟨_, List.mem_of_getElem? hj, by simp⟩), lookS_of_mem h (List.mem_of_getElem? hj), map_if_set h hj]
    exact set_perm h hj
  · rw [if_neg (by rw [Bool.not_eq_true, List.any_eq_false]; intro x hx; simpa using hm x hx), lookS_none hm]
    unfold putS
    show (A ++ [(n, d, 0)]).Perm ((n, [] ++ d, 0) :: dropS A n)
    rw [dropS_none hm, List.nil_append]
    exact List.perm_append_singleton _ _
end Go.Proofs.YtnegnokielmgkaaGreatDoor

namespace Go.Proofs.YtnegnokielmgkaaGreatDoor

def lastS (x : Sg) (k : Int) : Nat := x.2.2 + min k.toNat (x.2.1.length - x.2.2)
def keptS (x : Sg) (k : Int) : List Sg := if lastS x k = 0 then [] else [(x.1, x.2.1.take (lastS x k), lastS x k)]
/-- What lasts of the first i entries. -/
def crI (A : List Sg) (ks : List Int) (i : Nat) : List Sg := (List.range i).flatMap fun j => match A[j]? with
  | some x => keptS x (ks[j]?.getD 0)
  | none => []
theorem crI_zero (A : List Sg) (ks : List Int) : crI A ks 0 = [] := rfl
theorem crI_succ {A : List Sg} {i : Nat} {x : Sg} (ks : List Int) (h : A[i]? = some x) : crI A ks (i + 1) = crI A ks i ++ keptS x (ks[i]?.getD 0) := by
  unfold crI
  rw [List.range_succ, List.flatMap_append]
  simp [h]
theorem keptS_none {x : Sg} {k : Int} (h : lastS x k = 0) : keptS x k = [] := if_pos h
theorem keptS_some {x : Sg} {k : Int} (h : lastS x k ≠ 0) : keptS x k = [(x.1, x.2.1.take (lastS x k), lastS x k)] := if_neg h
theorem lastS_le {x : Sg} (h : x.2.2 ≤ x.2.1.length) (k : Int) : x.2.2 ≤ lastS x k ∧ lastS x k ≤ x.2.1.length := by unfold lastS; omega
theorem mem_crI {A : List Sg} {ks : List Int} : ∀ {i : Nat} {y : Sg}, y ∈ crI A ks i → ∃ (j : Nat) (x : Sg), j < i ∧ A[j]? = some x ∧ y.1 = x.1 ∧ lastS x (ks[j]?.getD 0) ≠ 0 ∧ y = (x.1, x.2.1.take (lastS x (ks[j]?.getD 0)), lastS x (ks[j]?.getD 0)) := by
  intro i y hy
  unfold crI at hy
  obtain ⟨j, hj, hy⟩ := List.mem_flatMap.1 hy
  rw [List.mem_range] at hj
  cases hx : A[j]? with
  | none => rw [hx] at hy; cases hy
  | some x =>
    rw [hx] at hy
    by_cases h0 : lastS x (ks[j]?.getD 0) = 0
    · simp only [keptS_none h0] at hy
      cases hy
    · simp only [keptS_some h0, List.mem_singleton] at hy
      exact ⟨j, x, hj, hx, by rw [hy], h0, hy⟩
theorem crI_rises {A : List Sg} (h : Rises A) (ks : List Int) : ∀ i, i ≤ A.length → Rises (crI A ks i)
  | 0, _ => List.Pairwise.nil
  | i + 1, hi => by
    have hx : A[i]? = some A[i] := List.getElem?_eq_getElem (by omega)
    rw [crI_succ ks hx]
    unfold Rises
    rw [List.pairwise_append]
    refine ⟨crI_rises h ks i (by omega), ?_, fun a ha b hb => ?_⟩
    · unfold keptS
      split
      · exact List.Pairwise.nil
      · exact List.pairwise_singleton _ _
    · obtain ⟨j, x, hj, hxj, e, _, _⟩ := mem_crI ha
      have hb1 : b.1 = A[i].1 := by
        unfold keptS at hb
        split at hb
        · cases hb
        · rw [List.mem_singleton.1 hb]
      rw [e, hb1]
      unfold Rises at h
      rw [List.pairwise_iff_getElem] at h
      have := h j i (by omega) (by omega) hj
      rw [(List.getElem?_eq_some_iff.1 hxj).2] at this
      exact this
theorem crI_len (A : List Sg) (ks : List Int) : ∀ i, (crI A ks i).length ≤ i
  | 0 => Nat.le_refl _
  | i + 1 => by
    have ih := crI_len A ks i
    cases hx : A[i]? with
    | none =>
      unfold crI at *
      rw [List.range_succ, List.flatMap_append]
      simp only [List.flatMap_cons, List.flatMap_nil, hx, List.append_nil, List.length_append, List.length_nil]
      omega
    | some x =>
      rw [crI_succ ks hx, List.length_append]
      unfold keptS
      split <;> simp <;> omega
theorem crI_size {A : List Sg} (hA : ∀ x ∈ A, x.2.2 ≤ x.2.1.length) (ks : List Int) : ∀ i, i ≤ A.length → sizeS (crI A ks i) ≤ sizeS (A.take i)
  | 0, _ => Nat.le_refl _
  | i + 1, hi => by
    have ih := crI_size hA ks i (by omega)
    have hx : A[i]? = some A[i] := List.getElem?_eq_getElem (by omega)
    rw [crI_succ ks hx, List.take_add_one, hx]
    unfold sizeS at *
    rw [List.map_append, List.sum_append, List.map_append, List.sum_append]
    have h1 : ((keptS A[i] (ks[i]?.getD 0)).map fun x => x.2.1.length).sum ≤ A[i].2.1.length := by
      unfold keptS
      split
      · simp
      · simp [List.length_take]
        omega
    simp at *
    omega
theorem sizeS_take (A : List Sg) (i : Nat) : sizeS (A.take i) ≤ sizeS A := by
  unfold sizeS
  have := congrArg (fun l => (l.map fun x : Sg => x.2.1.length).sum) (List.take_append_drop i A)
  simp only [List.map_append, List.sum_append] at this
  omega
end Go.Proofs.YtnegnokielmgkaaGreatDoor
