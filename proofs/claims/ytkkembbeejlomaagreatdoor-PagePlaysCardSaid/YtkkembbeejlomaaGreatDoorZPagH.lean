/- What becomes of a store when a page, or the row of its pages, is another one. -/
import Derived.Test.YtkkembbeejlomaaGreatDoorZPagG
set_option linter.unusedSimpArgs false
set_option linter.unusedVariables false
set_option linter.unnecessarySimpa false
namespace Go.Proofs.YtkkembbeejlomaaGreatDoor
open Go.RowKit Go.Shelf Go.Sort Go.Lib

theorem RowIs.area {w : World} {z g n c : Nat} {l : List Value} (h : RowIs w z (.slice (some ⟨g, 0, none⟩) n c) n l) (h1 : ∀ u ∈ l, u.oneCell' = true) : Area w z g 0 c l ∧ n ≤ c ∧ l.length = n * z := by
  rcases h with ⟨e, _⟩ | ⟨g', cap, e, h2, h3, hc⟩
  · cases e
  · injection e with e1 _ e3
    injection e1 with e1
    injection e1 with e1
    subst e1 e3
    exact ⟨⟨hc.lt, hc.le, hc.max, fun j u hj => by rw [Nat.zero_add]; exact hc.holds j u hj, fun j hj => by rw [Nat.zero_add]; exact hc.there j hj, h1⟩, h3, h2⟩
theorem Area.row {w : World} {z g n c : Nat} {l : List Value} (h : Area w z g 0 c l) (hl : l.length = n * z) (hn : n ≤ c) : RowIs w z (.slice (some ⟨g, 0, none⟩) n c) n l :=
  .inr ⟨g, c, rfl, hl, hn, h.lt, h.le, h.max, fun j u hj => by have := h.holds j u hj; rw [Nat.zero_add] at this; exact this, fun j hj => by have := h.there j hj; rw [Nat.zero_add] at this; exact this⟩
theorem pgsV_set (L : List Pl) (P : List (List Row)) (i : Nat) (a : Pl) (p : List Row) : (pgsV L P).set i (plV a p) = pgsV (L.set i a) (P.set i p) := by
  unfold pgsV
  induction L generalizing P i with
  | nil => simp
  | cons x L ih =>
    cases P with
    | nil => simp
    | cons y P =>
      cases i with
      | zero => rfl
      | succ i => simp [ih]
theorem setCell_one (w : World) (g i : Nat) (u : Value) : w.setCell ⟨g, i, none⟩ u = w.setCells g i [u] := rfl
/-- One cell of a row is another one. -/
theorem Area.set1 {w : World} {g o cap : Nat} {l : List Value} (h : Area w 1 g o cap l) {i : Nat} (hi : i < l.length) (u : Value) (hu : u.oneCell' = true) : Area (w.setCell ⟨g, o + i, none⟩ u) 1 g o cap (l.set i u) := by
  have hle := h.le
  rw [setCell_one]
  refine h.put (by simp; omega) (by rw [List.length_set]; exact hle) (fun x hx => ?_) (fun j x h1 h2 hj => ?_) (fun j x h1 hj => ?_)
  · rcases List.mem_or_eq_of_mem_set hx with hx | rfl
    · exact h.one x hx
    · exact hu
  · have : j = i := by simp at h2; omega
    subst this
    rw [List.getElem?_set_self hi] at hj
    simpa using hj
  · rw [List.getElem?_set_ne (by simp at h1; omega)] at hj
    exact hj
section
variable {w w1 : World} {s most g c i : Nat} {v : Value} {L : List Pl} {P : List (List Row)} {a a' : Pl} {p p' : List Row}
/-- A part of a place. -/
def Sub (a' a : Pl) : Prop := a'.g = a.g ∧ a.o ≤ a'.o ∧ a'.o + a'.cap * 2 ≤ a.o + a.cap * 2
theorem Sub.refl (a : Pl) : Sub a a := ⟨rfl, Nat.le_refl _, Nat.le_refl _⟩
theorem Sub.off {a' a b : Pl} (h : Sub a' a) (ho : Off b.g b.o (b.cap * 2) a.g a.o (a.cap * 2)) : Off b.g b.o (b.cap * 2) a'.g a'.o (a'.cap * 2) := by
  obtain ⟨h1, h2, h3⟩ := h
  unfold Off at ho ⊢
  rw [h1]
  omega
/-- Where the new page may lie: where the old one did, or in a new block. -/
def NewAt (w w1 : World) (a a' : Pl) : Prop := (Sub a' a ∧ TouchA a.g a.o (a.cap * 2) w w1) ∨ (w.heap.size ≤ a'.g ∧ Below w.heap.size w w1)
theorem NewAt.touch (h : NewAt w w1 a a') : Touch (fun k => k = a.g) w w1 := by
  rcases h with ⟨_, h⟩ | ⟨_, h⟩
  · exact h.touch
  · exact .of_below h
theorem off_of (ha : L.Pairwise (fun a b => Off a.g a.o (a.cap * 2) b.g b.o (b.cap * 2))) {i j : Nat} {a b : Pl} (hi : L[i]? = some a) (hj : L[j]? = some b) (hij : i ≠ j) : Off b.g b.o (b.cap * 2) a.g a.o (a.cap * 2) := by
  have h1 := List.getElem?_eq_some_iff.1 hi
  have h2 := List.getElem?_eq_some_iff.1 hj
  rcases Nat.lt_or_gt_of_ne hij with h | h
  · have := List.pairwise_iff_getElem.1 ha i j h1.1 h2.1 h
    rw [h1.2, h2.2] at this
    exact this.symm
  · have := List.pairwise_iff_getElem.1 ha j i h2.1 h1.1 h
    rw [h1.2, h2.2] at this
    exact this
/-- The pages behind a call that made a page anew: all but that one are as they were. -/
theorem St.others (h : St w s most v L P) (ha : L[i]? = some a) (hn : NewAt w w1 a a') {j : Nat} {b : Pl} {q : List Row} (hj : L[j]? = some b) (hq : P[j]? = some q) (hij : i ≠ j) : Area w1 2 b.g b.o b.cap (pgC q) := by
  rcases hn with ⟨_, ht⟩ | ⟨_, hb⟩
  · exact (h.each j b q hj hq).1.far ht (off_of h.apart ha hj hij)
  · exact (h.each j b q hj hq).1.below hb
theorem NewAt.off (h : St w s most v L P) (ha : L[i]? = some a) (hn : NewAt w w1 a a') {j : Nat} {b : Pl} (hj : L[j]? = some b) (hij : i ≠ j) : Off b.g b.o (b.cap * 2) a'.g a'.o (a'.cap * 2) := by
  rcases hn with ⟨hsub, _⟩ | ⟨hg, _⟩
  · exact hsub.off (off_of h.apart ha hj hij)
  · left
    have := h.owns_lt b.g (.inr (.inr ⟨b, List.mem_of_getElem? hj, rfl⟩))
    omega
/-- Page number i is another one, and the row says so. -/
theorem St.upd (h : St w s most v L P) (hv : v = .slice (some ⟨g, 0, none⟩) P.length c) (ha : L[i]? = some a) (hp : P[i]? = some p) (hA : Area w1 2 a'.g a'.o a'.cap (pgC p')) (hc : p'.length ≤ a'.cap) (hn : NewAt w w1 a a') :
    St (w1.setCell ⟨g, i, none⟩ (plV a' p')) s most v (L.set i a') (P.set i p') ∧ Touch (Owns s v L) w (w1.setCell ⟨g, i, none⟩ (plV a' p')) := by
  have hil := (List.getElem?_eq_some_iff.1 hp).1
  have haL := List.mem_of_getElem? ha
  have hvg : v.ownBlock = some g := by rw [hv]; rfl
  have hag := h.offs a haL
  have hga : g ≠ a.g := fun e => hag.2 (e ▸ hvg)
  have hsg : s ≠ g := fun e => h.off (e ▸ hvg)
  have hgl := RowIs.lt h.row g hvg
  have hsl := heap_lt h.head
  have ht := hn.touch
  have hr1 : RowIs w1 1 v P.length (pgsV L P) := RowIs.touch h.row ht (fun k hk e => hag.2 (e ▸ hk))
  rw [hv] at hr1
  obtain ⟨hA1, hn1, hl1⟩ := hr1.area (pgsV_one L P)
  have hset := hA1.set1 (i := i) (by omega) (plV a' p') rfl
  rw [Nat.zero_add, pgsV_set] at hset
  have hT : Touch (fun k => k = g) w1 (w1.setCell ⟨g, i, none⟩ (plV a' p')) := Touch.setCell (S := fun k => k = g) (Touch.refl _ _) ⟨g, i, none⟩ (fun _ => rfl) _
  have hag' : a'.g ≠ g := by
    rcases hn with ⟨hsub, _⟩ | ⟨hg, _⟩
    · rw [hsub.1]; exact fun e => hga e.symm
    · omega
  have has' : a'.g ≠ s := by
    rcases hn with ⟨hsub, _⟩ | ⟨hg, _⟩
    · rw [hsub.1]; exact hag.1
    · omega
  refine ⟨⟨?_, ?_, by rw [List.length_set, List.length_set]; exact h.len, fun j b q hj hq => ?_, fun b hb => ?_, ?_, h.off⟩, ?_⟩
  · exact (hT.block s (Nat.lt_of_lt_of_le hsl ht.size) hsg).trans ((ht.block s hsl (fun e => hag.1 e.symm)).trans h.head)
  · rw [List.length_set, hv]
    exact hset.row (by rw [pgsV_len (by rw [List.length_set, List.length_set]; exact h.len), List.length_set]; omega) hn1
  · by_cases hij : i = j
    · subst hij
      rw [List.getElem?_set_self (by rw [h.len]; exact hil)] at hj
      rw [List.getElem?_set_self hil] at hq
      obtain rfl := Option.some.inj hj
      obtain rfl := Option.some.inj hq
      exact ⟨hA.touch hT hag', hc⟩
    · rw [List.getElem?_set_ne hij] at hj hq
      have hbg := (h.offs b (List.mem_of_getElem? hj)).2
      exact ⟨(h.others ha hn hj hq hij).touch hT (fun e => hbg (e ▸ hvg)), (h.each j b q hj hq).2⟩
  · rcases List.mem_or_eq_of_mem_set hb with hb | rfl
    · exact h.offs b hb
    · exact ⟨has', fun e => hag' (Option.some.inj (e.symm.trans hvg))⟩
  · rw [List.pairwise_iff_getElem]
    intro x y hx hy hxy
    rw [List.length_set] at hx hy
    have gx : L[x]? = some L[x] := List.getElem?_eq_getElem hx
    have gy : L[y]? = some L[y] := List.getElem?_eq_getElem hy
    rw [List.getElem_set, List.getElem_set]
    by_cases h1 : i = x
    · rw [if_pos h1, if_neg (by omega)]
      exact (hn.off h ha gy (by omega)).symm
    · rw [if_neg h1]
      by_cases h2 : i = y
      · rw [if_pos h2]
        exact hn.off h ha gx h1
      · rw [if_neg h2]
        exact List.pairwise_iff_getElem.1 h.apart x y hx hy hxy
  · exact (ht.mono (fun k _ e => .inr (.inr ⟨a, haL, e.symm⟩))).trans hT (fun k _ e => .inr (.inl (e ▸ hvg)))
end
/-- The row of the pages is another one: the pages lie where they lay. -/
theorem St.pages {w w1 : World} {s most : Nat} {v v' : Value} {L L' : List Pl} {P P' : List (List Row)} (h : St w s most v L P) (ht : Touch (fun k => v.ownBlock = some k) w w1) (hr : RowIs w1 1 v' P'.length (pgsV L' P')) (hv' : ∀ k, v'.ownBlock = some k → v.ownBlock = some k ∨ w.heap.size ≤ k)
    (hl : L'.length = P'.length) (he : ∀ (i : Nat) (a : Pl) (p : List Row), L'[i]? = some a → P'[i]? = some p → Area w 2 a.g a.o a.cap (pgC p) ∧ p.length ≤ a.cap) (ho : ∀ a ∈ L', ∃ b ∈ L, a.g = b.g) (ha : L'.Pairwise (fun a b => Off a.g a.o (a.cap * 2) b.g b.o (b.cap * 2))) :
    St (w1.setCell ⟨s, 1, none⟩ v') s most v' L' P' ∧ Touch (Owns s v L) w (w1.setCell ⟨s, 1, none⟩ v') := by
  have hsl := heap_lt h.head
  have hh1 := (ht.block s hsl h.off).trans h.head
  have hT : Touch (fun k => k = s) w1 (w1.setCell ⟨s, 1, none⟩ v') := Touch.setCell (S := fun k => k = s) (Touch.refl _ _) ⟨s, 1, none⟩ (fun _ => rfl) _
  have hvs : v'.ownBlock ≠ some s := fun e => (hv' s e).elim h.off (fun e => by omega)
  have hog : ∀ a ∈ L', a.g ≠ s ∧ v.ownBlock ≠ some a.g ∧ a.g < w.heap.size := fun a ha => by
    obtain ⟨b, hb, e⟩ := ho a ha
    rw [e]
    exact ⟨(h.offs b hb).1, (h.offs b hb).2, h.owns_lt _ (.inr (.inr ⟨b, hb, rfl⟩))⟩
  refine ⟨⟨set_at hh1 1 v', RowIs.touch hr hT (fun k e e2 => hvs (e2 ▸ e)), hl, fun i a p h1 h2 => ?_, fun a ha => ⟨(hog a ha).1, fun e => (hv' _ e).elim (hog a ha).2.1 (fun e => by have := (hog a ha).2.2; omega)⟩, ha, hvs⟩, ?_⟩
  · have := hog a (List.mem_of_getElem? h1)
    exact ⟨((he i a p h1 h2).1.touch ht this.2.1).touch hT this.1, (he i a p h1 h2).2⟩
  · exact (ht.mono (fun k _ e => .inr (.inl e))).trans hT (fun k _ e => .inl e)
/-- What a call leaves of a store. -/
def StPost (w : World) (s most : Nat) (v : Value) (L : List Pl) (P' : List (List Row)) (w' : World) : Prop := ∃ v' L', St w' s most v' L' P' ∧ Touch (Owns s v L) w w' ∧ ∀ k, Owns s v' L' k → Owns s v L k ∨ w.heap.size ≤ k
theorem StPost.start {w w' : World} {s most : Nat} {v : Value} {L : List Pl} {P : List (List Row)} (h : St w s most v L P) (hb : Below w.heap.size w w') : StPost w s most v L P w' := ⟨v, L, h.below hb, .of_below hb, fun k hk => .inl hk⟩
theorem StPost.trans {w w1 w2 : World} {s most : Nat} {v v1 : Value} {L L1 : List Pl} {P2 : List (List Row)} (ht : Touch (Owns s v L) w w1) (ho : ∀ k, Owns s v1 L1 k → Owns s v L k ∨ w.heap.size ≤ k) (h2 : StPost w1 s most v1 L1 P2 w2) : StPost w s most v L P2 w2 := by
  obtain ⟨v2, L2, h3, h4, h5⟩ := h2
  refine ⟨v2, L2, h3, ht.trans h4 (fun i hi e => (ho i e).elim id (fun e => by omega)), fun k hk => ?_⟩
  rcases h5 k hk with h6 | h6
  · exact ho k h6
  · have := ht.size
    right; omega
theorem StPost.after {w w1 w2 : World} {s most : Nat} {v : Value} {L : List Pl} {P : List (List Row)} (h : StPost w s most v L P w1) (hb : Below w1.heap.size w1 w2) : StPost w s most v L P w2 := by
  obtain ⟨v1, L1, h1, h2, h3⟩ := h
  exact ⟨v1, L1, h1.below hb, h2.after hb, h3⟩
theorem StPost.ahead {w w1 w2 : World} {s most : Nat} {v : Value} {L : List Pl} {P : List (List Row)} (hb : Below w.heap.size w w1) (h : StPost w1 s most v L P w2) : StPost w s most v L P w2 :=
  .trans (.of_below hb) (fun k hk => .inl hk) h
/-- One more in a list. -/
def insAt {α : Type} (l : List α) (j : Nat) (x : α) : List α := l.take j ++ x :: l.drop j
theorem insAt_len {α : Type} {l : List α} {j : Nat} {x : α} (hj : j ≤ l.length) : (insAt l j x).length = l.length + 1 := by
  unfold insAt
  rw [List.length_append, List.length_cons, List.length_take, List.length_drop]
  omega
theorem insAt_mem {α : Type} {l : List α} {j : Nat} {x y : α} (h : y ∈ insAt l j x) : y = x ∨ y ∈ l := by
  unfold insAt at h
  rcases List.mem_append.1 h with h | h
  · exact .inr (List.mem_of_mem_take h)
  · rcases List.mem_cons.1 h with h | h
    · exact .inl h
    · exact .inr (List.mem_of_mem_drop h)
theorem insAt_pair {α : Type} {R : α → α → Prop} {l : List α} {j : Nat} {x : α} (h : l.Pairwise R) (h1 : ∀ y ∈ l, R y x) (h2 : ∀ y ∈ l, R x y) : (insAt l j x).Pairwise R := by
  unfold insAt
  have h3 : (l.take j ++ l.drop j).Pairwise R := by rw [List.take_append_drop]; exact h
  rw [List.pairwise_append] at h3 ⊢
  refine ⟨h3.1, List.pairwise_cons.2 ⟨fun y hy => h2 y (List.mem_of_mem_drop hy), h3.2.1⟩, fun y hy z hz => ?_⟩
  rcases List.mem_cons.1 hz with rfl | hz
  · exact h1 y (List.mem_of_mem_take hy)
  · exact h3.2.2 y hy z hz
theorem zip_insAt {α β : Type} : ∀ (l : List α) (m : List β) (j : Nat) (x : α) (y : β), l.length = m.length → (insAt l j x).zip (insAt m j y) = insAt (l.zip m) j (x, y)
  | l, m, 0, x, y, h => by simp [insAt]
  | [], [], j + 1, x, y, h => by simp [insAt]
  | a :: l, b :: m, j + 1, x, y, h => by
    have := zip_insAt l m j x y (by simpa using h)
    unfold insAt at this ⊢
    simp only [List.take_succ_cons, List.drop_succ_cons, List.cons_append, List.zip_cons_cons, this]
  | [], _ :: _, _ + 1, _, _, h => by simp at h
  | _ :: _, [], _ + 1, _, _, h => by simp at h
theorem pgsV_zip (L : List Pl) (P : List (List Row)) : pgsV L P = (L.zip P).map (fun x => plV x.1 x.2) := by
  unfold pgsV
  rw [List.zip, List.map_zipWith]
theorem pgsV_ins {L : List Pl} {P : List (List Row)} {j : Nat} {a : Pl} {p : List Row} (h : L.length = P.length) : pgsV (insAt L j a) (insAt P j p) = insL 1 j (pgsV L P) [plV a p] := by
  rw [pgsV_zip, zip_insAt L P j a p h, pgsV_zip]
  unfold insAt insL
  rw [List.map_append, List.map_cons, List.map_take, List.map_drop, Nat.mul_one]
  rfl
theorem zip_at {L : List Pl} {P : List (List Row)} {Q : Pl → List Row → Prop} : (∀ (i : Nat) (a : Pl) (p : List Row), L[i]? = some a → P[i]? = some p → Q a p) ↔ ∀ x ∈ L.zip P, Q x.1 x.2 := by
  constructor
  · intro h x hx
    obtain ⟨i, hi⟩ := List.getElem?_of_mem hx
    rw [List.getElem?_zip_eq_some] at hi
    exact h i x.1 x.2 hi.1 hi.2
  · intro h i a p h1 h2
    exact h (a, p) (List.mem_of_getElem? (i := i) (List.getElem?_zip_eq_some.2 ⟨h1, h2⟩))
end Go.Proofs.YtkkembbeejlomaaGreatDoor
