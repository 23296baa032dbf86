/- A store and the document's own side by side, apart from what F names. The copy of a store, and the document's own copy. -/
import Derived.Test.YtkkembbeejlomaaGreatDoorZPgpC
set_option linter.unusedSimpArgs false
set_option linter.unusedVariables false
set_option linter.unnecessarySimpa false
namespace Go.Proofs.YtkkembbeejlomaaGreatDoor
open Go.RowKit Go.Shelf Go.Sort Go.Lib

/-- What F names stays as it is. -/
def Keeps (F : Nat → Prop) (w w' : World) : Prop := Touch (fun k => ¬ F k) w w'
theorem Keeps.below {F : Nat → Prop} {w w' : World} (h : Below w.heap.size w w') : Keeps F w w' := Touch.of_below h
theorem Keeps.trans {F : Nat → Prop} {w w1 w2 : World} (h : Keeps F w w1) (h2 : Keeps F w1 w2) : Keeps F w w2 := Touch.trans h h2 (fun i _ e => e)
theorem Keeps.less {F G : Nat → Prop} {w w' : World} (h : Keeps F w w') (hg : ∀ k, G k → F k) : Keeps G w w' := Touch.mono h (fun k _ e hk => e (hg k hk))
theorem Keeps.at_ {F : Nat → Prop} {w w' : World} (h : Keeps F w w') {b : Nat} {o : Obj} (hb : F b) (ho : w.heap[b]? = some o) : w'.heap[b]? = some o := (Touch.block h b (heap_lt ho) (fun e => e hb)).trans ho
/-- A store and the document's own. -/
structure Pair (w0 w : World) (F : Nat → Prop) (s r most : Nat) (P Q : List (List Row)) : Prop where
  ex : ∃ v L vr us, St w s most v L P ∧ RSt w r most vr us Q ∧ (∀ k, Owns s v L k → w0.heap.size ≤ k ∧ ¬ F k ∧ ¬ ROwns r vr us k) ∧ (∀ k, ROwns r vr us k → w0.heap.size ≤ k) ∧ ¬ F r
  old : ∀ k, F k → k < w.heap.size
  below : Below w0.heap.size w0 w
  glob : Glob w0
  fineP : Fine most P
  fineQ : Fine most Q
section
variable {w0 w w' : World} {F G : Nat → Prop} {s r most : Nat} {P Q P' Q' : List (List Row)} {k : K} {n : Int}
theorem Pair.keep (h : Pair w0 w F s r most P Q) (hb : Below w.heap.size w w') : Pair w0 w' F s r most P Q := by
  obtain ⟨v, L, vr, us, h1, h2, h3, h4, h5⟩ := h.ex
  exact ⟨⟨v, L, vr, us, h1.below hb, h2.below hb, h3, h4, h5⟩, fun k hk => Nat.lt_of_lt_of_le (h.old k hk) hb.size, h.below.trans (hb.mono h.below.size), h.glob, h.fineP, h.fineQ⟩
theorem Pair.sr (h : Pair w0 w F s r most P Q) : Sr w0 w s most P := by
  obtain ⟨v, L, vr, us, h1, h2, h3, h4, h5⟩ := h.ex
  exact ⟨⟨v, L, h1, fun k hk => (h3 k hk).1⟩, h.below, h.glob, h.fineP⟩
theorem Pair.rst (h : Pair w0 w F s r most P Q) : ∃ vr us, RSt w r most vr us Q := by
  obtain ⟨v, L, vr, us, h1, h2, h3, h4, h5⟩ := h.ex
  exact ⟨vr, us, h2⟩
theorem Pair.less (h : Pair w0 w F s r most P Q) (hg : ∀ k, G k → F k) : Pair w0 w G s r most P Q := by
  obtain ⟨v, L, vr, us, h1, h2, h3, h4, h5⟩ := h.ex
  exact ⟨⟨v, L, vr, us, h1, h2, fun k hk => ⟨(h3 k hk).1, fun e => (h3 k hk).2.1 (hg k e), (h3 k hk).2.2⟩, h4, fun e => h5 (hg r e)⟩, fun k hk => h.old k (hg k hk), h.below, h.glob, h.fineP, h.fineQ⟩
/-- One more block is named, a new one. -/
theorem Pair.more (h : Pair w0 w F s r most P Q) (hb : Below w.heap.size w w') {b : Nat} (hb1 : w.heap.size ≤ b) (hb2 : b < w'.heap.size) : Pair w0 w' (fun k => F k ∨ k = b) s r most P Q := by
  obtain ⟨v, L, vr, us, h1, h2, h3, h4, h5⟩ := h.ex
  refine ⟨⟨v, L, vr, us, h1.below hb, h2.below hb, fun k hk => ⟨(h3 k hk).1, fun e => e.elim (h3 k hk).2.1 (fun e => by have := h1.owns_lt k hk; omega), (h3 k hk).2.2⟩, h4, fun e => e.elim h5 (fun e => by have := h2.owns_lt r (.inl rfl); omega)⟩, fun k hk => hk.elim (fun e => Nat.lt_of_lt_of_le (h.old k e) hb.size) (fun e => by omega), h.below.trans (hb.mono h.below.size), h.glob, h.fineP, h.fineQ⟩
theorem Pair.spost {v : Value} {L : List Pl} {vr : Value} {us : List Value} (h : Pair w0 w F s r most P Q) (h1 : St w s most v L P) (h2 : RSt w r most vr us Q) (h3 : ∀ k, Owns s v L k → w0.heap.size ≤ k ∧ ¬ F k ∧ ¬ ROwns r vr us k) (h4 : ∀ k, ROwns r vr us k → w0.heap.size ≤ k) (h5 : ¬ F r) (hp : StPost w s most v L P' w') (hF : Fine most P') : Pair w0 w' F s r most P' Q ∧ Keeps F w w' := by
  obtain ⟨v2, L2, g1, g2, g3⟩ := hp
  have hs := h.below.size
  have hr2 : RSt w' r most vr us Q := h2.touch g2 (fun k hk e => (h3 k e).2.2 hk)
  refine ⟨⟨⟨v2, L2, vr, us, g1, hr2, fun k hk => ?_, h4, h5⟩, fun k hk => Nat.lt_of_lt_of_le (h.old k hk) g2.size, h.below.trans (g2.below (fun i e => (h3 i e).1) hs), h.glob, hF, h.fineQ⟩, Touch.mono g2 (fun k _ e => (h3 k e).2.1)⟩
  rcases g3 k hk with e | e
  · exact h3 k e
  · exact ⟨by omega, fun hf => by have := h.old k hf; omega, fun hr => by have := h2.owns_lt k hr; omega⟩
theorem Pair.rpost {v : Value} {L : List Pl} {vr : Value} {us : List Value} (h : Pair w0 w F s r most P Q) (h1 : St w s most v L P) (h2 : RSt w r most vr us Q) (h3 : ∀ k, Owns s v L k → w0.heap.size ≤ k ∧ ¬ F k ∧ ¬ ROwns r vr us k) (h4 : ∀ k, ROwns r vr us k → w0.heap.size ≤ k) (h5 : ¬ F r) (hp : RPost w r most vr us Q' w') (hF : Fine most Q') : Pair w0 w' F s r most P Q' ∧ Keeps F w w' := by
  obtain ⟨vr2, us2, g1, g2, g3⟩ := hp
  have hs := h.below.size
  have hs2 : St w' s most v L P := h1.touch g2 (fun k hk e => (h3 k hk).2.2 (.inl e))
  refine ⟨⟨⟨v, L, vr2, us2, hs2, g1, fun k hk => ⟨(h3 k hk).1, (h3 k hk).2.1, fun hr => (g3 k hr).elim (h3 k hk).2.2 (fun e => by have := h1.owns_lt k hk; omega)⟩, fun k hk => (g3 k hk).elim (h4 k) (fun e => by omega), h5⟩, fun k hk => Nat.lt_of_lt_of_le (h.old k hk) g2.size, h.below.trans (g2.below (fun i e => by rw [e]; exact h4 r (.inl rfl)) hs), h.glob, h.fineP, hF⟩, Touch.mono g2 (fun k _ e hf => h5 (e ▸ hf))⟩
theorem Pair.put (h : Pair w0 w F s r most P Q) (hk : k.length ≤ maxLen) :
    Calls Tryz.prog 16 #[.pointer (some ⟨s, 0, none⟩), strV k, .int .i64 n] w fun e w' => e = .returned (.int .i64 (putP most P ⟨k, n⟩).2) ∧ Pair w0 w' F s r most (putP most P ⟨k, n⟩).1 Q ∧ Keeps F w w' := by
  obtain ⟨v, L, vr, us, h1, h2, h3, h4, h5⟩ := h.ex
  refine (Put_any h1 h.fineP hk (h.glob.below h.below) (fun e => by have := (h3 _ e).1; have := h.glob.lt; omega)).mono ?_
  rintro e w' ⟨rfl, hp⟩
  exact ⟨rfl, h.spost h1 h2 h3 h4 h5 hp (fine_put h.fineP _)⟩
theorem Pair.rput (h : Pair w0 w F s r most P Q) (hk : k.length ≤ maxLen) :
    Calls Tryz.prog 27 #[.pointer (some ⟨r, 0, none⟩), strV k, .int .i64 n] w fun e w' => e = .returned (.int .i64 (putP most Q ⟨k, n⟩).2) ∧ Pair w0 w' F s r most P (putP most Q ⟨k, n⟩).1 ∧ Keeps F w w' := by
  obtain ⟨v, L, vr, us, h1, h2, h3, h4, h5⟩ := h.ex
  refine (RPut_any h2 h.fineQ hk n).mono ?_
  rintro e w' ⟨rfl, hp⟩
  exact ⟨rfl, h.rpost h1 h2 h3 h4 h5 hp (fine_put h.fineQ _)⟩
theorem Pair.del (h : Pair w0 w F s r most P Q) :
    Calls Tryz.prog 18 #[.pointer (some ⟨s, 0, none⟩), strV k] w fun e w' => e = .returned (.bool (delP most P k).2) ∧ Pair w0 w' F s r most (delP most P k).1 Q ∧ Keeps F w w' := by
  obtain ⟨v, L, vr, us, h1, h2, h3, h4, h5⟩ := h.ex
  refine (Del_any h1 h.fineP).mono ?_
  rintro e w' ⟨rfl, hp⟩
  exact ⟨rfl, h.spost h1 h2 h3 h4 h5 hp (del_ok h.fineP).1⟩
theorem Pair.rdel (h : Pair w0 w F s r most P Q) :
    Calls Tryz.prog 28 #[.pointer (some ⟨r, 0, none⟩), strV k] w fun e w' => e = .returned (.bool (delP most Q k).2) ∧ Pair w0 w' F s r most P (delP most Q k).1 ∧ Keeps F w w' := by
  obtain ⟨v, L, vr, us, h1, h2, h3, h4, h5⟩ := h.ex
  refine (RDel_any h2 h.fineQ k).mono ?_
  rintro e w' ⟨rfl, hp⟩
  exact ⟨rfl, h.rpost h1 h2 h3 h4 h5 hp (del_ok h.fineQ).1⟩
/-- Another store takes the first one's place. -/
theorem Pair.other {t : Nat} (h : Pair w0 w F s r most P Q) (hb : Below w.heap.size w w') (ht : Sr w w' t most P') : Pair w0 w' F t r most P' Q := by
  obtain ⟨v, L, vr, us, h1, h2, h3, h4, h5⟩ := h.ex
  obtain ⟨v2, L2, g1, g2⟩ := ht.st
  have hs := h.below.size
  exact ⟨⟨v2, L2, vr, us, g1, h2.below hb, fun k hk => ⟨Nat.le_trans hs (g2 k hk), fun e => by have := h.old k e; have := g2 k hk; omega, fun e => by have := h2.owns_lt k e; have := g2 k hk; omega⟩, h4, h5⟩, fun k hk => Nat.lt_of_lt_of_le (h.old k hk) hb.size, h.below.trans (hb.mono hs), h.glob, ht.fine, h.fineQ⟩
end
/-- A copy of both, in blocks that F names. -/
structure Held (w0 w : World) (F : Nat → Prop) (c rc most : Nat) (P : List (List Row)) : Prop where
  ex : ∃ v L vr us, St w c most v L P ∧ RSt w rc most vr us P ∧ (∀ k, Owns c v L k → w0.heap.size ≤ k ∧ F k) ∧ ∀ k, ROwns rc vr us k → F k
  fine : Fine most P
  ok : RowsOk P
theorem Held.keeps {w0 w w' : World} {F : Nat → Prop} {c rc most : Nat} {P : List (List Row)} (h : Held w0 w F c rc most P) (hk : Keeps F w w') : Held w0 w' F c rc most P := by
  obtain ⟨v, L, vr, us, h1, h2, h3, h4⟩ := h.ex
  exact ⟨⟨v, L, vr, us, h1.touch hk (fun k hk e => e (h3 k hk).2), h2.touch hk (fun k hk e => e (h4 k hk)), h3, h4⟩, h.fine, h.ok⟩
/-! rows stay rows whose bytes can be told -/
theorem rowsOk_iff {P : List (List Row)} : RowsOk P ↔ ∀ x ∈ P.flatten, RowOk x := by
  constructor
  · intro h x hx
    obtain ⟨p, hp, hx⟩ := List.mem_flatten.1 hx
    exact h p hp x hx
  · intro h p hp x hx
    exact h x (List.mem_flatten.2 ⟨p, hp, hx⟩)
theorem rowsOk_put {most : Nat} {P : List (List Row)} (hF : Fine most P) (h : RowsOk P) {k : K} {n : Int} (hn : -9223372036854775808 ≤ n ∧ n ≤ 9223372036854775807) : RowsOk (putP most P ⟨k, n⟩).1 := by
  by_cases hk : k.length ≤ 16
  · by_cases hr : (findP P k).2.2 = true ∨ P.flatten.length < 256
    · rw [rowsOk_iff] at h ⊢
      intro x hx
      rcases ((put_ok hF (x := ⟨k, n⟩) hk hr).2.1 x).1 hx with rfl | ⟨hx, _⟩
      · exact ⟨hk, hn⟩
      · exact h x hx
    · have e : putP most P ⟨k, n⟩ = (P, 5) := put_none hk (by
        cases hc : (findP P k).2.2 with
        | false => rfl
        | true => exact absurd (.inl hc) hr) (by
        by_cases hl : P.flatten.length < 256
        · exact absurd (.inr hl) hr
        · omega)
      rw [e]
      exact h
  · rw [put_over (by show 16 < k.length; omega)]
    exact h
theorem rowsOk_del {most : Nat} {P : List (List Row)} (hF : Fine most P) (h : RowsOk P) {k : K} : RowsOk (delP most P k).1 := by
  rw [rowsOk_iff] at h ⊢
  intro x hx
  exact h x (((del_ok hF).2.2 x).1 hx).1
theorem holds_of {most : Nat} {P : List (List Row)} (hF : Fine most P) (h : RowsOk P) : holdsP most P :=
  ⟨fun x hx => (rowsOk_iff.1 h x hx).1, hF.rise, fun p hp => ⟨hF.ne p hp, hF.full p hp⟩, hF.total⟩
theorem Sr.scanK {w0 w : World} {s most : Nat} {P : List (List Row)} (h : Sr w0 w s most P) (a b : K) : Calls Tryz.prog 24 #[.pointer (some ⟨s, 0, none⟩), strV a, strV b] w fun e w' => ∃ v', e = .returned v' ∧ RowsIs w' w.heap.size v' (P.flatten.filter (scanR a b)) ∧ Below w.heap.size w w' := by
  obtain ⟨v, L, h1, h2⟩ := h.st
  exact Scan_any h1 h.fine a b
theorem filt_snoc {f : Row → Bool} {l : List Row} {i : Nat} {x : Row} (h : l[i]? = some x) : (l.take (i + 1)).filter f = (l.take i).filter f ++ (if f x then [x] else []) := by
  rw [List.take_add_one, h, List.filter_append]
  congr 1
  cases hf : f x <;> simp [hf]
theorem pagesOk_of {most : Nat} {P : List (List Row)} (hF : Fine most P) (h : RowsOk P) : PagesOk most P := ⟨fun p hp => ⟨hF.ne p hp, hF.full p hp⟩, hF.rise, hF.total, h⟩
end Go.Proofs.YtkkembbeejlomaaGreatDoor

namespace Go.Proofs.YtkkembbeejlomaaGreatDoor
open Go.RowKit Go.Shelf Go.Sort Go.Lib

theorem pair_copy {w0 w w1 w2 w3 : World} {F : Nat → Prop} {s r most c : Nat} {P : List (List Row)} {vr : Value} {us : List Value} {v : Value} {L : List Pl} {vc v3 : Value} {Lc : List Pl} (h : Pair w0 w F s r most P P) (hok : RowsOk P)
    (h1 : St w s most v L P) (h2 : RSt w r most vr us P) (h3 : ∀ k, Owns s v L k → w0.heap.size ≤ k ∧ ¬ F k ∧ ¬ ROwns r vr us k) (h4 : ∀ k, ROwns r vr us k → w0.heap.size ≤ k)
    (hc : St w1 c most vc Lc P) (hco : ∀ k, Owns c vc Lc k → w.heap.size ≤ k) (hb : Below w.heap.size w w1) (hb3 : Below w1.heap.size w1 w3) (hrow : RowIs w3 1 v3 P.length us) (hown : ∀ k, v3.ownBlock = some k → w1.heap.size ≤ k) :
    ∃ G, Pair w0 (w3.alloc (.cells #[.int .i64 most, v3] 31)) G s r most P P ∧ Held w0 (w3.alloc (.cells #[.int .i64 most, v3] 31)) G c w3.heap.size most P := by
  have hs := h.below.size
  have hs1 := hb.size
  have hs3 := hb3.size
  have hb4 := below_new (w := w3) (.cells #[.int .i64 most, v3] 31)
  have hat := alloc_at w3 (.cells #[.int .i64 most, v3] 31)
  have hbw3 : Below w.heap.size w w3 := hb.trans (hb3.mono hs1)
  have hbw : Below w.heap.size w (w3.alloc (.cells #[.int .i64 most, v3] 31)) := hbw3.trans (hb4.mono hbw3.size)
  have hr := heap_lt h2.at_.head
  have hc4 : St (w3.alloc (.cells #[.int .i64 most, v3] 31)) c most vc Lc P := (hc.below hb3).below hb4
  have husl : ∀ u ∈ us, ∀ k, blkOf u = some k → k < w.heap.size := fun u hu k hk => h2.owns_lt k (.inr (.inr ⟨u, hu, hk⟩))
  have hw4 : RSt (w3.alloc (.cells #[.int .i64 most, v3] 31)) w3.heap.size most v3 us P :=
    ⟨⟨hat, hrow.below hb4, fun i p hp => by
      obtain ⟨u, e, hu⟩ := h2.at_.each i p hp
      exact ⟨u, e, hu.below hbw⟩⟩, fun e => by have := RowIs.lt hrow _ e; omega, fun u hu k hk => ⟨by have := husl u hu k hk; omega, fun e => by have := hown k e; have := husl u hu k hk; omega⟩⟩
  refine ⟨fun k => Owns c vc Lc k ∨ ROwns w3.heap.size v3 us k, ⟨⟨v, L, vr, us, h1.below hbw, h2.below hbw, fun k hk => ⟨(h3 k hk).1, fun e => ?_, (h3 k hk).2.2⟩, h4, fun e => ?_⟩, fun k hk => hk.elim (hc4.owns_lt k) (hw4.owns_lt k), h.below.trans (hbw.mono hs), h.glob, h.fineP, h.fineQ⟩, ⟨⟨vc, Lc, v3, us, hc4, hw4, fun k hk => ⟨by have := hco k hk; omega, .inl hk⟩, fun k hk => .inr hk⟩, h.fineP, hok⟩⟩
  · have hlt := h1.owns_lt k hk
    rcases e with e | rfl | e | ⟨u, hu, e⟩
    · have := hco k e; omega
    · omega
    · have := hown k e; omega
    · exact (h3 k hk).2.2 (.inr (.inr ⟨u, hu, e⟩))
  · rcases e with e | e | e | ⟨u, hu, e⟩
    · have := hco r e; omega
    · omega
    · have := hown r e; omega
    · exact (h2.offs u hu r e).1 rfl
end Go.Proofs.YtkkembbeejlomaaGreatDoor
