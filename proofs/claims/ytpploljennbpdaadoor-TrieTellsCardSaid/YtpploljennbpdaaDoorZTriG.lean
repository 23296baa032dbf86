/- A range over a sequence that keeps memory of its own between the rounds: the caller tells which blocks are its own, the sequence keeps off them, and the caller off all others. Nothing here speaks of the program's packages. -/
import Derived.Test.YtpploljennbpdaaDoorZTriF
set_option linter.unusedSimpArgs false
set_option linter.unusedVariables false
set_option linter.unnecessarySimpa false
namespace Go.Proofs.YtpploljennbpdaaDoor
open Go.RowKit Go.Shelf

section
variable {P : Program}
/-- A sequence whose caller owns blocks, others from round to round: what is not the caller's own lies, behind a round, as it lay; the sequence turns nothing that is the caller's, and nothing that was there ahead of it. -/
def SeqFoot {α : Type} (P : Program) (n : Nat) (g : Nat) (lb : Array Value) (encs : α → Array Value) (S Sp : List α → Prop) (N : Nat) (D : Nat → Prop) (w : World) : Prop :=
  ∀ (l : Nat) (J Jx : List α → World → (Nat → Prop) → Prop) (W : World), Below w.heap.size w W →
    (∀ s W1 W2 F, J s W1 F → Touch (fun k => W.heap.size ≤ k ∧ ¬ F k) W1 W2 → J s W2 F) →
    (∀ s W1 F, J s W1 F → ∀ k, F k → k < W1.heap.size) →
    (∀ s W1 W2 F, Jx s W1 F → Touch (fun k => W.heap.size ≤ k ∧ ¬ F k) W1 W2 → Jx s W2 F) →
    (∀ pre x W1 F, J pre W1 F → pre.length < N → YieldAt Fence.wide (n - 1) P l (encs x) W1 fun e W' =>
      (e = .returned (.bool true) ∧ ∃ F', J (pre ++ [x]) W' F' ∧ Touch F W1 W' ∧ ∀ k, F' k → F k ∨ W1.heap.size ≤ k) ∨ (e = .returned (.bool false) ∧ ∃ F', Jx (pre ++ [x]) W' F' ∧ Touch F W1 W' ∧ ∀ k, F' k → F k ∨ W1.heap.size ≤ k)) →
    ∀ F0, J [] W F0 → (∀ k, D k → ¬ F0 k) →
    CallsIn Fence.wide n P g (#[.func (.yield l) #[] #[]] ++ lb) W fun e W' => (∃ v, e = .returned v) ∧ ((∃ xs, S xs ∧ ∃ F, J xs W' F) ∨ (∃ pre, Sp pre ∧ ∃ F, Jx pre W' F))
/-- How the body of a round may be left. -/
def footPost {α : Type} (I : List α → World → (Nat → Prop) → Prop) (Ix : Code → List α → World → (Nat → Prop) → Prop) (F : Nat → Prop) (xs : List α) (W : World) : Exit → Act → World → Prop
  | .normal, _, W' => ∃ F', I xs W' F' ∧ Touch F W W' ∧ ∀ k, F' k → F k ∨ W.heap.size ≤ k
  | .ret, _, W' => ∃ F', Ix .ret xs W' F' ∧ Touch F W W' ∧ ∀ k, F' k → F k ∨ W.heap.size ≤ k
  | .exit id, _, W' => ∃ F', Ix (.exit id) xs W' F' ∧ Touch F W W' ∧ ∀ k, F' k → F k ∨ W.heap.size ≤ k
  | .goto t, _, W' => ∃ F', Ix (.goto t) xs W' F' ∧ Touch F W W' ∧ ∀ k, F' k → F k ∨ W.heap.size ≤ k
  | .panic _, _, _ => False
  | .outgrown, _, _ => False
theorem Touch.putObj {S : Nat → Prop} {a b : World} (h : Touch S a b) (l : Nat) (o : Obj) (hl : l < a.heap.size → S l) : Touch S a (b.putObj l o) :=
  h.grown (row := some l) (grownBy_putObj' b l o) (fun k e hk => by cases e; exact hl hk)
theorem wpIn_rangeFunc_foot {α : Type} {n : Nat} {g : Operand} {ps : Array Tmp} {assign body : Code} {Q : Exit → Act → World → Prop} {a : Act} {w : World}
    (h1 : 1 ≤ n) {gf : Nat} {lb : Array Value} (hg : a.eval g = .func (.func gf) #[] lb) (eg : ∀ args w, (callFunc gf args).run P w = .ok (.enter gf args) w)
    {encs : α → Array Value} {S Sp : List α → Prop} {N : Nat} {D : Nat → Prop} {w0 : World} (hseq : SeqFoot P (n - 1) gf lb encs S Sp N D w0) (hb0 : Below w0.heap.size w0 w) (hD : ∀ k, D k → k < w.heap.size) (hps : ∀ x, (encs x).size = ps.size)
    (I : List α → World → (Nat → Prop) → Prop) (Ix : Code → List α → World → (Nat → Prop) → Prop)
    (hI : ∀ s W W' F, I s W F → Touch (fun k => w.heap.size ≤ k ∧ ¬ F k) W W' → I s W' F)
    (hIF : ∀ s W F, I s W F → ∀ k, F k → k < W.heap.size ∧ (k < w.heap.size ∨ w.heap.size + 2 ≤ k))
    (hIx : ∀ c s W W' F, Ix c s W F → Touch (fun k => w.heap.size ≤ k ∧ ¬ F k) W W' → Ix c s W' F)
    (hIxF : ∀ c s W F, Ix c s W F → ∀ k, F k → k < W.heap.size ∧ (k < w.heap.size ∨ w.heap.size + 2 ≤ k)) (F0 : Nat → Prop) (h0 : I [] w F0) (hF0 : ∀ k, D k → ¬ F0 k) (a₁ : α → Act)
    (hassign : ∀ (l : Nat) (x : α) (W : World) (K : Act → World → Prop), K (a₁ x) W →
      assign.wpIn (Fence.wide.inRound l) (n - 1 - 1) P (Exit.then K (fun _ _ _ => False)) { tmps := (ps.zip (encs x)).foldl (fun t (p, v) => t.setIfInBounds p v) a.tmps, defers := [] } W)
    (hbody : ∀ (l : Nat) (pre : List α) (x : α) (W : World) (F : Nat → Prop), I pre W F → pre.length < N → w.heap.size + 2 ≤ W.heap.size → body.wpIn (Fence.wide.inRound l) (n - 1 - 1) P (footPost I Ix F (pre ++ [x]) W) (a₁ x) W)
    (hdone : ∀ (D : Nat) (xs : List α) (W : World) (F : Nat → Prop), w.heap.size ≤ D → ¬ F D → S xs → I xs W F → W.heap[D]? = some (.deferred (some [])) → Q .normal { a with defers := { target := .collected D, args := #[] } :: a.defers } W)
    (hstop : ∀ (D : Nat) (c : Code) (pre : List α) (W : World) (F : Nat → Prop), w.heap.size ≤ D → ¬ F D → Sp pre → Ix c pre W F → W.heap[D]? = some (.deferred (some [])) → c.wpIn Fence.wide n P Q { a with defers := { target := .collected D, args := #[] } :: a.defers } W) :
    (Code.rangeFunc g ps assign body).wpIn Fence.wide n P Q a w := by
  refine wpIn_rangeFunc fun fn hfn => ?_
  let mk : LoopState → Option Code → Loop := fun st pe => { state := st, pending := pe, fn, tmps := a.tmps, params := ps, assign, body, defers := w.heap.size }
  obtain ⟨W1, hW1⟩ : ∃ W1, (w.alloc (.deferred (some []))).alloc (.loop (mk .ready none)) = W1 := ⟨_, rfl⟩
  have hsz : W1.heap.size = w.heap.size + 2 := by rw [← hW1, asz, asz]
  have hL : W1.heap[w.heap.size + 1]? = some (.loop (mk .ready none)) := by
    rw [← hW1]
    have := alloc_at (w.alloc (.deferred (some []))) (.loop (mk .ready none))
    rwa [asz] at this
  have hDd : W1.heap[w.heap.size]? = some (.deferred (some [])) := by
    rw [← hW1, Below.heap_alloc _ _ _ (by rw [asz]; omega)]
    exact alloc_at w _
  have hbw : Below w.heap.size w W1 := by rw [← hW1]; exact (below_new _).trans ((below_new _).mono (by rw [asz]; omega))
  have nF : ∀ {s W F}, I s W F → ¬ F w.heap.size ∧ ¬ F (w.heap.size + 1) := fun h => ⟨fun e => by have := (hIF _ _ _ h _ e).2; omega, fun e => by have := (hIF _ _ _ h _ e).2; omega⟩
  have nFx : ∀ {c s W F}, Ix c s W F → ¬ F w.heap.size ∧ ¬ F (w.heap.size + 1) := fun h => ⟨fun e => by have := (hIxF _ _ _ _ h _ e).2; omega, fun e => by have := (hIxF _ _ _ _ h _ e).2; omega⟩
  have putx : ∀ {c s W F} (o : Obj), Ix c s W F → Ix c s (W.putObj (w.heap.size + 1) o) F := fun o h => hIx _ _ _ _ _ h ((Touch.refl _ _).putObj _ o (fun _ => ⟨by omega, (nFx h).2⟩))
  have put : ∀ {s W F} (o : Obj), I s W F → I s (W.putObj (w.heap.size + 1) o) F := fun o h => hI _ _ _ _ h ((Touch.refl _ _).putObj _ o (fun _ => ⟨by omega, (nF h).2⟩))
  refine ⟨w.heap.size + 1, [{ target := .collected w.heap.size, args := #[] }], W1, { target := .fn (.func gf) lb, args := #[.func (.yield (w.heap.size + 1)) #[] #[]] }, W1, gf,
    #[.func (.yield (w.heap.size + 1)) #[] #[]] ++ lb, W1, ?_, ?_, (fun _ _ => trivial), ?_, fun _ => h1, ?_⟩
  · rw [← hW1]; exact run_enterLoop_outer fn a.tmps ps assign body
  · simp only [resolve, hg]
    simp [go_sem]
  · simp [invoke, go_sem, eg]
  · refine (hseq (w.heap.size + 1)
      (fun pre W F => ∃ Fi, I pre W Fi ∧ W.heap[w.heap.size + 1]? = some (.loop (mk .ready none)) ∧ W.heap[w.heap.size]? = some (.deferred (some [])) ∧ ∀ k, F k ↔ (Fi k ∨ k = w.heap.size + 1 ∨ k = w.heap.size))
      (fun pre W F => ∃ c Fi, Ix c pre W Fi ∧ W.heap[w.heap.size + 1]? = some (.loop (mk .done (some c))) ∧ W.heap[w.heap.size]? = some (.deferred (some [])) ∧ ∀ k, F k ↔ (Fi k ∨ k = w.heap.size + 1 ∨ k = w.heap.size))
      W1 (hb0.trans (hbw.mono hb0.size)) ?_ ?_ ?_ ?_ (fun k => F0 k ∨ k = w.heap.size + 1 ∨ k = w.heap.size) ⟨F0, hI _ _ _ _ h0 (.of_below hbw), hL, hDd, fun k => Iff.rfl⟩ ?_).mono ?_
    · rintro s A B F ⟨Fi, hi, hl, hd, hF⟩ ht
      refine ⟨Fi, hI _ _ _ _ hi (ht.mono fun k _ hk => ⟨by have := hk.1; omega, fun e => hk.2 ((hF k).2 (.inl e))⟩), ?_, ?_, hF⟩
      · exact (ht.block _ (heap_lt hl) (fun e => e.2 ((hF _).2 (.inr (.inl rfl))))).trans hl
      · exact (ht.block _ (heap_lt hd) (fun e => e.2 ((hF _).2 (.inr (.inr rfl))))).trans hd
    · rintro s A F ⟨Fi, hi, hl, hd, hF⟩ k hk
      rcases (hF k).1 hk with h | rfl | rfl
      · exact (hIF _ _ _ hi k h).1
      · exact heap_lt hl
      · exact heap_lt hd
    · rintro s A B F ⟨c, Fi, hi, hl, hd, hF⟩ ht
      refine ⟨c, Fi, hIx _ _ _ _ _ hi (ht.mono fun k _ hk => ⟨by have := hk.1; omega, fun e => hk.2 ((hF k).2 (.inl e))⟩), ?_, ?_, hF⟩
      · exact (ht.block _ (heap_lt hl) (fun e => e.2 ((hF _).2 (.inr (.inl rfl))))).trans hl
      · exact (ht.block _ (heap_lt hd) (fun e => e.2 ((hF _).2 (.inr (.inr rfl))))).trans hd
    · rintro pre x W F ⟨Fi, hi, hl, hd, hF⟩ hlen
      have hlt := heap_lt hl
      refine ⟨fn, _, assign, body, run_yield hl (hps x), roundIn_of_wpIn hfn (hassign _ x W _ ⟨_, run_beginRound hl rfl, ?_⟩)⟩
      have hl2 : (W.putObj (w.heap.size + 1) (.loop (mk .busy none))).heap[w.heap.size + 1]? = some (.loop (mk .busy none)) := World.putObj_heap_same hlt
      have hd2 : (W.putObj (w.heap.size + 1) (.loop (mk .busy none))).heap[w.heap.size]? = some (.deferred (some [])) := (World.putObj_heap_other (by omega)).trans hd
      have hi2 := put (.loop (mk .busy none)) hi
      refine wpIn_mono (hbody _ pre x _ Fi hi2 hlen (by rw [World.putObj_size]; omega)) ?_
      have ends : ∀ (jump : Option Code) (W3 : World), Touch Fi (W.putObj (w.heap.size + 1) (.loop (mk .busy none))) W3 →
          (Instr.endRound (w.heap.size + 1) jump).run P W3 = .ok (.bool jump.isNone) (W3.putObj (w.heap.size + 1) (.loop (mk (if jump.isNone then .ready else .done) jump))) ∧
          W3.heap[w.heap.size + 1]? = some (.loop (mk .busy none)) ∧
          (W3.putObj (w.heap.size + 1) (.loop (mk (if jump.isNone then .ready else .done) jump))).heap[w.heap.size + 1]? = some (.loop (mk (if jump.isNone then .ready else .done) jump)) ∧
          (W3.putObj (w.heap.size + 1) (.loop (mk (if jump.isNone then .ready else .done) jump))).heap[w.heap.size]? = some (.deferred (some [])) := fun jump W3 ht => by
        have hl3 := (ht.block _ (heap_lt hl2) (nF hi2).2).trans hl2
        have hd3 := (ht.block _ (heap_lt hd2) (nF hi2).1).trans hd2
        exact ⟨run_endRound jump hl3, hl3, World.putObj_heap_same (heap_lt hl3), (World.putObj_heap_other (by omega)).trans hd3⟩
      have whole : ∀ {W3 : World} (o : Obj), Touch Fi (W.putObj (w.heap.size + 1) (.loop (mk .busy none))) W3 → Touch F W (W3.putObj (w.heap.size + 1) o) := fun o ht =>
        (((Touch.refl _ W).putObj _ _ (fun _ => (hF _).2 (.inr (.inl rfl)))).trans (ht.mono (fun k _ hk => (hF k).2 (.inl hk))) (fun _ _ h => h)).putObj _ _ (fun _ => (hF _).2 (.inr (.inl rfl)))
      have subs : ∀ {F' : Nat → Prop}, (∀ k, F' k → Fi k ∨ (W.putObj (w.heap.size + 1) (.loop (mk .busy none))).heap.size ≤ k) → ∀ k, (F' k ∨ k = w.heap.size + 1 ∨ k = w.heap.size) → F k ∨ W.heap.size ≤ k := fun hF' k h => by
        rcases h with h | h
        · rcases hF' k h with h | h
          · exact .inl ((hF k).2 (.inl h))
          · exact .inr (by rwa [World.putObj_size] at h)
        · exact .inl ((hF k).2 (.inr h))
      rintro e a3 W3 hp
      cases e with
      | normal =>
        obtain ⟨F', hi3, ht, hF'⟩ := hp
        obtain ⟨hr, _, hl4, hd4⟩ := ends none W3 ht
        exact ⟨_, _, hr, .inl ⟨rfl, (fun k => F' k ∨ k = w.heap.size + 1 ∨ k = w.heap.size), ⟨F', put _ hi3, hl4, hd4, fun k => Iff.rfl⟩, whole _ ht, subs hF'⟩⟩
      | ret =>
        obtain ⟨F', hi3, ht, hF'⟩ := hp
        obtain ⟨hr, _, hl4, hd4⟩ := ends (some .ret) W3 ht
        exact ⟨_, _, hr, .inr ⟨rfl, (fun k => F' k ∨ k = w.heap.size + 1 ∨ k = w.heap.size), ⟨.ret, F', putx _ hi3, hl4, hd4, fun k => Iff.rfl⟩, whole _ ht, subs hF'⟩⟩
      | exit id =>
        obtain ⟨F', hi3, ht, hF'⟩ := hp
        obtain ⟨hr, _, hl4, hd4⟩ := ends (some (.exit id)) W3 ht
        exact ⟨_, _, hr, .inr ⟨rfl, (fun k => F' k ∨ k = w.heap.size + 1 ∨ k = w.heap.size), ⟨.exit id, F', putx _ hi3, hl4, hd4, fun k => Iff.rfl⟩, whole _ ht, subs hF'⟩⟩
      | goto t =>
        obtain ⟨F', hi3, ht, hF'⟩ := hp
        obtain ⟨hr, _, hl4, hd4⟩ := ends (some (.goto t)) W3 ht
        exact ⟨_, _, hr, .inr ⟨rfl, (fun k => F' k ∨ k = w.heap.size + 1 ∨ k = w.heap.size), ⟨.goto t, F', putx _ hi3, hl4, hd4, fun k => Iff.rfl⟩, whole _ ht, subs hF'⟩⟩
      | panic ch => exact hp.elim
      | outgrown => exact hp.elim
    · rintro k hk (h | rfl | rfl)
      · exact hF0 k hk h
      · have := hD _ hk; omega
      · have := hD _ hk; omega
    · rintro e W2 ⟨⟨v, rfl⟩, (⟨xs, hS, F, Fi, hi, hl, hd, hF⟩ | ⟨pre, hSp, F, c, Fi, hx, hl, hd, hF⟩)⟩
      · exact ⟨none, _, run_endLoop hl (by simp [mk]), hdone _ xs _ Fi (Nat.le_refl _) (nF hi).1 hS (put _ hi) ((World.putObj_heap_other (by omega)).trans hd)⟩
      · exact ⟨some c, _, run_endLoop hl (by simp [mk]), hstop _ c pre _ Fi (Nat.le_refl _) (nFx hx).1 hSp (putx _ hx) ((World.putObj_heap_other (by omega)).trans hd)⟩
end
end Go.Proofs.YtpploljennbpdaaDoor
