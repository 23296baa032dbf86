/- trie: what the walk downwards keeps in memory between the rounds. -/
import Derived.Test.YtpploljennbpdaaDoorZTriI
import Derived.Deep.OwnRows
set_option linter.unusedSimpArgs false
set_option linter.unusedVariables false
set_option linter.unnecessarySimpa false
namespace Go.Proofs.YtpploljennbpdaaDoor
open Go.RowKit Go.Shelf

theorem RowC.setU {w : World} {z g cap p : Nat} {l : List Value} (h : RowC w z g cap l) (hp : p < l.length) (x : Value) : RowC (w.setCell ⟨g, p, none⟩ x) z g cap (l.set p x) := by
  have hle := h.le
  obtain ⟨u, hc⟩ := Option.isSome_iff_exists.1 (h.there p (by omega)).1
  refine ⟨by simp [World.setCell]; exact h.lt, by rw [List.length_set]; exact hle, h.max, fun j b hj => ?_, fun j hj => ⟨?_, ?_⟩⟩
  · rw [List.getElem?_set] at hj
    by_cases hij : p = j
    · subst hij
      rw [if_pos rfl, if_pos hp] at hj
      rw [World.cell?_setCell_same _ _ _ hc]
      exact hj
    · rw [if_neg hij] at hj
      rw [World.cell?_setCell_other _ _ _ _ (fun e => hij (by injection e))]
      exact h.holds j b hj
  · by_cases hij : p = j
    · subst hij
      rw [World.cell?_setCell_same _ _ _ hc]
      rfl
    · rw [World.cell?_setCell_other _ _ _ _ (fun e => hij (by injection e))]
      exact (h.there j hj).1
  · have := (h.there j hj).2
    simpa using this

/-- Of the walk's own: which nodes were met, what is next, marks; it began in w0; what the tree and the caller have is none of it. -/
structure DnAt (w0 : World) (Bn Bt : Nat) (v : Value) (N : List Nd) (P : List Pth) (gm Bx : Nat) (L : List Nat) (O : List Nat) (S : List Int) (W : World) (F : Nat → Prop) : Prop where
  met : RowC W 1 gm P.length (metC P O)
  box : ∃ u, W.heap[Bx]? = some (.cells #[u] 24 (0, 0)) ∧ RowIs W 1 u S.length (ints S) ∧ ∀ g, u.ownBlock = some g → w0.heap.size ≤ g ∧ g ≠ gm ∧ g ≠ Bx ∧ g ∉ L ∧ ¬ F g
  gmo : w0.heap.size ≤ gm ∧ gm ≠ Bx ∧ gm ∉ L ∧ ¬ F gm
  bxo : w0.heap.size ≤ Bx ∧ Bx ∉ L ∧ ¬ F Bx
  one : L.Nodup
  marks : ∀ r ∈ L, W.heap[r]? = some (.deferred (some [])) ∧ w0.heap.size ≤ r ∧ ¬ F r
  old : ∀ k, TrS Bn Bt v N k → W.heap[k]? = w0.heap[k]? ∧ ¬ F k
  olt : ∀ k, TrS Bn Bt v N k → k < w0.heap.size
  size : w0.heap.size ≤ W.heap.size
section
variable {w0 : World} {Bn Bt : Nat} {v : Value} {N : List Nd} {P : List Pth} {gm Bx : Nat} {L O : List Nat} {S : List Int} {W W' : World} {F F' : Nat → Prop}
/-- A round of the caller's. -/
theorem DnAt.round (h : DnAt w0 Bn Bt v N P gm Bx L O S W F) (ht : Touch F W W') (hF : ∀ k, F' k → F k ∨ W.heap.size ≤ k) : DnAt w0 Bn Bt v N P gm Bx L O S W' F' := by
  obtain ⟨u, hB, hr, ho⟩ := h.box
  have out : ∀ k, k < W.heap.size → ¬ F k → ¬ F' k := fun k hk hn e => by
    rcases hF k e with e | e
    · exact hn e
    · omega
  refine ⟨h.met.keep ht.size (ht.block _ h.met.lt h.gmo.2.2.2), ⟨u, (ht.block _ (heap_lt hB) h.bxo.2.2).trans hB, hr.touch ht (fun g hg => (ho g hg).2.2.2.2), fun g hg => ⟨(ho g hg).1, (ho g hg).2.1, (ho g hg).2.2.1, (ho g hg).2.2.2.1, out g (hr.lt g hg) (ho g hg).2.2.2.2⟩⟩,
    ⟨h.gmo.1, h.gmo.2.1, h.gmo.2.2.1, out _ h.met.lt h.gmo.2.2.2⟩, ⟨h.bxo.1, h.bxo.2.1, out _ (heap_lt hB) h.bxo.2.2⟩, h.one, fun r hr' => ?_, fun k hk => ?_, h.olt, Nat.le_trans h.size ht.size⟩
  · obtain ⟨h1, h2, h3⟩ := h.marks r hr'
    exact ⟨(ht.block r (heap_lt h1) h3).trans h1, h2, out r (heap_lt h1) h3⟩
  · obtain ⟨h1, h2⟩ := h.old k hk
    have hk' : k < W.heap.size := Nat.lt_of_lt_of_le (h.olt k hk) h.size
    exact ⟨(ht.block k hk' h2).trans h1, out k hk' h2⟩
/-- New memory. -/
theorem DnAt.grow (h : DnAt w0 Bn Bt v N P gm Bx L O S W F) (hb : Below W.heap.size W W') : DnAt w0 Bn Bt v N P gm Bx L O S W' F :=
  h.round (F' := F) (.of_below hb) (fun _ e => .inl e)
theorem DnAt.tree (h : DnAt w0 Bn Bt v N P gm Bx L O S W F) (hv : TrAt w0 v N P) : TrAt W v N P :=
  hv.kps (S := TrS Bn Bt v N) ⟨h.size, fun k hk => (h.old k hk).1⟩ (fun g hg => .inr (.inr hg))
theorem DnAt.cellT (h : DnAt w0 Bn Bt v N P gm Bx L O S W F) {u : Value} (hc : w0.cell? ⟨Bt, 0, none⟩ = some u) : W.cell? ⟨Bt, 0, none⟩ = some u :=
  (World.cell?_of_block (a := ⟨Bt, 0, none⟩) (h.old Bt (.inr (.inl rfl))).1).trans hc
/-- The box holds something else: the same row, or what a call has left of it. -/
theorem DnAt.put (h : DnAt w0 Bn Bt v N P gm Bx L O S W F) {S' : List Int} {u u' : Value} (hB : W.heap[Bx]? = some (.cells #[u] 24 (0, 0))) (ht : Touch (fun k => u.ownBlock = some k) W W') (hr : RowIs W' 1 u' S'.length (ints S')) (ho : ∀ g, u'.ownBlock = some g → u.ownBlock = some g ∨ W.heap.size ≤ g) (hF : ∀ k, F k → k < W.heap.size) :
    DnAt w0 Bn Bt v N P gm Bx L O S' (W'.setCell ⟨Bx, 0, none⟩ u') F ∧ Touch (fun k => k = Bx ∨ u.ownBlock = some k) W (W'.setCell ⟨Bx, 0, none⟩ u') := by
  obtain ⟨u2, hB2, _, hou⟩ := h.box
  rw [hB] at hB2
  have e : u = u2 := by
    have := Option.some.inj hB2
    injection this with this _ _
    exact (List.cons.inj (congrArg Array.toList this)).1
  subst e
  have hBl := heap_lt hB
  have hoB : ∀ g, u'.ownBlock = some g → w0.heap.size ≤ g ∧ g ≠ gm ∧ g ≠ Bx ∧ g ∉ L ∧ ¬ F g := fun g hg => by
    rcases ho g hg with e | e
    · exact hou g e
    · exact ⟨Nat.le_trans h.size e, (fun e2 => by have := h.met.lt; omega), (fun e2 => by omega), (fun e2 => by have := heap_lt (h.marks g e2).1; omega), (fun e2 => by have := hF g e2; omega)⟩
  have hB1 : W'.heap[Bx]? = some (.cells #[u] 24 (0, 0)) := (ht.block _ hBl (fun e => (hou _ e).2.2.1 rfl)).trans hB
  have s2 := set_at hB1 0 u'
  simp only [Array.setIfInBounds, List.size_toArray, List.length_cons, List.length_nil, Nat.zero_add, Nat.lt_add_one, dite_true, ↓reduceDIte] at s2
  have htt : Touch (fun k => k = Bx ∨ u.ownBlock = some k) W (W'.setCell ⟨Bx, 0, none⟩ u') := (ht.mono (fun k _ e => .inr e)).setCell ⟨Bx, 0, none⟩ (fun _ => .inl rfl) u'
  have keep : ∀ k, k < W.heap.size → k ≠ Bx → u.ownBlock ≠ some k → (W'.setCell ⟨Bx, 0, none⟩ u').heap[k]? = W.heap[k]? := fun k hk h1 h2 => htt.block k hk (fun e => e.elim h1 h2)
  refine ⟨⟨h.met.keep htt.size (keep gm h.met.lt h.gmo.2.1 (fun e => (hou _ e).2.1 rfl)), ⟨u', s2, hr.keep (by simp [World.setCell]) (fun g hg => Below.heap_setCell _ _ _ _ (fun e => (hoB g hg).2.2.1 e)), hoB⟩, h.gmo, h.bxo, h.one, fun r hr' => ?_, fun k hk => ?_, h.olt, Nat.le_trans h.size htt.size⟩, htt⟩
  · obtain ⟨h1, h2, h3⟩ := h.marks r hr'
    exact ⟨(keep r (heap_lt h1) (fun e => h.bxo.2.1 (by rw [← e]; exact hr')) (fun e => (hou _ e).2.2.2.1 hr')).trans h1, h2, h3⟩
  · obtain ⟨h1, h2⟩ := h.old k hk
    have hk0 := h.olt k hk
    have := h.size
    exact ⟨(keep k (by omega) (fun e => by have := h.bxo.1; omega) (fun e => by have := (hou _ e).1; omega)).trans h1, h2⟩
/-- A node was met. -/
theorem DnAt.meet (h : DnAt w0 Bn Bt v N P gm Bx L O S W F) {i : Nat} (hi : i < P.length) : DnAt w0 Bn Bt v N P gm Bx L (O ++ [i]) S (W.setCell ⟨gm, i, none⟩ (.bool true)) F ∧ Touch (fun k => k = gm) W (W.setCell ⟨gm, i, none⟩ (.bool true)) := by
  obtain ⟨u, hB, hr, ho⟩ := h.box
  have htt : Touch (fun k => k = gm) W (W.setCell ⟨gm, i, none⟩ (.bool true)) := (Touch.refl (fun k => k = gm) W).setCell ⟨gm, i, none⟩ (fun _ => rfl) _
  have hm := h.met.setU (p := i) (by rw [metC_len]; exact hi) (.bool true)
  rw [metC_set hi] at hm
  refine ⟨⟨hm, ⟨u, (htt.block _ (heap_lt hB) (fun e => h.gmo.2.1 e.symm)).trans hB, hr.touch htt (fun g hg => (ho g hg).2.1), ho⟩, h.gmo, h.bxo, h.one, fun r hr' => ?_, fun k hk => ?_, h.olt, Nat.le_trans h.size htt.size⟩, htt⟩
  · obtain ⟨h1, h2, h3⟩ := h.marks r hr'
    exact ⟨(htt.block r (heap_lt h1) (fun e => h.gmo.2.2.1 (by rw [← e]; exact hr'))).trans h1, h2, h3⟩
  · obtain ⟨h1, h2⟩ := h.old k hk
    have hk0 := h.olt k hk
    have := h.size
    exact ⟨(htt.block k (by omega) (fun e => by have := h.gmo.1; omega)).trans h1, h2⟩
/-- One more mark. -/
theorem DnAt.mark (h : DnAt w0 Bn Bt v N P gm Bx L O S W F) {D : Nat} (hD : W.heap[D]? = some (.deferred (some []))) (h0 : w0.heap.size ≤ D) (hn : D ∉ L) (hF : ¬ F D) (h1 : D ≠ gm) (h2 : D ≠ Bx) (h3 : ∀ u, W.heap[Bx]? = some (.cells #[u] 24 (0, 0)) → u.ownBlock ≠ some D) : DnAt w0 Bn Bt v N P gm Bx (D :: L) O S W F := by
  obtain ⟨u, hB, hr, ho⟩ := h.box
  have no : ∀ k, k ∉ L → k ≠ D → k ∉ D :: L := fun k h1 h2 e => (List.mem_cons.1 e).elim h2 h1
  refine ⟨h.met, ⟨u, hB, hr, fun g hg => ⟨(ho g hg).1, (ho g hg).2.1, (ho g hg).2.2.1, no g (ho g hg).2.2.2.1 (fun e => h3 u hB (by rw [← e]; exact hg)), (ho g hg).2.2.2.2⟩⟩, ⟨h.gmo.1, h.gmo.2.1, no _ h.gmo.2.2.1 (Ne.symm h1), h.gmo.2.2.2⟩, ⟨h.bxo.1, no _ h.bxo.2.1 (Ne.symm h2), h.bxo.2.2⟩, List.nodup_cons.2 ⟨hn, h.one⟩, fun r hr' => ?_, h.old, h.olt, h.size⟩
  rcases List.mem_cons.1 hr' with rfl | hr'
  · exact ⟨hD, h0, hF⟩
  · exact h.marks r hr'
end
/-- Numbers are put behind a row that a box holds. -/
def AccTo (w0 : World) (B : Nat) (u0 : Value) (l : List Int) (W : World) (F : Nat → Prop) : Prop :=
  Touch (fun k => k = B ∨ w0.heap.size ≤ k ∨ u0.ownBlock = some k) w0 W ∧ ∃ u, W.heap[B]? = some (.cells #[u] 24 (0, 0)) ∧ RowIs W 1 u l.length (ints l) ∧ (∀ g, u.ownBlock = some g → u0.ownBlock = some g ∨ w0.heap.size + 2 ≤ g) ∧ ∀ k, F k ↔ (k = B ∨ u.ownBlock = some k)
section
variable {w0 W : World} {B : Nat} {u0 : Value} {l : List Int} {F : Nat → Prop}
theorem AccTo.start (hB : w0.heap[B]? = some (.cells #[u0] 24 (0, 0))) (hr : RowIs w0 1 u0 l.length (ints l)) : AccTo w0 B u0 l w0 (fun k => k = B ∨ u0.ownBlock = some k) :=
  ⟨Touch.refl _ _, u0, hB, hr, fun g hg => .inl hg, fun k => Iff.rfl⟩
theorem AccTo.kept {W' : World} (h : AccTo w0 B u0 l W F) (ht : Touch (fun k => w0.heap.size ≤ k ∧ ¬ F k) W W') : AccTo w0 B u0 l W' F := by
  obtain ⟨h1, u, hB, hr, ho, hF⟩ := h
  exact ⟨h1.trans ht (fun k _ hk => .inr (.inl hk.1)), u, (ht.block _ (heap_lt hB) (fun e => e.2 ((hF _).2 (.inl rfl)))).trans hB, hr.touch ht (fun g hg e => e.2 ((hF g).2 (.inr hg))), ho, hF⟩
theorem AccTo.within (h : AccTo w0 B u0 l W F) (hB : B < w0.heap.size) (hu : ∀ g, u0.ownBlock = some g → g < w0.heap.size) : ∀ k, F k → k < W.heap.size ∧ (k < w0.heap.size ∨ w0.heap.size + 2 ≤ k) := fun k hk => by
  obtain ⟨h1, u, hB2, hr, ho, hF⟩ := h
  rcases (hF k).1 hk with rfl | hk
  · exact ⟨heap_lt hB2, .inl hB⟩
  · refine ⟨hr.lt k hk, ?_⟩
    rcases ho k hk with e | e
    · exact .inl (hu k e)
    · exact .inr e
theorem AccTo.push (h : AccTo w0 B u0 l W F) (hB0 : B < w0.heap.size) (huB : u0.ownBlock ≠ some B) (hl : l.length ≤ 100000) (hsz : w0.heap.size + 2 ≤ W.heap.size) (y : Int) :
    ∃ A c A' c' W', W.heap[B]? = some (.cells #[.slice A l.length c] 24 (0, 0)) ∧ (Builtin.append_ #[24, 24] 24 #[.slice A l.length c, .slice (some ⟨W.heap.size, 0, none⟩) 1 1]).run Tryd.prog (W.alloc (.cells #[.int .i64 y] 3)) = .ok (.slice A' (l.length + 1) c') W' ∧
      W'.heap[B]? = some (.cells #[.slice A l.length c] 24 (0, 0)) ∧ ∃ F', AccTo w0 B u0 (l ++ [y]) (W'.setCell ⟨B, 0, none⟩ (.slice A' (l.length + 1) c')) F' ∧ Touch F W (W'.setCell ⟨B, 0, none⟩ (.slice A' (l.length + 1) c')) ∧ ∀ k, F' k → F k ∨ W.heap.size ≤ k := by
  obtain ⟨h1, u, hB, hr, ho, hF⟩ := h
  obtain ⟨A, c, rfl, _⟩ := id hr.form
  obtain ⟨v', W', hrun, hv', ht, ho'⟩ := app_int y 24 hr (by omega)
  have eL : (l ++ [y]).length = l.length + 1 := by rw [List.length_append]; rfl
  obtain ⟨A', c', hve, _⟩ := id hv'.form
  rw [eL] at hve
  subst hve
  have hBl := heap_lt hB
  have nB : (Value.slice A l.length c).ownBlock ≠ some B := fun e => by
    rcases ho B e with h | h
    · exact huB h
    · omega
  have hB1 : W'.heap[B]? = some (.cells #[.slice A l.length c] 24 (0, 0)) := (ht.block _ hBl (fun e => nB e)).trans hB
  have s2 := set_at hB1 0 (.slice A' (l.length + 1) c')
  simp only [Array.setIfInBounds, List.size_toArray, List.length_cons, List.length_nil, Nat.zero_add, Nat.lt_add_one, dite_true, ↓reduceDIte] at s2
  have nB' : ∀ g, (Value.slice A' (l.length + 1) c').ownBlock = some g → g ≠ B := fun g hg e => by
    rcases ho' g hg with h | h
    · exact nB (e ▸ h)
    · omega
  have htF : Touch F W (W'.setCell ⟨B, 0, none⟩ (.slice A' (l.length + 1) c')) := (ht.mono (fun k _ hk => (hF k).2 (.inr hk))).setCell ⟨B, 0, none⟩ (fun _ => (hF _).2 (.inl rfl)) _
  refine ⟨A, c, A', c', W', hB, hrun, hB1, fun k => k = B ∨ (Value.slice A' (l.length + 1) c').ownBlock = some k, ⟨h1.trans htF (fun k hk0 hk => ?_), _, s2, ?_, fun g hg => ?_, fun k => Iff.rfl⟩, htF, fun k hk => ?_⟩
  · rcases (hF k).1 hk with e | e
    · exact .inl e
    · rcases ho k e with e | e
      · exact .inr (.inr e)
      · exact .inr (.inl (by omega))
  · rw [eL]
    rw [eL] at hv'
    exact hv'.keep (by simp [World.setCell]) (fun g hg => Below.heap_setCell _ _ _ _ (nB' g hg))
  · rcases ho' g hg with e | e
    · exact ho g e
    · exact .inr (by omega)
  · rcases hk with rfl | hk
    · exact .inl ((hF _).2 (.inl rfl))
    · rcases ho' k hk with e | e
      · exact .inl ((hF _).2 (.inr e))
      · exact .inr e
end
theorem DnAt.acc {w0 W W' : World} {Bn Bt : Nat} {v : Value} {N : List Nd} {P : List Pth} {gm Bx : Nat} {L O : List Nat} {S l : List Int} {F Fi : Nat → Prop} {u : Value} (h : DnAt w0 Bn Bt v N P gm Bx L O S W F) (hB : W.heap[Bx]? = some (.cells #[u] 24 (0, 0))) (ha : AccTo W Bx u l W' Fi) (hF : ∀ k, F k → k < W.heap.size) :
    DnAt w0 Bn Bt v N P gm Bx L O l W' F ∧ Touch (fun k => w0.heap.size ≤ k ∧ ¬ F k) W W' := by
  obtain ⟨u2, hB2, _, hou⟩ := h.box
  rw [hB] at hB2
  have e : u = u2 := by
    have := Option.some.inj hB2
    injection this with this _ _
    exact (List.cons.inj (congrArg Array.toList this)).1
  subst e
  obtain ⟨ht, u', hB', hr', ho', _⟩ := ha
  have keep : ∀ k, k < W.heap.size → k ≠ Bx → u.ownBlock ≠ some k → W'.heap[k]? = W.heap[k]? := fun k hk h1 h2 => ht.block k hk (fun e => by
    rcases e with e | e | e
    · exact h1 e
    · omega
    · exact h2 e)
  refine ⟨⟨h.met.keep ht.size (keep gm h.met.lt h.gmo.2.1 (fun e => (hou _ e).2.1 rfl)), ⟨u', hB', hr', fun g hg => ?_⟩, h.gmo, h.bxo, h.one, fun r hr => ?_, fun k hk => ?_, h.olt, Nat.le_trans h.size ht.size⟩, ht.mono (fun k hk0 hk => ?_)⟩
  · rcases ho' g hg with e | e
    · exact hou g e
    · have := h.size
      have := heap_lt hB
      exact ⟨by omega, (fun e2 => by have := h.met.lt; omega), by omega, (fun e2 => by have := heap_lt (h.marks g e2).1; omega), (fun e2 => by have := hF g e2; omega)⟩
  · obtain ⟨h1, h2, h3⟩ := h.marks r hr
    exact ⟨(keep r (heap_lt h1) (fun e => h.bxo.2.1 (by rw [← e]; exact hr)) (fun e => (hou _ e).2.2.2.1 hr)).trans h1, h2, h3⟩
  · obtain ⟨h1, h2⟩ := h.old k hk
    have hk0 := h.olt k hk
    have := h.size
    exact ⟨(keep k (by omega) (fun e => by have := h.bxo.1; omega) (fun e => by have := (hou _ e).1; omega)).trans h1, h2⟩
  · rcases hk with rfl | hk | hk
    · exact ⟨h.bxo.1, h.bxo.2.2⟩
    · exact ⟨Nat.le_trans h.size hk, fun e => by have := hF k e; omega⟩
    · exact ⟨(hou k hk).1, (hou k hk).2.2.2.2⟩
end Go.Proofs.YtpploljennbpdaaDoor
