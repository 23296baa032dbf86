/- order: what Waits holds while it goes on: places by sites, who was met, who is ahead, edges. -/
import Derived.Test.YtlbhpeeggbfcpaaZOrdG
set_option linter.unusedSimpArgs false
set_option linter.unusedVariables false
set_option linter.unnecessarySimpa false
namespace Go.Proofs.Ytlbhpeeggbfcpaa
open Go.RowKit
open Go.Maps (Keyed)

theorem wpList_run_make {P : Program} (w : World) {ops : Array Oper} {rest : List Oper} {o : Oper} {a : Act} {Q : Exit → Act → World → Prop} (hg : o.guard = none) (l c : Operand) (T : TypeId) (hop : o.op = Op.makeSlice T l c) {x y v : Value} {w' : World} (hl : a.eval l = x) (hc : a.eval c = y)
    (hr : (Instr.makeSlice T x y).run P w = .ok v w') (hK : wpList P ops Q rest (a.put o.dst v) w') : wpList P ops Q (o :: rest) a w := by
  refine wpList_plain hg fun K hK' => ?_
  unfold Oper.wp
  simp [execOp, hop, hl, hc, hr, Result.andThen]
  exact hK' _ _ hK
theorem make_ints (w : World) (n : Nat) (hn : n ≤ 1000000) : ∃ w', (Instr.makeSlice 30 (.int .i64 (n : Int)) (.int .i64 (n : Int))).run Try.prog w = .ok (.slice (some ⟨w.heap.size, 0, none⟩) n n) w' ∧ RowIs w' 1 (.slice (some ⟨w.heap.size, 0, none⟩) n n) n (ints (List.replicate n 0)) ∧ Below w.heap.size w w' ∧ w'.heap.size = w.heap.size + 1 := by
  obtain ⟨i0, hi, hz0, hz1, hz2⟩ := info_parts info3
  have hrun := run_make (P := Try.prog) w 30 3 i0 _ Try.underlying30 hi hz0 .i64 .i64 (n : Int) (n : Int) (by omega) (by omega) (by rw [hz2]; omega) (by omega)
  rw [hz1, Int.toNat_natCast, Nat.mul_one] at hrun
  have hM : (madeCells (Value.cells (.int .i64 0)) n) = (ints (List.replicate n 0)).toArray := by
    apply Array.ext
    · rw [size_madeCells]; simp [ints]
    · intro i h1 h2
      have h3 : i < n := by rw [size_madeCells] at h1; exact h1
      simp only [madeCells, ints, Array.getElem_map, List.getElem_toArray, List.getElem_map, List.getElem_replicate, Array.getElem_range]
      have : i % (Value.cells (.int .i64 0)).size = 0 := by show i % 1 = 0; omega
      rw [this]
      rfl
  rw [hM] at hrun
  have hat := alloc_at w (.cells (ints (List.replicate n 0)).toArray 3)
  refine ⟨_, hrun, .inr ⟨_, n, rfl, by rw [ints_len, List.length_replicate, Nat.mul_one], Nat.le_refl _, heap_lt hat, by rw [ints_len, List.length_replicate, Nat.mul_one]; exact Nat.le_refl _, by unfold maxLen; omega, fun j b hj => ?_, fun j hj => ⟨?_, free0 hat j⟩⟩, below_new _, asz _ _⟩
  · rw [cell_of hat]; simpa using hj
  · rw [cell_of hat, Array.getElem?_eq_getElem (by rw [List.size_toArray, ints_len, List.length_replicate]; omega)]; rfl
/-- What stands under a number, and another list put there: which rows there are behind it. -/
theorem bump2 {w : World} {b0 g clock : Nat} {G : Gr} {L : List MapEntry} (h : GAt Try.prog 3 w b0 g G L clock) {x : Int} (hx : InR64 x) (hb0 : b0 ≤ w.heap.size) :
    ∃ v0, RowIs w 1 v0 (at_ G x).length (ints (at_ G x)) ∧ (∀ W : World, W.heap[g]? = w.heap[g]? → (Instr.lookup 64 (.map (some g)) (.int .i64 x) false).run Try.prog W = .ok v0 W) ∧ (∀ k, v0.ownBlock = some k → ∃ e ∈ L, e.val.ownBlock = some k) ∧
      ∀ (w1 : World) (v : Value) (l' : List Int), Touch (fun k => v0.ownBlock = some k) w w1 → RowIs w1 1 v l'.length (ints l') → (∀ k, v.ownBlock = some k → v0.ownBlock = some k ∨ w.heap.size ≤ k) → ∃ w2 L' clock', (Instr.mapUpdate 64 (.map (some g)) (.int .i64 x) v).run Try.prog w1 = .ok () w2 ∧ GAt Try.prog 3 w2 b0 g (putK G x l') L' clock' ∧ Touch (fun k => k = g) w1 w2 ∧ ∀ e ∈ L', ∀ k, e.val.ownBlock = some k → (∃ f ∈ L, f.val.ownBlock = some k) ∨ v.ownBlock = some k := by
  have KK := keyedI
  have hM := Try.underlying64
  have hx := keyI hx
  rcases h.cases x with ⟨j, e, l, hj, he, hg⟩ | hn
  · obtain ⟨ha, hk⟩ := at_hit h.nodup hg
    obtain ⟨_, hr⟩ := h.each j e _ hj hg
    rw [ha]
    refine ⟨e.val, hr, fun W hW => (h.map.keep hW).look_hit KK hM hx hj he false, fun k hk => ⟨e, List.mem_of_getElem? hj, hk⟩, fun w1 v l' ht hv hb => ?_⟩
    obtain ⟨r1, r2⟩ := h.put_hit KK hM hx hj he hg ht.size (fun k hk hne => ht.block k hk hne) hv hb hb0
    refine ⟨_, _, _, r1, r2, (Touch.refl (fun k => k = g) w1).set g _ (fun _ => rfl), fun f hf k hk => ?_⟩
    rcases List.mem_or_eq_of_mem_set hf with h1 | rfl
    · exact .inl ⟨f, h1, hk⟩
    · exact .inr hk
  · obtain ⟨hk, ha, _⟩ := h.miss hn
    rw [ha]
    refine ⟨.slice none 0 0, .inl ⟨rfl, rfl, rfl⟩, fun W hW => (h.map.keep hW).look_miss KK hM (zeroI W) hx hn false, (fun k e => by cases e), fun w1 v l' ht hv hb => ?_⟩
    have hb1 : Below w.heap.size w w1 := ht.below (fun k e => by cases e) (Nat.le_refl _)
    obtain ⟨r1, r2⟩ := h.put_miss KK hM hx hn hb1 hv (fun k e => (hb k e).elim (fun e => by cases e) id) hb0
    refine ⟨_, _, _, r1, r2, (Touch.refl (fun k => k = g) w1).set g _ (fun _ => rfl), fun f hf k hk => ?_⟩
    rcases List.mem_append.1 hf with h1 | h1
    · exact .inl ⟨f, h1, hk⟩
    · rw [List.mem_singleton.1 h1] at hk
      exact .inr hk
/-- All that Waits has made since w1: the map of places, who was met, the edges, those ahead. -/
structure WaI (w1 wr : World) (g mb : Nat) (G : Gr) (L : List MapEntry) (clock : Nat) (M : List Int) (av : Value) (E : List (Int × Int)) (hv : Value) (A : List Int) : Prop where
  gt : GAt Try.prog 3 wr w1.heap.size g G L clock
  mt : RowIs wr 1 (.slice (some ⟨mb, 0, none⟩) M.length M.length) M.length (ints M)
  al : RowIs wr 2 av E.length (edgesC E)
  hd : RowIs wr 1 hv A.length (ints A)
  bel : Below w1.heap.size w1 wr
  fm : w1.heap.size ≤ mb ∧ mb ≠ g
  fa : ∀ b, av.ownBlock = some b → w1.heap.size ≤ b ∧ b ≠ g ∧ b ≠ mb
  fh : ∀ b, hv.ownBlock = some b → w1.heap.size ≤ b ∧ b ≠ g ∧ b ≠ mb ∧ av.ownBlock ≠ some b
  rows : ∀ e ∈ L, ∀ k, e.val.ownBlock = some k → k ≠ mb ∧ av.ownBlock ≠ some k ∧ hv.ownBlock ≠ some k
/-- A block that is none of its own. -/
structure Off (g mb : Nat) (L : List MapEntry) (av hv : Value) (b : Nat) : Prop where
  g : b ≠ g
  mb : b ≠ mb
  av : av.ownBlock ≠ some b
  hv : hv.ownBlock ≠ some b
  rows : ∀ e ∈ L, e.val.ownBlock ≠ some b
section
variable {w1 wr w2 w3 w4 : World} {g mb clock : Nat} {G : Gr} {L : List MapEntry} {M : List Int} {av hv : Value} {E : List (Int × Int)} {A : List Int}
theorem WaI.below (h : WaI w1 wr g mb G L clock M av E hv A) (hb : Below wr.heap.size wr w2) : WaI w1 w2 g mb G L clock M av E hv A :=
  ⟨h.gt.below hb, h.mt.below hb, h.al.below hb, h.hd.below hb, h.bel.trans (hb.mono h.bel.size), h.fm, h.fa, h.fh, h.rows⟩
theorem WaI.fresh (h : WaI w1 wr g mb G L clock M av E hv A) : WaI w1 wr g mb G L clock M av E (.slice none 0 0) [] :=
  ⟨h.gt, h.mt, h.al, RowIs.nil _ _, h.bel, h.fm, h.fa, (fun b e => by cases e), fun e he k hk => ⟨(h.rows e he k hk).1, (h.rows e he k hk).2.1, fun e => by cases e⟩⟩
theorem WaI.rlt (h : WaI w1 wr g mb G L clock M av E hv A) : ∀ e ∈ L, ∀ k, e.val.ownBlock = some k → k < wr.heap.size := fun e he k hk => by
  obtain ⟨j, hj⟩ := List.getElem?_of_mem he
  have h1 : j < G.length := by rw [← h.gt.len]; exact (List.getElem?_eq_some_iff.1 hj).1
  exact (h.gt.each j e _ hj (List.getElem?_eq_getElem h1)).2.lt k hk
/-- A place is put behind those of a site. -/
theorem WaI.put (h : WaI w1 wr g mb G L clock M av E hv A) {s i : Int} (hs : InR64 s) (hl : (at_ G s).length ≤ 1000000) :
    ∃ v0, RowIs wr 1 v0 (at_ G s).length (ints (at_ G s)) ∧ (∀ W : World, W.heap[g]? = wr.heap[g]? → (Instr.lookup 64 (.map (some g)) (.int .i64 s) false).run Try.prog W = .ok v0 W) ∧ (∀ k, v0.ownBlock = some k → k ≠ mb ∧ k ≠ g ∧ av.ownBlock ≠ some k ∧ hv.ownBlock ≠ some k) ∧
      ∀ W : World, Below wr.heap.size wr W → ∃ v' w' w2 L' clock', (Builtin.append_ #[30, 30] 30 #[v0, .slice (some ⟨W.heap.size, 0, none⟩) 1 1]).run Try.prog (W.alloc (.cells #[.int .i64 i] 3)) = .ok v' w' ∧ (Instr.mapUpdate 64 (.map (some g)) (.int .i64 s) v').run Try.prog w' = .ok () w2 ∧ WaI w1 w2 g mb (putK G s (at_ G s ++ [i])) L' clock' M av E hv A ∧ ∀ b, b < wr.heap.size → Off g mb L av hv b → w2.heap[b]? = W.heap[b]? ∧ Off g mb L' av hv b := by
  obtain ⟨v0, hv0, hlk, ho0, hput⟩ := bump2 h.gt hs h.bel.size
  refine ⟨v0, hv0, hlk, fun k hk => ?_, fun W hW => ?_⟩
  · obtain ⟨e, he, hk⟩ := ho0 k hk
    obtain ⟨a, b, c⟩ := h.rows e he k hk
    exact ⟨a, (h.gt.own e he k hk).2, b, c⟩
  · obtain ⟨v', w', hr, hrow, ht, ho⟩ := app_int (w := W) i 30 (hv0.below hW) (by omega)
    have ht' : Touch (fun k => v0.ownBlock = some k) wr w' := Touch.ahead hW ht
    have ho' : ∀ k, v'.ownBlock = some k → v0.ownBlock = some k ∨ wr.heap.size ≤ k := fun k hk => (ho k hk).imp id (fun e => Nat.le_trans hW.size e)
    obtain ⟨w2, L', clock', hr2, hg2, ht2, hL2⟩ := hput w' v' _ ht' hrow ho'
    have hT : Touch (fun k => v0.ownBlock = some k ∨ k = g) wr w2 := (ht'.mono (fun _ _ e => .inl e)).trans ht2 (fun _ _ e => .inr e)
    have hgl := h.gt.map.lt
    have gb := h.gt.gb
    have hv0m : ∀ k, v0.ownBlock = some k → ∃ e ∈ L, e.val.ownBlock = some k := ho0
    have mlt : mb < wr.heap.size := h.mt.lt mb rfl
    refine ⟨v', w', w2, L', clock', hr, hr2, ⟨hg2, h.mt.touch hT (fun b hb e => ?_), h.al.touch hT (fun b hb e => ?_), h.hd.touch hT (fun b hb e => ?_), h.bel.trans (hT.below (fun b e => ?_) h.bel.size), h.fm, h.fa, h.fh, fun e he k hk => ?_⟩, fun b hb hoff => ⟨?_, hoff.g, hoff.mb, hoff.av, hoff.hv, fun e he hk => ?_⟩⟩
    · have hb : mb = b := Option.some.inj hb
      rcases e with e | e
      · obtain ⟨f, hf, e⟩ := hv0m b e
        exact (h.rows f hf b e).1 hb.symm
      · exact h.fm.2 (by rw [hb, e])
    · rcases e with e | e
      · obtain ⟨f, hf, e⟩ := hv0m b e
        exact (h.rows f hf b e).2.1 hb
      · exact (h.fa b hb).2.1 e
    · rcases e with e | e
      · obtain ⟨f, hf, e⟩ := hv0m b e
        exact (h.rows f hf b e).2.2 hb
      · exact (h.fh b hb).2.1 e
    · rcases e with e | e
      · obtain ⟨f, hf, e⟩ := hv0m b e
        exact (h.gt.own f hf b e).1
      · rw [e]; exact gb
    · rcases hL2 e he k hk with ⟨f, hf, e1⟩ | e1
      · exact h.rows f hf k e1
      · rcases ho' k e1 with e2 | e2
        · obtain ⟨f, hf, e3⟩ := hv0m k e2
          exact h.rows f hf k e3
        · exact ⟨by omega, fun e3 => by have := h.al.lt k e3; omega, fun e3 => by have := h.hd.lt k e3; omega⟩
    · have h1 : w'.heap[b]? = W.heap[b]? := ht.block b (Nat.lt_of_lt_of_le hb hW.size) (fun e => by
        obtain ⟨f, hf, e⟩ := hv0m b e
        exact hoff.rows f hf e)
      exact (ht2.block b (Nat.lt_of_lt_of_le hb ht'.size) (fun e => hoff.g e)).trans h1
    · rcases hL2 e he b hk with ⟨f, hf, e1⟩ | e1
      · exact hoff.rows f hf e1
      · rcases ho' b e1 with e2 | e2
        · obtain ⟨f, hf, e3⟩ := hv0m b e2
          exact hoff.rows f hf e3
        · omega
/-- One was met. -/
theorem WaI.met (h : WaI w1 wr g mb G L clock M av E hv A) {n : Nat} (hn : n < M.length) (i : Int) : wr.frozen? ⟨mb, n, none⟩ = false ∧ (wr.cell? ⟨mb, n, none⟩).isSome = true ∧ WaI w1 (wr.setCell ⟨mb, n, none⟩ (.int .i64 i)) g mb G L clock (M.set n i) av E hv A := by
  obtain ⟨e, _⟩ | ⟨g', cap, e, h1, h2, h3⟩ := h.mt
  · cases e
  · injection e with e e1 e2
    injection e with e
    injection e with e
    subst e
    have hcap : cap = M.length := e2.symm
    have hT : Touch (fun k => k = mb) wr (wr.setCell ⟨mb, n, none⟩ (.int .i64 i)) := (Touch.refl (fun k => k = mb) wr).setCell ⟨mb, n, none⟩ (fun _ => rfl) _
    have hth := h3.there n (by omega)
    refine ⟨hth.2, hth.1, h.gt.touch hT (fun e => h.fm.2 e.symm) (fun e he k hk e' => (h.rows e he k hk).1 e'), ?_, h.al.touch hT (fun b hb e => (h.fa b hb).2.2 e), h.hd.touch hT (fun b hb e => (h.fh b hb).2.2.1 e), h.bel.trans (hT.below (fun b e => by rw [e]; exact h.fm.1) h.bel.size), h.fm, h.fa, h.fh, h.rows⟩
    refine .inr ⟨mb, M.length, by rw [List.length_set], by rw [ints_len, Nat.mul_one], by rw [List.length_set]; exact Nat.le_refl _, ?_⟩
    refine ⟨by simpa [World.setCell] using h3.lt, by rw [ints_len, List.length_set]; omega, by rw [← hcap]; exact h3.max, fun j b hj => ?_, fun j hj => ?_⟩
    · unfold ints at hj
      rw [List.map_set] at hj
      rw [List.getElem?_set] at hj
      by_cases hjn : n = j
      · subst hjn
        rw [if_pos rfl, if_pos (by rw [List.length_map]; exact hn)] at hj
        injection hj with hj
        rw [← hj]
        exact World.cell?_setCell_same' _ _ _ hth.1
      · rw [if_neg hjn] at hj
        rw [World.cell?_setCell_other _ _ _ _ (fun e => by injection e with _ e _; exact hjn e)]
        exact h3.holds j b hj
    · have := h3.there j (by omega)
      refine ⟨?_, by rw [World.frozen?_setCell]; exact this.2⟩
      by_cases hjn : j = n
      · subst hjn
        rw [World.cell?_setCell_same' _ _ _ hth.1]
        rfl
      · rw [World.cell?_setCell_other _ _ _ _ (fun e => by injection e with _ e _; exact hjn e.symm)]
        exact this.1
theorem WaI.mcell (h : WaI w1 wr g mb G L clock M av E hv A) {n : Nat} {x : Int} (hn : M[n]? = some x) : wr.cell? ⟨mb, n, none⟩ = some (.int .i64 x) := by
  obtain ⟨A, cap, e, _, _, _, _, h5⟩ := h.mt.form
  obtain ⟨g', eg, hc⟩ := h5 n (.int .i64 x) (by unfold ints; rw [List.getElem?_map, hn]; rfl)
  injection e with e _ _
  rw [← e] at eg
  injection eg with eg
  injection eg with eg
  rw [eg]
  exact hc
/-- One is put behind those ahead. -/
theorem WaI.ahead (h : WaI w1 wr g mb G L clock M av E hv A) (y : Int) (hl : A.length ≤ 1000000) : ∃ v' w', (Builtin.append_ #[30, 30] 30 #[hv, .slice (some ⟨wr.heap.size, 0, none⟩) 1 1]).run Try.prog (wr.alloc (.cells #[.int .i64 y] 3)) = .ok v' w' ∧ WaI w1 w' g mb G L clock M av E v' (A ++ [y]) ∧ ∀ b, b < wr.heap.size → hv.ownBlock ≠ some b → w'.heap[b]? = wr.heap[b]? ∧ v'.ownBlock ≠ some b := by
  obtain ⟨v', w', hr, hrow, ht, ho⟩ := app_int (w := wr) y 30 h.hd (by omega)
  have hgl := h.gt.map.lt
  have mlt : mb < wr.heap.size := h.mt.lt mb rfl
  refine ⟨v', w', hr, ⟨h.gt.touch ht (fun e => (h.fh _ e).2.1 rfl) (fun e he k hk e' => (h.rows e he k hk).2.2 e'), h.mt.touch ht (fun b hb e => (h.fh b e).2.2.1 (Option.some.inj hb).symm), h.al.touch ht (fun b hb e => (h.fh b e).2.2.2 hb), hrow, h.bel.trans (ht.below (fun b e => (h.fh b e).1) h.bel.size), h.fm, h.fa, fun b hb => ?_, fun e he k hk => ⟨(h.rows e he k hk).1, (h.rows e he k hk).2.1, fun e' => ?_⟩⟩, fun b hb hoff => ⟨ht.block b hb (fun e => hoff e), fun e => ?_⟩⟩
  · rcases ho b hb with e | e
    · exact h.fh b e
    · exact ⟨Nat.le_trans h.bel.size e, by omega, by omega, fun e' => by have := h.al.lt b e'; omega⟩
  · rcases ho k e' with e1 | e1
    · exact (h.rows e he k hk).2.2 e1
    · have := h.rlt e he k hk
      omega
  · rcases ho b e with e1 | e1
    · exact hoff e1
    · omega
theorem WaI.sort (h : WaI w1 wr g mb G L clock M av E hv A) (ht : Touch (fun k => hv.ownBlock = some k) wr w2) (hr : RowIs w2 1 hv A.length (ints (sorted A))) : WaI w1 w2 g mb G L clock M av E hv (sorted A) :=
  ⟨h.gt.touch ht (fun e => (h.fh _ e).2.1 rfl) (fun e he k hk e' => (h.rows e he k hk).2.2 e'), h.mt.touch ht (fun b hb e => (h.fh b e).2.2.1 (Option.some.inj hb).symm), h.al.touch ht (fun b hb e => (h.fh b e).2.2.2 hb), by rw [sorted_len]; exact hr, h.bel.trans (ht.below (fun b e => (h.fh b e).1) h.bel.size), h.fm, h.fa, h.fh, h.rows⟩
/-- An edge is put behind the others. -/
theorem WaI.edge (h : WaI w1 wr g mb G L clock M av E hv A) (x y : Int) (hl : E.length ≤ 1000000) : ∃ v' w', (Builtin.append_ #[33, 33] 33 #[av, .slice (some ⟨wr.heap.size, 0, none⟩) 1 1]).run Try.prog (wr.alloc (.cells #[.int .i64 x, .int .i64 y] 39)) = .ok v' w' ∧ WaI w1 w' g mb G L clock M v' (E ++ [(x, y)]) hv A ∧ ∀ b, b < wr.heap.size → av.ownBlock ≠ some b → w'.heap[b]? = wr.heap[b]? ∧ v'.ownBlock ≠ some b := by
  obtain ⟨v', w', hr, hrow, ht, ho⟩ := app_edge (w := wr) x y 33 h.al hl
  have hgl := h.gt.map.lt
  have mlt : mb < wr.heap.size := h.mt.lt mb rfl
  refine ⟨v', w', hr, ⟨h.gt.touch ht (fun e => (h.fa _ e).2.1 rfl) (fun e he k hk e' => (h.rows e he k hk).2.1 e'), h.mt.touch ht (fun b hb e => (h.fa b e).2.2 (Option.some.inj hb).symm), hrow, h.hd.touch ht (fun b hb e => (h.fh b hb).2.2.2 e), h.bel.trans (ht.below (fun b e => (h.fa b e).1) h.bel.size), h.fm, fun b hb => ?_, fun b hb => ?_, fun e he k hk => ⟨(h.rows e he k hk).1, fun e' => ?_, (h.rows e he k hk).2.2⟩⟩, fun b hb hoff => ⟨ht.block b hb (fun e => hoff e), fun e => ?_⟩⟩
  · rcases ho b hb with e | e
    · exact h.fa b e
    · exact ⟨Nat.le_trans h.bel.size e, by omega, by omega⟩
  · obtain ⟨a, b', c, d⟩ := h.fh b hb
    refine ⟨a, b', c, fun e' => ?_⟩
    rcases ho b e' with e | e
    · exact d e
    · have := h.hd.lt b hb; omega
  · rcases ho k e' with e1 | e1
    · exact (h.rows e he k hk).2.1 e1
    · have := h.rlt e he k hk
      omega
  · rcases ho b e with e1 | e1
    · exact hoff e1
    · omega
theorem WaI.off (h : WaI w1 wr g mb G L clock M av E hv A) : Off g mb L av hv wr.heap.size := by
  have hgl := h.gt.map.lt
  have mlt : mb < wr.heap.size := h.mt.lt mb rfl
  exact ⟨by omega, by omega, fun e => by have := h.al.lt _ e; omega, fun e => by have := h.hd.lt _ e; omega, fun e he hk => by have := h.rlt e he _ hk; omega⟩
theorem Off.fresh {b : Nat} (h : Off g mb L av hv b) : Off g mb L av (.slice none 0 0) b := ⟨h.g, h.mb, h.av, (fun e => by cases e), h.rows⟩
end
end Go.Proofs.Ytlbhpeeggbfcpaa
