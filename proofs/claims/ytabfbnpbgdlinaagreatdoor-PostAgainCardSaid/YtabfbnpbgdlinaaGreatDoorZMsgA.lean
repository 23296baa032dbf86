/- Messages in a row that was given. The law on what is sent again: its requests. -/
import Derived.Test.YtabfbnpbgdlinaaGreatDoorZMegA
import Derived.Test.YtabfbnpbgdlinaaGreatDoorZPosN
import Derived.Laws.MakeOwn
set_option linter.unusedSimpArgs false
set_option linter.unusedVariables false
set_option linter.unnecessarySimpa false
namespace Go.Proofs.YtabfbnpbgdlinaaGreatDoor
open Go.RowKit Go.Shelf

/-- A message's eleven cells from an address on. -/
def M11 (W : World) (p : Addr) (m : MsgV) (tA : Option Addr) (tc : Nat) (oA : Option Addr) (oc : Nat) : Prop := W.cell? p = some (.int .i64 m.kd) ∧ W.cell? ⟨p.block, p.off + 1, none⟩ = some (.int .i64 m.fr) ∧ W.cell? ⟨p.block, p.off + 2, none⟩ = some (.int .i64 m.tt) ∧ W.cell? ⟨p.block, p.off + 3, none⟩ = some (.int .i64 m.g) ∧ W.cell? ⟨p.block, p.off + 4, none⟩ = some (.int .i64 m.nd) ∧ W.cell? ⟨p.block, p.off + 5, none⟩ = some (.int .i64 m.tr) ∧ W.cell? ⟨p.block, p.off + 6, none⟩ = some (.int .i64 m.lw) ∧ W.cell? ⟨p.block, p.off + 7, none⟩ = some (.int .i64 m.co) ∧ W.cell? ⟨p.block, p.off + 8, none⟩ = some (.int .i64 m.ti) ∧ W.cell? ⟨p.block, p.off + 9, none⟩ = some (.slice tA m.tl.length tc) ∧ W.cell? ⟨p.block, p.off + 10, none⟩ = some (.slice oA m.os.length oc)
theorem M11.below {w w' : World} {p : Addr} {m : MsgV} {tA oA : Option Addr} {tc oc : Nat} (h : M11 w p m tA tc oA oc) (hp : p.block < w.heap.size) (hb : Below w.heap.size w w') : M11 w' p m tA tc oA oc := by
  unfold M11 at h ⊢
  obtain ⟨a0, a1, a2, a3, a4, a5, a6, a7, a8, a9, a10⟩ := h
  exact ⟨(hb.cell hp).trans a0, (hb.cell (p := ⟨p.block, p.off + 1, none⟩) hp).trans a1, (hb.cell (p := ⟨p.block, p.off + 2, none⟩) hp).trans a2, (hb.cell (p := ⟨p.block, p.off + 3, none⟩) hp).trans a3, (hb.cell (p := ⟨p.block, p.off + 4, none⟩) hp).trans a4, (hb.cell (p := ⟨p.block, p.off + 5, none⟩) hp).trans a5, (hb.cell (p := ⟨p.block, p.off + 6, none⟩) hp).trans a6, (hb.cell (p := ⟨p.block, p.off + 7, none⟩) hp).trans a7, (hb.cell (p := ⟨p.block, p.off + 8, none⟩) hp).trans a8, (hb.cell (p := ⟨p.block, p.off + 9, none⟩) hp).trans a9, (hb.cell (p := ⟨p.block, p.off + 10, none⟩) hp).trans a10⟩
/-- A slice of messages that was given. -/
def MsgsAt (w : World) (v : Value) (l : List MsgV) : Prop := ∃ A cap, v = .slice A l.length cap ∧ l.length ≤ cap ∧ cap ≤ maxLen ∧ ∀ (i : Nat) (m : MsgV), l[i]? = some m → ∃ (a : Addr) (tA : Option Addr) (tc : Nat) (oA : Option Addr) (oc : Nat), A = some a ∧ a.block < w.heap.size ∧ M11 w (a.add (i * 11)) m tA tc oA oc ∧ NumsAt w (.slice tA m.tl.length tc) m.tl ∧ OpsAt w (.slice oA m.os.length oc) m.os
end Go.Proofs.YtabfbnpbgdlinaaGreatDoor

namespace Go.Proofs.YtabfbnpbgdlinaaGreatDoor
open Go.RowKit Go.Shelf

/-- The cells of numbers. -/
abbrev intsC (l : List Int) : List Value := l.map (Value.int .i64)
/-- The law's box and the numbers that were put, since w. -/
structure AgS (w W : World) (b mp : Nat) (ev : Int) (L : List Rq) (c : Nat) (R : Nat → Prop) (gv : Value) (gs : List Int) : Prop where
  box : BoxAt W b mp ev L c R
  bb : w.heap.size ≤ b
  bm : w.heap.size ≤ mp
  br : ∀ k, R k → w.heap.size ≤ k
  bel : Below w.heap.size w W
  row : RowIs W 1 gv gs.length (intsC gs)
  own : ∀ k, gv.ownBlock = some k → w.heap.size ≤ k ∧ ¬ R k ∧ k ≠ mp ∧ k ≠ b
  few : L.length ≤ 5 ∧ gs.length ≤ 5
  all : ∀ g ∈ gs, ∃ e ∈ L, e.m.g = g
  far : ∀ e ∈ L, (e.m.tl ≠ [] → ∀ a, e.tA = some a → gv.ownBlock ≠ some a.block) ∧ (e.m.os ≠ [] → ∀ a, e.oA = some a → gv.ownBlock ≠ some a.block)
theorem PutS.len {L L' : List Rq} {n : Rq} (h : PutS L n L') : L'.length ≤ L.length + 1 := by
  rcases h with ⟨j, x, _, _, rfl⟩ | ⟨_, rfl⟩ <;> simp
theorem PutS.gs {L L' : List Rq} {n : Rq} (h : PutS L n L') {g : Int} (hg : (∃ e ∈ L, e.m.g = g) ∨ n.m.g = g) : ∃ e ∈ L', e.m.g = g := by
  rcases h with ⟨j, x, hj, hx, rfl⟩ | ⟨_, rfl⟩
  · by_cases hgn : n.m.g = g
    · exact ⟨n, List.mem_set (List.getElem?_eq_some_iff.1 hj).1 _, hgn⟩
    · rcases hg with ⟨e, he, h⟩ | h
      · obtain ⟨i, hi⟩ := List.getElem?_of_mem he
        have hij : j ≠ i := fun hij => by
          subst hij
          rw [hj] at hi
          cases hi
          exact hgn (hx.symm.trans h)
        exact ⟨e, List.mem_of_getElem? (i := i) (by rw [List.getElem?_set, if_neg hij]; exact hi), h⟩
      · exact absurd h hgn
  · rcases hg with ⟨e, he, h⟩ | h
    · exact ⟨e, List.mem_append.2 (.inl he), h⟩
    · exact ⟨n, List.mem_append.2 (.inr (by simp)), h⟩
theorem AgS.below {w W W' : World} {b mp : Nat} {ev : Int} {L : List Rq} {c : Nat} {R : Nat → Prop} {gv : Value} {gs : List Int} (h : AgS w W b mp ev L c R gv gs) (hb : Below W.heap.size W W') : AgS w W' b mp ev L c R gv gs :=
  ⟨h.box.below hb, h.bb, h.bm, h.br, h.bel.trans (hb.mono h.bel.size), h.row.below hb, h.own, h.few, h.all, h.far⟩
theorem keys_cut (m : MsgV) : KeysIn (cutM m).os := fun o ho => by have := cutO_keys m.os o ho; omega
theorem infoZ : (Tryz.prog.info? 3).map (fun i => (i.zero, i.size, i.bytes)) = some (some (.int .i64 0), 1, 8) := by kernel_rfl
/-- A request was put, and its number is added. -/
theorem AgS.put {w W W1 W2 : World} {b mp : Nat} {ev : Int} {L : List Rq} {c : Nat} {R : Nat → Prop} {gv : Value} {gs : List Int} (h : AgS w W b mp ev L c R gv gs) (hl : L.length ≤ 4 ∧ gs.length ≤ 4) {m : MsgV} {e : Ending} (hp : PutP W b mp ev L R m e W1) {gv' : Value} {gs' : List Int}
    (ht : Touch (fun k => gv.ownBlock = some k) W1 W2) (hr : RowIs W2 1 gv' gs'.length (intsC gs')) (ho : gv'.ownBlock = gv.ownBlock ∨ ∀ k, gv'.ownBlock = some k → W1.heap.size ≤ k) (hg : gs' = gs ++ [m.g]) :
    ∃ L' c' R', AgS w W2 b mp ev L' c' R' gv' gs' ∧ L'.length ≤ L.length + 1 ∧ ∀ e ∈ L', e ∈ L ∨ e.sent = false := by
  obtain ⟨_, L', c', n, hb, hps, hnm, hns, hrb, hT, htA, hoA⟩ := hp
  have hfar : ∀ x ∈ L', (x.m.tl ≠ [] → ∀ a, x.tA = some a → gv.ownBlock ≠ some a.block) ∧ (x.m.os ≠ [] → ∀ a, x.oA = some a → gv.ownBlock ≠ some a.block) := fun x hx => by
    rcases hps.mem x hx with h1 | h1
    · exact h.far x h1
    · rw [h1]
      exact ⟨fun _ a ha hq => by have := htA a ha; have := h.row.lt _ hq; omega, fun _ a ha hq => by have := hoA a ha; have := h.row.lt _ hq; omega⟩
  have hbW := h.bel.size
  have hT1 := hT.size
  have hT2 := ht.size
  subst hg
  refine ⟨L', c', (fun k => R k ∨ k = n.rb), ⟨?_, h.bb, h.bm, fun k hk => ?_, ?_, hr, fun k hk => ?_, ?_, fun g hg => ?_, fun x hx => ?_⟩, hps.len, fun x hx => ?_⟩
  · refine hb.keep ht (fun hk => (h.own _ hk).2.2.2 rfl) (fun hk => (h.own _ hk).2.2.1 rfl) (fun k hk hq => ?_) (fun x hx hl a ha hq => ?_) (fun x hx hl a ha hq => ?_)
    · have h1 := h.own k hq
      rcases hk with hk | hk
      · exact h1.2.1 hk
      · have := h.row.lt k hq; omega
    · exact (hfar x hx).1 hl a ha hq
    · exact (hfar x hx).2 hl a ha hq
  · rcases hk with hk | hk
    · exact h.br k hk
    · omega
  · have t1 := h.bel.trans (hT.below (fun i e => by rw [e]; exact h.bm) h.bel.size)
    exact t1.trans (ht.below (fun i e => (h.own i e).1) t1.size)
  · rcases ho with ho | ho
    · rw [ho] at hk
      have h1 := h.own k hk
      have h2 := h.row.lt k hk
      refine ⟨h1.1, fun hq => ?_, h1.2.2⟩
      rcases hq with hq | hq
      · exact h1.2.1 hq
      · omega
    · have h1 := ho k hk
      have h2 := heap_lt hb.head
      have h3 := hb.map.lt
      refine ⟨by omega, fun hq => ?_, by omega, by omega⟩
      have := hb.ltR k hq
      omega
  · have := hps.len
    simp only [List.length_append, List.length_singleton]
    omega
  · rcases List.mem_append.1 hg with hg | hg
    · exact hps.gs (.inl (h.all g hg))
    · exact hps.gs (.inr (by rw [hnm]; exact (List.mem_singleton.1 hg).symm))
  · rcases ho with ho | ho
    · rw [ho]; exact hfar x hx
    · refine ⟨fun hl a ha hq => ?_, fun hl a ha hq => ?_⟩
      · have := ho _ hq
        have := (hb.tl x hx).lt hl a ha
        omega
      · have := ho _ hq
        have := (hb.os x hx).lt hl a ha
        omega
  · rcases hps.mem x hx with h1 | h1
    · exact .inl h1
    · exact .inr (by rw [h1]; exact hns)
theorem wpList_make_run {P : Program} (w : World) {ops : Array Oper} {rest : List Oper} {o : Oper} {a : Act} {Q : Exit → Act → World → Prop} (hg : o.guard = none) (l c : Operand) (T : TypeId) (hop : o.op = Op.makeSlice T l c) {x y v : Value} {w' : World} (hl : a.eval l = x) (hc : a.eval c = y)
    (hr : (Instr.makeSlice T x y).run P w = .ok v w') (hK : wpList P ops Q rest (a.put o.dst v) w') : wpList P ops Q (o :: rest) a w := by
  refine wpList_plain hg fun K hK' => ?_
  unfold Oper.wp
  simp [execOp, hop, hl, hc, hr, Result.andThen]
  exact hK' _ _ hK
/-- make of numbers. -/
theorem make_nums (w : World) (n : Nat) (hn : n ≤ 1000) : ∃ w', (Instr.makeSlice 34 (.int .i64 (n : Int)) (.int .i64 (n : Int))).run Tryz.prog w = .ok (.slice (some ⟨w.heap.size, 0, none⟩) n n) w' ∧ RowIs w' 1 (.slice (some ⟨w.heap.size, 0, none⟩) n n) n (intsC (List.replicate n 0)) ∧ Below w.heap.size w w' := by
  obtain ⟨i0, hi, hz0, hz1, hz2⟩ := info_parts infoI
  have hrun := run_make (P := Tryz.prog) w 34 2 i0 _ Tryz.underlying34 hi hz0 .i64 .i64 (n : Int) (n : Int) (by omega) (by omega) (by rw [hz2]; omega) (by omega)
  rw [hz1, Int.toNat_natCast] at hrun
  refine ⟨_, hrun, .inr ⟨w.heap.size, n, rfl, by simp [intsC], Nat.le_refl _, ?_⟩, below_new _⟩
  have hat := alloc_at w (.cells (madeCells (Value.cells (.int .i64 0)) (n * 1)) 2)
  have hM : ∀ j, j < n → (madeCells (Value.cells (.int .i64 0)) (n * 1))[j]? = some (.int .i64 0) := by
    intro j hj
    unfold madeCells
    rw [Array.getElem?_map, Array.getElem?_range, if_pos (by omega)]
    have : j % (Value.cells (.int .i64 0)).size = 0 := by show j % 1 = 0; omega
    simp only [Option.map_some, this]
    rfl
  refine ⟨heap_lt hat, by simp [intsC], by unfold maxLen; omega, fun j x hj => ?_, fun j hj => ⟨?_, free0 hat j⟩⟩
  · have hj' : j < n := by
      have := (List.getElem?_eq_some_iff.1 hj).1
      simpa [intsC] using this
    rw [cell_of hat, hM j hj']
    rw [← hj]
    simp [intsC, hj']
  · rw [cell_of hat, hM j (by omega)]
    rfl
/-- The law's box, its numbers, and when each was sent last. -/
structure AgT (w W : World) (b mp : Nat) (ev : Int) (L : List Rq) (c : Nat) (R : Nat → Prop) (gv : Value) (gs : List Int) (lb : Nat) (ls : List Int) : Prop where
  ag : AgS w W b mp ev L c R gv gs
  len : ls.length = gs.length
  row : RowIs W 1 (.slice (some ⟨lb, 0, none⟩) gs.length gs.length) gs.length (intsC ls)
  lo : w.heap.size ≤ lb
  off : ¬ R lb ∧ lb ≠ mp ∧ lb ≠ b ∧ gv.ownBlock ≠ some lb
  far : ∀ e ∈ L, (e.m.tl ≠ [] → ∀ a, e.tA = some a → a.block ≠ lb) ∧ (e.m.os ≠ [] → ∀ a, e.oA = some a → a.block ≠ lb)
section
variable {w W W' : World} {b mp : Nat} {ev : Int} {L : List Rq} {c : Nat} {R : Nat → Prop} {gv : Value} {gs : List Int} {lb : Nat} {ls : List Int}
theorem AgT.lt (h : AgT w W b mp ev L c R gv gs lb ls) : lb < W.heap.size := h.row.lt lb rfl
theorem AgT.below (h : AgT w W b mp ev L c R gv gs lb ls) (hb : Below W.heap.size W W') : AgT w W' b mp ev L c R gv gs lb ls :=
  ⟨h.ag.below hb, h.len, h.row.below hb, h.lo, h.off, h.far⟩
theorem AgT.made (h : AgS w W b mp ev L c R gv gs) (hb : Below W.heap.size W W') (hr : RowIs W' 1 (.slice (some ⟨W.heap.size, 0, none⟩) gs.length gs.length) gs.length (intsC (List.replicate gs.length 0))) : AgT w W' b mp ev L c R gv gs W.heap.size (List.replicate gs.length 0) := by
  refine ⟨h.below hb, List.length_replicate, hr, h.bel.size, ⟨fun hk => ?_, ?_, ?_, fun hk => ?_⟩, fun e he => ⟨fun hl a ha => ?_, fun hl a ha => ?_⟩⟩
  · have := h.box.ltR _ hk; omega
  · have := h.box.map.lt; omega
  · have := heap_lt h.box.head; omega
  · have := h.row.lt _ hk; omega
  · have := (h.box.tl e he).lt hl a ha; omega
  · have := (h.box.os e he).lt hl a ha; omega
theorem AgT.set (h : AgT w W b mp ev L c R gv gs lb ls) {k : Nat} (hk : k < gs.length) (x : Int) : AgT w (W.setCell ⟨lb, k, none⟩ (.int .i64 x)) b mp ev L c R gv gs lb (ls.set k x) := by
  have ht : Touch (fun k => k = lb) W (W.setCell ⟨lb, k, none⟩ (.int .i64 x)) := (Touch.refl (fun k => k = lb) W).setCell ⟨lb, k, none⟩ (fun _ => rfl) _
  refine ⟨⟨h.ag.box.keep ht (fun e => h.off.2.2.1 e.symm) (fun e => h.off.2.1 e.symm) (fun i hi e => h.off.1 (e ▸ hi)) (fun e he hl a ha => (h.far e he).1 hl a ha) (fun e he hl a ha => (h.far e he).2 hl a ha), h.ag.bb, h.ag.bm, h.ag.br, h.ag.bel.trans (ht.below (fun i e => by rw [e]; exact h.lo) h.ag.bel.size), h.ag.row.touch ht (fun g hg e => h.off.2.2.2 (e ▸ hg)), h.ag.own, h.ag.few, h.ag.all, h.ag.far⟩, by rw [List.length_set]; exact h.len, ?_, h.lo, h.off, h.far⟩
  rcases h.row with ⟨e, _⟩ | ⟨g, cap, e, h1, h2, h3⟩
  · cases e
  · cases e
    refine .inr ⟨lb, gs.length, rfl, by simp [intsC, h.len], Nat.le_refl _, ?_⟩
    have hlen : (intsC ls).length = gs.length := by simp [intsC, h.len]
    obtain ⟨u, hc⟩ := Option.isSome_iff_exists.1 (h3.there k (by omega)).1
    refine ⟨by simp [World.setCell]; exact h3.lt, by simp [intsC, h.len], h3.max, fun j y hj => ?_, fun j hj => ⟨?_, by simpa using (h3.there j hj).2⟩⟩
    · rw [show intsC (ls.set k x) = (intsC ls).set k (.int .i64 x) from map_set' _ _ _ _, List.getElem?_set] at hj
      by_cases hij : k = j
      · subst hij
        rw [if_pos rfl, if_pos (by omega)] at hj
        rw [World.cell?_setCell_same _ _ _ hc]
        exact hj
      · rw [if_neg hij] at hj
        rw [World.cell?_setCell_other _ _ _ _ (fun e => hij (by injection e))]
        exact h3.holds j y hj
    · by_cases hij : k = j
      · subst hij
        rw [World.cell?_setCell_same _ _ _ hc]
        rfl
      · rw [World.cell?_setCell_other _ _ _ _ (fun e => hij (by injection e))]
        exact (h3.there j hj).1
theorem AgT.due (h : AgT w W b mp ev L c R gv gs lb ls) {f : Rq → Rq} (hf : ∀ e, (f e).m = e.m ∧ (f e).tA = e.tA ∧ (f e).oA = e.oA) (hb : BoxAt W' b mp ev (L.map f) c R) (ht : Touch R W W') : AgT w W' b mp ev (L.map f) c R gv gs lb ls := by
  refine ⟨⟨hb, h.ag.bb, h.ag.bm, h.ag.br, h.ag.bel.trans (ht.below (fun i e => h.ag.br i e) h.ag.bel.size), h.ag.row.touch ht (fun g hg => (h.ag.own g hg).2.1), h.ag.own, ⟨by rw [List.length_map]; exact h.ag.few.1, h.ag.few.2⟩, fun g hg => ?_, fun e he => ?_⟩, h.len, h.row.touch ht (fun g hg => by cases hg; exact h.off.1), h.lo, h.off, fun e he => ?_⟩
  · obtain ⟨e, he, hm⟩ := h.ag.all g hg
    exact ⟨f e, List.mem_map.2 ⟨e, he, rfl⟩, by rw [(hf e).1]; exact hm⟩
  · obtain ⟨e0, h0, rfl⟩ := List.mem_map.1 he
    rw [(hf e0).1, (hf e0).2.1, (hf e0).2.2]
    exact h.ag.far e0 h0
  · obtain ⟨e0, h0, rfl⟩ := List.mem_map.1 he
    rw [(hf e0).1, (hf e0).2.1, (hf e0).2.2]
    exact h.far e0 h0
end
theorem ots_get : ∀ {outs : List Ot} {j i : Nat} {o : Ot}, outs[j]? = some o → i < 11 → (outs.flatMap Ot.c)[j * 11 + i]? = o.c[i]?
  | [], j, i, o, h, _ => by simp at h
  | a :: r, 0, i, o, h, hi => by
    have : a = o := by simpa using h
    subst this
    rw [List.flatMap_cons, Nat.zero_mul, Nat.zero_add, List.getElem?_append_left (by rw [Ot.len]; exact hi)]
  | a :: r, j + 1, i, o, h, hi => by
    rw [List.flatMap_cons, List.getElem?_append_right (by rw [Ot.len]; omega), Ot.len, show (j + 1) * 11 + i - 11 = j * 11 + i from by omega]
    exact ots_get (by simpa using h) hi
theorem any_take {α : Type} {l : List α} {j : Nat} {x : α} (h : l[j]? = some x) (q : α → Bool) : (l.take (j + 1)).any q = ((l.take j).any q || q x) := by
  rw [take_one h, List.any_append]
  simp
/-- What holds of the requests ahead of tick t. -/
def TickOk (ev : Int) (t : Nat) (L : List Rq) (gs ls : List Int) : Prop := (∀ e ∈ L, (t = 0 → e.sent = false) ∧ (0 < t → e.sent = true ∧ 0 ≤ e.last ∧ e.last < t ∧ (t : Int) - e.last ≤ ev)) ∧ ∀ (k : Nat) (g : Int) (e : Rq), gs[k]? = some g → e ∈ L → e.m.g = g → ls[k]? = some (if t = 0 then 0 else e.last)
/-- A request behind the call of Due at tick t. -/
def fireT (ev : Int) (t : Nat) (e : Rq) : Rq := if dueB ev t e = true then e.fired t else e
theorem fireT_m (ev : Int) (t : Nat) (e : Rq) : (fireT ev t e).m = e.m ∧ (fireT ev t e).tA = e.tA ∧ (fireT ev t e).oA = e.oA := by
  unfold fireT
  split <;> exact ⟨rfl, rfl, rfl⟩
theorem fireT_ok {ev : Int} {t : Nat} {L : List Rq} {gs ls : List Int} (h : TickOk ev t L gs ls) (hev : 1 ≤ ev) {e : Rq} (he : e ∈ L) : (fireT ev t e).sent = true ∧ 0 ≤ (fireT ev t e).last ∧ (fireT ev t e).last < ((t + 1 : Nat) : Int) ∧ ((t + 1 : Nat) : Int) - (fireT ev t e).last ≤ ev ∧ (dueB ev t e = false → t ≠ 0 ∧ fireT ev t e = e) ∧ (dueB ev t e = true → (fireT ev t e).last = t) := by
  obtain ⟨h1, h2⟩ := h.1 e he
  unfold fireT
  cases hd : dueB ev t e with
  | true =>
    simp only [if_true]
    refine ⟨rfl, ?_, ?_, ?_, (fun h => by cases h), fun _ => rfl⟩
    · show (0 : Int) ≤ t; omega
    · show (t : Int) < _; omega
    · show _ - (t : Int) ≤ _; omega
  | false =>
    have ht : t ≠ 0 := fun ht => by
      have := h1 ht
      simp [dueB, this] at hd
    obtain ⟨q1, q2, q3, q4⟩ := h2 (by omega)
    have q5 : ¬ (ev ≤ (t : Int) - e.last) := by simpa [dueB, q1] using hd
    simp only [Bool.false_eq_true, if_false]
    refine ⟨q1, q2, by omega, by omega, fun _ => ⟨ht, trivial⟩, (fun h => by cases h)⟩
end Go.Proofs.YtabfbnpbgdlinaaGreatDoor
