/- The reference's tape: Crash. -/
import Derived.Test.YtkdcknkgfgkoaaaGreatDoorZRefK
import Derived.Test.YtkdcknkgfgkoaaaGreatDoorZKepA
import Derived.Test.YtkdcknkgfgkoaaaGreatDoorZTapS
import Derived.Deep.RegionHeld
set_option linter.unusedSimpArgs false
set_option linter.unusedVariables false
set_option linter.unnecessarySimpa false
namespace Go.Proofs.YtkdcknkgfgkoaaaGreatDoor
open Go.RowKit

theorem step_append_row {P : Program} {ops : Array Oper} {o : Oper} {a : Act} {w : World} {K : Act → World → Prop} {Q : Exit → Act → World → Prop} {E : Prop} (T EL : TypeId) (hT : P.underlying T = some (.slice EL)) {zv : Value} {z by' : Nat} (hE : (P.info? EL).map (fun i => (i.zero, i.size, i.bytes)) = some (some zv, z, by')) (hzv : zv.cells.size = z) (hz0 : 0 < z) (hby : by' ≤ 1024)
    (hgd : o.guard = none) (s x : Operand) (tx : TypeId) (ho : o.op = .call { callee := .builtin .append, args := #[s, x], argTypes := #[T, tx] })
    (n m : Nat) (l ms : List Value) (v y : Value) (hs : a.eval s = v) (hx : a.eval x = y) (hown : RowIs w z v n l) (hsrc : Src P z tx y m ms w) (hlen : n + m ≤ 16777216)
    (h : ∀ v' w', RowIs w' z v' (n + m) (l ++ ms) → w.grownBy w' v.ownBlock → (v'.ownBlock = v.ownBlock ∨ v'.ownBlock = some w.heap.size) → K (a.put o.dst v') w') : if Region.wanted o (yielded ops a.tmps) = true then Oper.wp P o a w K Q else E := by
  have hw : Region.wanted o (yielded ops a.tmps) = true := by simp [Region.wanted, hgd]
  rw [if_pos hw]
  obtain ⟨v', w', hr, h2, h3, h4⟩ := run_append_row w T EL o.type tx hT hE hzv hz0 hby v n m l ms y hown hsrc hlen
  unfold Oper.wp execOp
  simp only [ho, resolve, invoke, builtin, Sem.run_bind, Sem.run_pure, Result.andThen_ok, List.map_toArray, List.map_cons, List.map_nil, hs, hx, hr]
  exact h v' w' h2 h3 h4
theorem setCell_sz (w : World) (a : Addr) (v : Value) : (w.setCell a v).heap.size = w.heap.size := by simp [World.setCell]
/-- The tape that a crash makes, on its way. -/
structure CrIn (w : World) (R : RTp) (ks : List Int) (c k : Nat) (C : RTp) (W : World) : Prop where
  ref : RefAt W c C
  far : RFar c C.L
  base : ∀ x ∈ C.L, ∃ g n cc, x.v = .slice (some ⟨g, 0, none⟩) n cc ∧ w.heap.size ≤ g ∧ g < W.heap.size
  apart : ∀ x ∈ C.L, ∀ A n cc, x.v = .slice (some A) n cc → C.v.ownBlock ≠ some A.block
  abs : absR C.L = crI (absR R.L) ks k
  room : C.room = R.room
  fuse : C.fuse = -1
  down : C.down = false
  own : ∀ g, C.v.ownBlock = some g → w.heap.size ≤ g
  below : Below w.heap.size w W
theorem CrIn.keep {w : World} {R : RTp} {ks : List Int} {c k : Nat} {C : RTp} {W W' : World} (h : CrIn w R ks c k C W) (hb : Below W.heap.size W W') : CrIn w R ks c k C W' :=
  ⟨h.ref.below hb, h.far, (fun x hx => by obtain ⟨g, n, cc, e, h1, h2⟩ := h.base x hx; exact ⟨g, n, cc, e, h1, Nat.lt_of_lt_of_le h2 hb.size⟩), h.apart, h.abs, h.room, h.fuse, h.down, h.own, h.below.trans (hb.mono h.below.size)⟩
theorem CrIn.skip {w : World} {R : RTp} {ks : List Int} {c k : Nat} {C : RTp} {W : World} (h : CrIn w R ks c k C W) {x : RSeg} (hx : R.L[k]? = some x) (h0 : lastS x.ab (ks[k]?.getD 0) = 0) : CrIn w R ks c (k + 1) C W :=
  ⟨h.ref, h.far, h.base, h.apart, by rw [h.abs, crI_succ ks (absR_at hx)]; show _ = _ ++ keptS x.ab _; rw [keptS_none h0, List.append_nil], h.room, h.fuse, h.down, h.own, h.below⟩
/-- One more segment, behind the store. -/
theorem CrIn.add {w : World} {R : RTp} {ks : List Int} {c k : Nat} {C : RTp} {W W5 : World} (h : CrIn w R ks c k C W) (hc : w.heap.size ≤ c) {x : RSeg} (hx : R.L[k]? = some x) {n : Nat} (hn : lastS x.ab (ks[k]?.getD 0) = n) (h0 : n ≠ 0) (hxs : x.s ≤ x.b.length)
    {g cc : Nat} (hT : Touch (fun i => C.v.ownBlock = some i) W W5) (hbis : BIs W5 (.slice (some ⟨g, 0, none⟩) n cc) (x.b.take n)) (hg : W.heap.size ≤ g) {l : Value} (hrow : RowIs W5 3 l (C.L.length + 1) (C.L.flatMap RSeg.cells ++ [.int .i64 x.n, .slice (some ⟨g, 0, none⟩) n cc, .int .i64 (n : Int)])) (hl : l.ownBlock = C.v.ownBlock ∨ ∃ i, l.ownBlock = some i ∧ W.heap.size ≤ i) (hlg : l.ownBlock ≠ some g) (hg5 : g < W5.heap.size) :
    ∃ C', CrIn w R ks c (k + 1) C' (W5.setCell ⟨c, 1, none⟩ l) := by
  have hclt := heap_lt h.ref.head
  have hb := h.below
  have hown : ∀ i, l.ownBlock = some i → w.heap.size ≤ i ∧ i ≠ c := fun i hi => by
    rcases hl with e | ⟨i', e, hi'⟩
    · have e2 := e.symm.trans hi
      exact ⟨h.own i e2, fun e3 => h.ref.own (by rw [e2, e3])⟩
    · rw [e] at hi
      injection hi with hi
      subst hi
      exact ⟨Nat.le_trans hb.size hi', by omega⟩
  have ht2 : Touch (· = c) W5 (W5.setCell ⟨c, 1, none⟩ l) := (Touch.refl (· = c) W5).setCell ⟨c, 1, none⟩ (fun _ => rfl) l
  have hh : W5.heap[c]? = _ := (hT.block c hclt (fun e => h.ref.own e)).trans h.ref.head
  have hlen := lastS_le (x := x.ab) hxs (ks[k]?.getD 0)
  rw [hn] at hlen
  have htk : (x.b.take n).length = n := by rw [List.length_take]; exact Nat.min_eq_left hlen.2
  have hfarg : ∀ A n' c', (Value.slice (some ⟨g, 0, none⟩) n cc) = .slice (some A) n' c' → A.block ≠ c := fun A n' c' e => by
    injection e with e _ _
    injection e with e
    subst e
    exact Nat.ne_of_gt (Nat.lt_of_lt_of_le hclt hg)
  have hblk : ∀ z ∈ C.L, ∃ g2 n2 c2, z.v = .slice (some ⟨g2, 0, none⟩) n2 c2 ∧ w.heap.size ≤ g2 ∧ g2 < W.heap.size := h.base
  have hkeepB : ∀ z ∈ C.L, BIs W5 z.v z.b := fun z hz => by
    obtain ⟨A, cap, e, p1, p2, p3⟩ := (h.ref.segs z hz).1
    refine ⟨A, cap, e, p1, p2, fun i b hi => ?_⟩
    obtain ⟨a, q1, q2, q3⟩ := p3 i b hi
    refine ⟨a, q1, Nat.lt_of_lt_of_le q2 hT.size, ?_⟩
    exact (World.cell?_of_block (a := a.add i) (by rw [add_block]; exact hT.block _ q2 (h.apart z hz a _ _ (by rw [e, q1])))).trans q3
  have hx0 : x.cells = [.int .i64 x.n, x.v, .int .i64 (x.s : Int)] := rfl
  have hmem : ∀ z ∈ C.L ++ [(⟨x.n, .slice (some ⟨g, 0, none⟩) n cc, x.b.take n, n⟩ : RSeg)], z ∈ C.L ∨ z = ⟨x.n, .slice (some ⟨g, 0, none⟩) n cc, x.b.take n, n⟩ := fun z hz => by
    rcases List.mem_append.1 hz with hz | hz
    · exact .inl hz
    · exact .inr (List.mem_singleton.1 hz)
  have hbT : ∀ (v : Value) (b : List UInt8), BIs W5 v b → (∀ A n c', v = .slice (some A) n c' → A.block ≠ c) → BIs (W5.setCell ⟨c, 1, none⟩ l) v b := fun v b hv hf => hv.far ht2 (fun _ => hf)
  refine ⟨⟨C.room, C.L ++ [⟨x.n, .slice (some ⟨g, 0, none⟩) n cc, x.b.take n, n⟩], l, C.fuse, C.down⟩, ⟨⟨set_at hh 1 l, ?_, ?_, fun e => (hown c e).2 rfl⟩, ?_, ?_, ?_, ?_, h.room, h.fuse, h.down, fun i hi => (hown i hi).1, ?_⟩⟩
  · have := hrow.touch ht2 (fun i hi e => (hown i hi).2 e)
    show RowIs _ 3 l (C.L ++ [_]).length ((C.L ++ [_]).flatMap RSeg.cells)
    rw [flat_snoc, List.length_append]
    exact this
  · intro z hz
    rcases hmem z hz with hz | rfl
    · exact ⟨hbT _ _ (hkeepB z hz) (h.far z hz), (h.ref.segs z hz).2⟩
    · refine ⟨hbT _ _ ?_ hfarg, by show n ≤ (x.b.take n).length; rw [htk]; exact Nat.le_refl _⟩
      exact hbis
  · intro z hz
    rcases hmem z hz with hz | rfl
    · exact h.far z hz
    · exact hfarg
  · intro z hz
    rcases hmem z hz with hz | rfl
    · obtain ⟨g2, n2, c2, e, p1, p2⟩ := h.base z hz
      exact ⟨g2, n2, c2, e, p1, by rw [setCell_sz]; exact Nat.lt_of_lt_of_le p2 hT.size⟩
    · exact ⟨g, n, cc, rfl, Nat.le_trans hb.size hg, by rw [setCell_sz]; exact hg5⟩
  · intro z hz A n' c' e hA
    have hA' : l.ownBlock = some A.block := hA
    rcases hmem z hz with hz | rfl
    · rcases hl with e2 | ⟨i, e2, hi⟩
      · exact h.apart z hz A n' c' e (by rw [← e2]; exact hA')
      · rw [e2] at hA'
        injection hA' with hA'
        obtain ⟨g2, n2, c2, e4, _, p2⟩ := hblk z hz
        rw [e4] at e
        injection e with e _ _
        injection e with e
        subst e
        exact absurd (show i = g2 from hA') (by omega)
    · injection e with e _ _
      injection e with e
      subst e
      exact hlg hA'
  · show absR (C.L ++ [_]) = _
    have e1 : absR (C.L ++ [(⟨x.n, .slice (some ⟨g, 0, none⟩) n cc, x.b.take n, n⟩ : RSeg)]) = absR C.L ++ [(x.n, x.b.take n, n)] := by unfold absR; rw [List.map_append]; rfl
    rw [e1, crI_succ ks (absR_at hx), h.abs]
    congr 1
    have h1 : lastS (x.n, x.b, x.s) (ks[k]?.getD 0) = n := hn
    rw [keptS_some (by rw [h1]; exact h0), h1]
  · exact (hb.trans (⟨hT.os, hT.tape, hT.output, hT.size, fun i hi => hT.block i (by omega) (fun e => by have := h.own i e; omega)⟩ : Below w.heap.size W W5)).setCell (p := ⟨c, 1, none⟩) hc l
theorem crIn_start {w : World} {R : RTp} (ks : List Int) {w1 : World} (h : RefAt w1 w.heap.size (newR R.room)) (hb : Below w.heap.size w w1) : CrIn w R ks w.heap.size 0 (newR R.room) w1 :=
  ⟨h, (fun x hx => by cases hx), (fun x hx => by cases hx), (fun x hx => by cases hx), rfl, rfl, rfl, rfl, (fun g hg => by cases hg), hb⟩
/-- What a crash of the reference's leaves. -/
def RCrashP (w : World) (R : RTp) (ks : List Int) (e : Ending) (w' : World) : Prop := ∃ (C : RTp), e = .returned (.pointer (some ⟨w.heap.size, 0, none⟩)) ∧ RefOk w' w.heap.size C ∧ (plR C).Eq ⟨R.room.toNat, crI (absR R.L) ks R.L.length, -1, false⟩ ∧ Below w.heap.size w w' ∧ ∀ k, RBlk w.heap.size C k → w.heap.size ≤ k
theorem CrIn.fin {w : World} {r : Nat} {R : RTp} {ks : List Int} {C : RTp} {W : World} (hR : RefOk w r R) (h : CrIn w R ks w.heap.size R.L.length C W) : RCrashP w R ks (.returned (.pointer (some ⟨w.heap.size, 0, none⟩))) W := by
  have hA : ∀ x ∈ absR R.L, x.2.2 ≤ x.2.1.length := fun x hx => by
    obtain ⟨y, hy, rfl⟩ := List.mem_map.1 hx
    exact (hR.ref.segs y hy).2
  have hl : (absR R.L).length = R.L.length := by unfold absR; rw [List.length_map]
  have hr := crI_rises hR.rises ks R.L.length (by omega)
  have h1 := crI_len (absR R.L) ks R.L.length
  have h2 := crI_size hA ks R.L.length (by omega)
  have h3 := sizeS_take (absR R.L) R.L.length
  have h4 := hR.used
  rw [absR_size] at h3
  refine ⟨C, rfl, ⟨h.ref, h.far, by rw [h.abs]; exact hr, ?_, ?_, by rw [h.room]; exact hR.room, by rw [h.fuse]; omega, fun x hx => by obtain ⟨g, n, cc, e, _, hl⟩ := h.base x hx; exact ⟨g, n, cc, e, hl⟩⟩, ⟨by unfold plR; rw [h.room], by show (absR C.L).Perm _; rw [h.abs], h.fuse, h.down⟩, h.below, fun k hk => ?_⟩
  · have : (absR C.L).length = C.L.length := by unfold absR; rw [List.length_map]
    rw [← this, h.abs]
    have := hR.few
    omega
  · rw [← absR_size, h.abs]
    omega
  · rcases hk with rfl | hk | ⟨z, hz, A, n, c, e, rfl⟩
    · exact Nat.le_refl _
    · exact h.own k hk
    · obtain ⟨g, n2, cc, e2, p1, _⟩ := h.base z hz
      rw [e2] at e
      injection e with e _ _
      injection e with e
      subst e
      exact p1
end Go.Proofs.YtkdcknkgfgkoaaaGreatDoor
