/- The reference's tape: put. -/
import Derived.Test.YtkdcknkgfgkoaaaGreatDoorZRefA
import Derived.Test.YtkdcknkgfgkoaaaGreatDoorZKepA
set_option linter.unusedSimpArgs false
set_option linter.unusedVariables false
set_option linter.unnecessarySimpa false
namespace Go.Proofs.YtkdcknkgfgkoaaaGreatDoor
open Go.RowKit

theorem infoSeg : (Tryz.prog.info? 108).map (fun i => (i.zero, i.size, i.bytes)) = some (some (.agg #[.int .i64 0, .slice none 0 0, .int .i64 0]), 3, 40) := by kernel_rfl
def RSeg.ab (x : RSeg) : Sg := (x.n, x.b, x.s)
def absR (L : List RSeg) : List Sg := L.map RSeg.ab
/-- A block that the reference's tape reads. -/
def RBlk (r : Nat) (R : RTp) (k : Nat) : Prop := k = r ∨ R.v.ownBlock = some k ∨ ∃ x ∈ R.L, ∃ A n c, x.v = .slice (some A) n c ∧ A.block = k
/-- The segments' bytes lie elsewhere than the tape itself. -/
def RFar (r : Nat) (L : List RSeg) : Prop := ∀ x ∈ L, ∀ A n c, x.v = .slice (some A) n c → A.block ≠ r
theorem flat_snoc (l : List RSeg) (x : RSeg) : (l ++ [x]).flatMap RSeg.cells = l.flatMap RSeg.cells ++ x.cells := by simp
theorem src_seg {W : World} (n s : Int) (A : Option Addr) (m c : Nat) : Src Tryz.prog 3 79 (.slice (some ⟨W.heap.size, 0, none⟩) 1 1) 1 [.int .i64 n, .slice A m c, .int .i64 s] (W.alloc (.cells #[.int .i64 n, .slice A m c, .int .i64 s] 108)) := by
  refine Src.ofSlice _ Tryz.underlying79 ⟨W.heap.size, 0, none⟩ 1 1 _ rfl (fun j u hu => ?_) (by simp [Value.oneCell'])
  rw [add0, cell_of (alloc_at W _)]
  simpa using hu
/-- What is collected so far: a row of one's own. -/
structure PutIn (b0 : Nat) (l : Value) (acc : List RSeg) (W : World) : Prop where
  row : RowIs W 3 l acc.length (acc.flatMap RSeg.cells)
  new : ∀ g, l.ownBlock = some g → b0 ≤ g
theorem PutIn.keep {b0 : Nat} {l : Value} {acc : List RSeg} {W W' : World} (h : PutIn b0 l acc W) (hb : Below W.heap.size W W') : PutIn b0 l acc W' := ⟨h.row.below hb, h.new⟩
theorem PutIn.snoc {b0 : Nat} {l l' : Value} {acc : List RSeg} {W W' : World} (h : PutIn b0 l acc W) (hb0 : b0 ≤ W.heap.size) (x : RSeg) (hr : RowIs W' 3 l' (acc.length + 1) (acc.flatMap RSeg.cells ++ x.cells)) (ho : l'.ownBlock = l.ownBlock ∨ l'.ownBlock = some W.heap.size) : PutIn b0 l' (acc ++ [x]) W' := by
  refine ⟨by rw [flat_snoc, List.length_append]; exact hr, fun g hg => ?_⟩
  rcases ho with e | e
  · exact h.new g (by rw [← e]; exact hg)
  · rw [e] at hg; injection hg with hg; omega
/-- grownBy of a row of one's own leaves what lies below. -/
theorem below_grown {B : Nat} {w W W' : World} {row : Option Nat} (h : Below B w W) (hB : B ≤ W.heap.size) (hg : W.grownBy W' row) (hr : ∀ k, row = some k → B ≤ k) : Below B w W' :=
  h.grown hg hB hr
/-- What put leaves. -/
def PutP (w : World) (r : Nat) (R : RTp) (x : RSeg) (w' : World) : Prop := ∃ R', RefAt w' r R' ∧ R'.L = putLast x (putAll RSeg.n x R.L) ∧ R'.room = R.room ∧ R'.fuse = R.fuse ∧ R'.down = R.down ∧ Touch (· = r) w w' ∧ ∀ g, R'.v.ownBlock = some g → w.heap.size ≤ g
/-- The middle of a round. -/
def PutMid (w : World) (xb W1 : World) (yb : Nat) (yo : Obj) (st : List RSeg × Bool) (l : Value) (ib : Bool) (wx : World) : Prop := st.2 = ib ∧ PutIn (w.heap.size + 1) l st.1 wx ∧ Below (w.heap.size + 1) xb wx ∧ wx.heap[yb]? = some yo ∧ W1.heap.size ≤ wx.heap.size
theorem put_app {b0 : Nat} {X V W' : World} {o : Obj} {l l' : Value} {acc : List RSeg} (hp : PutIn b0 l acc V) (hb : Below b0 X V) (h0 : b0 ≤ V.heap.size) (x : RSeg) (hr : RowIs W' 3 l' (acc.length + 1) (acc.flatMap RSeg.cells ++ x.cells)) (hg : (V.alloc o).grownBy W' l.ownBlock) (hor : l'.ownBlock = l.ownBlock ∨ l'.ownBlock = some (V.alloc o).heap.size) :
    PutIn b0 l' (acc ++ [x]) W' ∧ Below b0 X W' ∧ V.heap.size ≤ W'.heap.size ∧ ∀ k, k < V.heap.size → l.ownBlock ≠ some k → W'.heap[k]? = V.heap[k]? := by
  have hs := hg.size
  rw [asz] at hs
  refine ⟨(hp.keep (below_new o)).snoc (by rw [asz]; omega) x hr hor, (hb.trans ((below_new o).mono h0)).grown hg (by rw [asz]; omega) hp.new, by omega, fun k hk hne => ?_⟩
  exact (hg.block k (by rw [asz]; omega) (fun e => hne e.symm)).trans (Below.heap_alloc V o k hk)
theorem fin_turn {w wr : World} {r : Nat} {R : RTp} {l : Value} {L : List RSeg} (h : RefAt w r R) (hb : Below w.heap.size w wr) (hp : PutIn (w.heap.size + 1) l L wr) (hsegs : ∀ z ∈ L, BIs w z.v z.b ∧ z.s ≤ z.b.length) (hf : RFar r L) :
    RefAt (wr.setCell ⟨r, 1, none⟩ l) r { R with L := L, v := l } ∧ Touch (· = r) w (wr.setCell ⟨r, 1, none⟩ l) := by
  have hr := heap_lt h.head
  have hh : wr.heap[r]? = _ := (hb.block r hr).trans h.head
  have ht : Touch (· = r) w (wr.setCell ⟨r, 1, none⟩ l) := (Touch.of_below (S := (· = r)) hb).setCell ⟨r, 1, none⟩ (fun _ => rfl) l
  have ht2 : Touch (· = r) wr (wr.setCell ⟨r, 1, none⟩ l) := (Touch.refl (· = r) wr).setCell ⟨r, 1, none⟩ (fun _ => rfl) l
  have hne : ∀ g, l.ownBlock = some g → ¬ g = r := fun g hg e => by have := hp.new g hg; omega
  refine ⟨⟨set_at hh 1 l, hp.row.touch ht2 hne, fun z hz => ⟨?_, (hsegs z hz).2⟩, fun e => hne r e rfl⟩, ht⟩
  obtain ⟨A, cap, e, h1, h2, h3⟩ := (hsegs z hz).1
  refine ⟨A, cap, e, h1, h2, fun i b hi => ?_⟩
  obtain ⟨a, q1, q2, q3⟩ := h3 i b hi
  subst q1
  exact ⟨a, rfl, Nat.lt_of_lt_of_le q2 ht.size, (World.cell?_of_block (a := a.add i) (by rw [add_block]; exact ht.block _ q2 (hf z hz a _ _ e))).trans q3⟩

set_option maxRecDepth 100000 in
set_option maxHeartbeats 4000000 in
theorem rput_any {w : World} {r : Nat} {R : RTp} (h : RefAt w r R) (hl : R.L.length ≤ 1000) (hfar : RFar r R.L) (x : RSeg) (hx : BIs w x.v x.b) (hxs : x.s ≤ x.b.length) (hxf : ∀ A n c, x.v = .slice (some A) n c → A.block ≠ r) :
    Calls Tryz.prog 65 #[.pointer (some ⟨r, 0, none⟩), .agg #[.int .i64 x.n, x.v, .int .i64 (x.s : Int)]] w fun e w' => e = .returned (.tuple #[]) ∧ PutP w r R x w' := by
  obtain ⟨A, cap, ev, hc1, hc2, _⟩ := h.row.form
  have hc := cell_of h.head 1
  replace hc : w.cell? ⟨r, 1, none⟩ = some (.slice A R.L.length cap) := by rw [hc, ← ev]; rfl
  have hrlt := heap_lt h.head
  have f1 : w.frozen? ⟨r, 1, none⟩ = false := free0 h.head 1
  have H := Lib.hid h
  have EV := Lib.hid ev
  have HX := Lib.hid hx
  obtain ⟨Ax, cx, exv, _, _, _⟩ := hx
  have HSEG : Hid (∀ z ∈ putLast x (putAll RSeg.n x R.L), (BIs w z.v z.b ∧ z.s ≤ z.b.length) ∧ ∀ A n c, z.v = .slice (some A) n c → A.block ≠ r) := fun z hz => by
    rcases mem_putLast RSeg.n x R.L z hz with rfl | hz
    · exact ⟨⟨HX.out, hxs⟩, hxf⟩
    · exact ⟨h.segs z hz, hfar z hz⟩
  have HLEN : Hid (∀ k, (putAll RSeg.n x (R.L.take k)).1.length ≤ 1001) := fun k => by
    have h1 := len_putAll RSeg.n x (R.L.take k)
    have h2 : (R.L.take k).length ≤ 1000 := Nat.le_trans (List.length_take_le' _ _) hl
    split at h1 <;> omega
  have HFIN := Lib.hid (fun (l : Value) (wr : World) (hb : Below w.heap.size w wr) (hp : PutIn (w.heap.size + 1) l (putLast x (putAll RSeg.n x R.L)) wr) => (by
    obtain ⟨q1, q2⟩ := fin_turn h hb hp (fun z hz => (HSEG.out z hz).1) (fun z hz => (HSEG.out z hz).2)
    exact ⟨_, q1, rfl, rfl, rfl, rfl, q2, fun g hg => by have := hp.new g hg; omega⟩ : PutP w r R x (wr.setCell ⟨r, 1, none⟩ l)))
  have HXN : ∃ xn, x.n = xn := ⟨_, rfl⟩
  obtain ⟨xn, exn⟩ := HXN
  have HXS : ∃ xs : Nat, x.s = xs := ⟨_, rfl⟩
  obtain ⟨xs, exs⟩ := HXS
  have HXB : ∃ xm : Nat, x.b.length = xm := ⟨_, rfl⟩
  obtain ⟨xm, exm⟩ := HXB
  rw [exm] at exv
  have ECX : Hid (x.cells = [.int .i64 xn, .slice Ax xm cx, .int .i64 (xs : Int)]) := by show _ = _; unfold RSeg.cells; rw [exv, exn, exs]
  rw [exv, exn, exs]
  have EXN := Lib.hid exn
  have HB0 := Lib.hid (below_new (w := w) (.cells #[.int .i64 xn, .slice Ax xm cx, .int .i64 (xs : Int)] 108))
  have HA0 := Lib.hid (alloc_at w (.cells #[.int .i64 xn, .slice Ax xm cx, .int .i64 (xs : Int)] 108))
  have HASZ := Lib.hid (asz w (.cells #[.int .i64 xn, .slice Ax xm cx, .int .i64 (xs : Int)] 108))
  unfold maxLen at hc2
  clear h ev hl hfar hxs hxf exv exn exs exm
  go_enter Tryz.func65, Tryz.ntmps65
  go_wp2_with fail
  go_loopw [4, 5, 13] (fun l inn i wr => ∃ (k : Nat) (ib : Bool) (lv : Value), k ≤ R.L.length ∧ i = .int .i64 k ∧ inn = .bool ib ∧ lv = l ∧ (putAll RSeg.n x (R.L.take k)).2 = ib ∧ PutIn (w.heap.size + 1) lv (putAll RSeg.n x (R.L.take k)).1 wr ∧ Below (w.heap.size + 1) (w.alloc (.cells #[.int .i64 xn, .slice Ax xm cx, .int .i64 (xs : Int)] 108)) wr) (fun _ _ i _ => R.L.length - (intOf i).toNat)
  case atStart => exact ⟨0, false, _, by omega, rfl, rfl, rfl, rfl, ⟨.nil _ _, fun g hg => by cases hg⟩, Below.refl _ _⟩
  case round =>
    obtain ⟨k, ib, l, hk, rfl, rfl, rfl, hst, hp, hb⟩ := hrel
    have HB := Lib.hid hb
    have HBW := Lib.hid (HB0.out.trans (hb.mono (by omega)))
    have hbox := (hb.block w.heap.size (by omega)).trans HA0.out
    have bx0 := cell_of hbox 0
    have bx1 := cell_of hbox 1
    have bx2 := cell_of hbox 2
    simp at bx0 bx1 bx2
    have hszr := HB.out.size
    rw [HASZ.out] at hszr
    by_cases hlt : k < R.L.length
    · have hxk : R.L[k]? = some R.L[k] := List.getElem?_eq_getElem hlt
      obtain ⟨g, rfl, hg, k0, k1, k2⟩ := H.out.seg3 EV.out hxk
      have HBY := Lib.hid (H.out.segs _ (List.getElem_mem hlt)).1
      have HTK : Hid (R.L.take (k + 1) = R.L.take k ++ [R.L[k]]) := by show _ = _; rw [List.take_add_one, hxk]; rfl
      generalize R.L[k] = y at *
      obtain ⟨Ay, cy, ey, _⟩ := HBY.out
      have EYC : Hid (y.cells = [.int .i64 y.n, .slice Ay y.b.length cy, .int .i64 (y.s : Int)]) := by show _ = _; unfold RSeg.cells; rw [ey]
      rw [ey] at k1
      have c0 := (HBW.out.cell (p := ⟨g, k * 3, none⟩) hg).trans k0
      have c1 := (HBW.out.cell (p := ⟨g, k * 3 + 1, none⟩) hg).trans k1
      have c2 := (HBW.out.cell (p := ⟨g, k * 3 + 2, none⟩) hg).trans k2
      have ha : (⟨g, 0, none⟩ : Addr).add (k * 3) = ⟨g, k * 3, none⟩ := add0 _ _
      have HST := Lib.hid hst
      have HP := Lib.hid hp
      have HL := Lib.hid (HLEN.out k)
      have HL2 := Lib.hid (HLEN.out (k + 1))
      rw [HTK.out, putAll_snoc] at HL2
      generalize hS : putAll RSeg.n x (R.L.take k) = S at *
      obtain ⟨acc, ib0⟩ := S
      obtain rfl : ib0 = ib := HST.out
      have HS := Lib.hid hS
      have HACC : Hid (acc.length ≤ 1001) := HL.out
      have HY0 := Lib.hid (alloc_at wr (.cells #[.int .i64 y.n, .slice Ay y.b.length cy, .int .i64 (y.s : Int)] 108))
      have HBY0 := Lib.hid (below_new (w := wr) (.cells #[.int .i64 y.n, .slice Ay y.b.length cy, .int .i64 (y.s : Int)] 108))
      have HP1 : Hid (PutIn (w.heap.size + 1) l acc (wr.alloc (.cells #[.int .i64 y.n, .slice Ay y.b.length cy, .int .i64 (y.s : Int)] 108))) := HP.out.keep HBY0.out
      have HB1 := Lib.hid (HB.out.trans (HBY0.out.mono hszr))
      have HROW := Lib.hid (HP1.out.row.below (below_new (.cells #[.int .i64 xn, .slice Ax xm cx, .int .i64 (xs : Int)] 108)))
      have src := src_seg (W := wr.alloc (.cells #[.int .i64 y.n, .slice Ay y.b.length cy, .int .i64 (y.s : Int)] 108)) xn (xs : Int) Ax xm cx
      rw [asz] at src
      have SRC := Lib.hid src
      have HOWN : Hid (l.ownBlock ≠ some wr.heap.size) := fun e => by have := HP.out.row.lt _ e; omega
      replace hlt : (k : Int) < (R.L.length : Int) := by omega
      clear hxk k0 k1 k2 hb ey hbox hst hp hS src
      have hlt0 : w.heap.size < wr.heap.size := by omega
      have hbA := (HB1.out.block w.heap.size (by omega)).trans HA0.out
      have z0 := cell_of hbA 0
      have z1 := cell_of hbA 1
      have z2 := cell_of hbA 2
      simp at z0 z1 z2
      clear hbA
      have HNX : Hid (putAll RSeg.n x (R.L.take (k + 1)) = putRest RSeg.n x (putHalf RSeg.n x (acc, ib0) y) y) := by
        show _ = _
        rw [HTK.out, putAll_snoc, HS.out]
      by_cases hcx : ib0 = false ∧ x.n ≤ y.n
      · obtain ⟨rfl, hle⟩ := hcx
        have HE0 := Lib.hid (putHalf_true (key := RSeg.n) (x := x) (y := y) (st := (acc, false)) rfl hle)
        rw [EXN.out] at hle
        have HN : Hid (putAll RSeg.n x (R.L.take (k + 1)) = putRest RSeg.n x (acc ++ [x], true) y) := by
          show _ = _
          rw [HNX.out, HE0.out]
        go_wp2_with (at_builtin; refine wpList_append_row _ _ Tryz.underlying79 infoSeg rfl (by decide) (by decide) _ rfl _ _ 79 rfl acc.length 1 (acc.flatMap RSeg.cells) [.int .i64 xn, .slice Ax xm cx, .int .i64 (xs : Int)] _ _ rfl rfl HROW.out SRC.out ?_ ?_)
        · have := HACC.out; omega
        intro v1 w1 hrow hg hor
        rw [← ECX.out] at hrow
        obtain ⟨p1, p2, p3, p4⟩ := put_app HP1.out HB1.out (by rw [asz]; omega) x hrow hg (by rw [asz, asz]; exact hor)
        rw [asz] at p3 p4
        have hy := (p4 wr.heap.size (by omega) HOWN.out).trans HY0.out
        have hbx := (p2.block w.heap.size (by omega)).trans HA0.out
        have y0 := cell_of hy 0
        have y1 := cell_of hy 1
        have y2 := cell_of hy 2
        have x0 := cell_of hbx 0
        simp at y0 y1 y2 x0
        have HP2 := Lib.hid p1
        have HB2 := Lib.hid p2
        have HSZ : Hid (w.heap.size + 1 ≤ w1.heap.size) := by show _ ≤ _; omega
        clear hrow hg hor p1 p2 p3 p4 hy hbx
        obtain ⟨ac2, e2⟩ : ∃ ac2, acc ++ [x] = ac2 := ⟨_, rfl⟩
        rw [e2] at HP2 HN HE0
        clear e2
        by_cases hne : y.n = x.n
        · have HE := Lib.hid (putRest_eq (key := RSeg.n) (st := (ac2, true)) hne)
          rw [EXN.out] at hne
          have q1 : (y.n == xn) = true := by simpa using hne
          have q2 : (y.n != xn) = false := by simpa using hne
          clear hne
          go_wp2_with fail
          go_roundw
          case rel => exact ⟨k + 1, true, _, by omega, by go_num, rfl, rfl, by rw [HN.out, HE.out], by rw [HN.out, HE.out]; exact HP2.out, HB2.out⟩
          case measure => simp [intOf]; omega
        · have HE := Lib.hid (putRest_ne (key := RSeg.n) (st := (ac2, true)) hne)
          rw [EXN.out] at hne
          have q1 : (y.n == xn) = false := by simpa using hne
          have q2 : (y.n != xn) = true := by simpa using hne
          have HROW2 := Lib.hid (HP2.out.row.below (below_new (.cells #[.int .i64 y.n, .slice Ay y.b.length cy, .int .i64 (y.s : Int)] 108)))
          have src2 := src_seg (W := w1) y.n (y.s : Int) Ay y.b.length cy
          skip
          have SRC2 := Lib.hid src2
          have HAC2 : Hid (ac2.length ≤ 1001) := by
            have h1 := HL2.out
            rw [HE0.out, HE.out] at h1
            simp only [List.length_append, List.length_singleton] at h1
            show _ ≤ _
            omega
          clear hne src2
          go_wp2_with (at_builtin; refine wpList_append_row _ _ Tryz.underlying79 infoSeg rfl (by decide) (by decide) _ rfl _ _ 79 rfl ac2.length 1 (ac2.flatMap RSeg.cells) [.int .i64 y.n, .slice Ay y.b.length cy, .int .i64 (y.s : Int)] _ _ rfl rfl HROW2.out SRC2.out ?_ ?_)
          · have := HAC2.out; omega
          intro v2 w2 hrow hg hor
          rw [← EYC.out] at hrow
          have HF := Lib.hid (put_app HP2.out HB2.out HSZ.out y hrow hg (by rw [asz]; exact hor))
          clear hrow hg hor
          go_wp2_with fail
          go_roundw
          case rel => exact ⟨k + 1, true, _, by omega, by go_num, rfl, rfl, by rw [HN.out, HE.out], by rw [HN.out, HE.out]; exact HF.out.1, HF.out.2.1⟩
          case measure => simp [intOf]; omega
      · have hor0 : ib0 = true ∨ ¬ x.n ≤ y.n := by
          cases ib0 with
          | true => exact .inl rfl
          | false => exact .inr fun e => hcx ⟨rfl, e⟩
        have HE0 := Lib.hid (putHalf_false (key := RSeg.n) (x := x) (y := y) (st := (acc, ib0)) hor0)
        have HN : Hid (putAll RSeg.n x (R.L.take (k + 1)) = putRest RSeg.n x (acc, ib0) y) := by
          show _ = _
          rw [HNX.out, HE0.out]
        have HSZ : Hid (w.heap.size + 1 ≤ (wr.alloc (.cells #[.int .i64 y.n, .slice Ay y.b.length cy, .int .i64 (y.s : Int)] 108)).heap.size) := by show _ ≤ _; rw [asz]; omega
        clear hcx
        cases ib0 with
        | true =>
          clear hor0
          by_cases hne : y.n = x.n
          · have HE := Lib.hid (putRest_eq (key := RSeg.n) (st := (acc, true)) hne)
            rw [EXN.out] at hne
            have q1 : (y.n == xn) = true := by simpa using hne
            have q2 : (y.n != xn) = false := by simpa using hne
            clear hne
            go_wp2_with fail
            go_roundw
            case rel => exact ⟨k + 1, true, _, by omega, by go_num, rfl, rfl, by rw [HN.out, HE.out], by rw [HN.out, HE.out]; exact HP1.out, HB1.out⟩
            case measure => simp [intOf]; omega
          · have HE := Lib.hid (putRest_ne (key := RSeg.n) (st := (acc, true)) hne)
            rw [EXN.out] at hne
            have q1 : (y.n == xn) = false := by simpa using hne
            have q2 : (y.n != xn) = true := by simpa using hne
            have HROW2 := Lib.hid (HP1.out.row.below (below_new (.cells #[.int .i64 y.n, .slice Ay y.b.length cy, .int .i64 (y.s : Int)] 108)))
            have src2 := src_seg (W := wr.alloc (.cells #[.int .i64 y.n, .slice Ay y.b.length cy, .int .i64 (y.s : Int)] 108)) y.n (y.s : Int) Ay y.b.length cy
            rw [asz] at src2
            have SRC2 := Lib.hid src2
            have HAC2 : Hid ((acc).length ≤ 1001) := by
              have h1 := HL2.out
              rw [HE0.out, HE.out] at h1
              simp only [List.length_append, List.length_singleton] at h1
              show _ ≤ _
              omega
            clear hne src2
            go_wp2_with (at_builtin; refine wpList_append_row _ _ Tryz.underlying79 infoSeg rfl (by decide) (by decide) _ rfl _ _ 79 rfl (acc).length 1 ((acc).flatMap RSeg.cells) [.int .i64 y.n, .slice Ay y.b.length cy, .int .i64 (y.s : Int)] _ _ rfl rfl HROW2.out SRC2.out ?_ ?_)
            · have := HAC2.out; omega
            intro v2 w2 hrow hg hor
            rw [← EYC.out] at hrow
            have HF := Lib.hid (put_app HP1.out HB1.out HSZ.out y hrow hg (by rw [asz, asz]; exact hor))
            clear hrow hg hor
            go_wp2_with fail
            go_roundw
            case rel => exact ⟨k + 1, true, _, by omega, by go_num, rfl, rfl, by rw [HN.out, HE.out], by rw [HN.out, HE.out]; exact HF.out.1, HF.out.2.1⟩
            case measure => simp [intOf]; omega
        | false =>
          have hle : ¬ xn ≤ y.n := by
            rw [← EXN.out]
            exact hor0.elim (fun e => by cases e) id
          clear hor0
          by_cases hne : y.n = x.n
          · have HE := Lib.hid (putRest_eq (key := RSeg.n) (st := (acc, false)) hne)
            rw [EXN.out] at hne
            have q1 : (y.n == xn) = true := by simpa using hne
            have q2 : (y.n != xn) = false := by simpa using hne
            clear hne
            go_wp2_with fail
            go_roundw
            case rel => exact ⟨k + 1, false, _, by omega, by go_num, rfl, rfl, by rw [HN.out, HE.out], by rw [HN.out, HE.out]; exact HP1.out, HB1.out⟩
            case measure => simp [intOf]; omega
          · have HE := Lib.hid (putRest_ne (key := RSeg.n) (st := (acc, false)) hne)
            rw [EXN.out] at hne
            have q1 : (y.n == xn) = false := by simpa using hne
            have q2 : (y.n != xn) = true := by simpa using hne
            have HROW2 := Lib.hid (HP1.out.row.below (below_new (.cells #[.int .i64 y.n, .slice Ay y.b.length cy, .int .i64 (y.s : Int)] 108)))
            have src2 := src_seg (W := wr.alloc (.cells #[.int .i64 y.n, .slice Ay y.b.length cy, .int .i64 (y.s : Int)] 108)) y.n (y.s : Int) Ay y.b.length cy
            rw [asz] at src2
            have SRC2 := Lib.hid src2
            have HAC2 : Hid ((acc).length ≤ 1001) := by
              have h1 := HL2.out
              rw [HE0.out, HE.out] at h1
              simp only [List.length_append, List.length_singleton] at h1
              show _ ≤ _
              omega
            clear hne src2
            go_wp2_with (at_builtin; refine wpList_append_row _ _ Tryz.underlying79 infoSeg rfl (by decide) (by decide) _ rfl _ _ 79 rfl (acc).length 1 ((acc).flatMap RSeg.cells) [.int .i64 y.n, .slice Ay y.b.length cy, .int .i64 (y.s : Int)] _ _ rfl rfl HROW2.out SRC2.out ?_ ?_)
            · have := HAC2.out; omega
            intro v2 w2 hrow hg hor
            rw [← EYC.out] at hrow
            have HF := Lib.hid (put_app HP1.out HB1.out HSZ.out y hrow hg (by rw [asz, asz]; exact hor))
            clear hrow hg hor
            go_wp2_with fail
            go_roundw
            case rel => exact ⟨k + 1, false, _, by omega, by go_num, rfl, rfl, by rw [HN.out, HE.out], by rw [HN.out, HE.out]; exact HF.out.1, HF.out.2.1⟩
            case measure => simp [intOf]; omega
    · obtain rfl : k = R.L.length := by omega
      rw [List.take_length] at hst hp
      have HL := HLEN.out R.L.length
      rw [List.take_length] at HL
      have HLH := Lib.hid HL
      have hcr := (HBW.out.cell (p := ⟨r, 1, none⟩) hrlt).trans hc
      have hfr := (HBW.out.frozen (p := ⟨r, 1, none⟩) hrlt).trans f1
      have HP := Lib.hid hp
      have HST := Lib.hid hst
      cases ib with
      | true =>
        have HLA : Hid (putLast x (putAll RSeg.n x R.L) = (putAll RSeg.n x R.L).1) := by show _ = _; unfold putLast; rw [HST.out]; rfl
        have HF := Lib.hid (HFIN.out l wr HBW.out (by rw [HLA.out]; exact HP.out))
        obtain ⟨Al, cl, rfl, _, _, _, _, _⟩ := hp.row.form
        clear hp hst hb hbox HL
        go_wp2
        go_end0
        exact ⟨rfl, HF.out⟩
      | false =>
        have HLA : Hid (putLast x (putAll RSeg.n x R.L) = (putAll RSeg.n x R.L).1 ++ [x]) := by show _ = _; unfold putLast; rw [HST.out]; rfl
        have HROW := Lib.hid (HP.out.row.below (below_new (.cells #[.int .i64 xn, .slice Ax xm cx, .int .i64 (xs : Int)] 108)))
        have SRC := Lib.hid (src_seg (W := wr) xn (xs : Int) Ax xm cx)
        have HSZ : Hid (w.heap.size + 1 ≤ wr.heap.size) := hszr
        have HRF : Hid (¬ l.ownBlock = some r) := fun e => by have := HP.out.new r e; omega
        generalize (putAll RSeg.n x R.L).1 = acc at *
        clear hp hst hb hbox HL
        go_wp2_with (at_builtin; refine wpList_append_row _ _ Tryz.underlying79 infoSeg rfl (by decide) (by decide) _ rfl _ _ 79 rfl acc.length 1 (acc.flatMap RSeg.cells) [.int .i64 xn, .slice Ax xm cx, .int .i64 (xs : Int)] _ _ rfl rfl HROW.out SRC.out ?_ ?_)
        · have := HLH.out; omega
        intro v' w' hrow hg hor
        obtain ⟨Al, cl, rfl, _, _, _, _, _⟩ := hrow.form
        rw [← ECX.out] at hrow
        obtain ⟨q1, q2, q3, q4⟩ := put_app HP.out HB.out HSZ.out x hrow hg (by rw [asz]; exact hor)
        have hk := q4 r (by omega) HRF.out
        have hcr' := (World.cell?_of_block (a := ⟨r, 1, none⟩) hk).trans hcr
        have hfr' := (World.frozen?_of_block (a := ⟨r, 1, none⟩) hk).trans hfr
        have HF := Lib.hid (HFIN.out _ w' (HB0.out.trans (q2.mono (by omega))) (by rw [HLA.out]; exact q1))
        clear hrow hg hor q1 q2 q3 q4 hk hcr hfr
        go_wp2
        go_end0
        exact ⟨rfl, HF.out⟩
end Go.Proofs.YtkdcknkgfgkoaaaGreatDoor
