/- The reference's tape: put. The reference's tape in plain words; what put makes of it. The reference's tape: Do, where it answers an error of its own. The reference's tape: Do, where the fuse is asked: Sync. The reference's tape: Do, Trim. The reference's tape: Do, Drop. -/
import Derived.Test.YtnegnokielmgkaaGreatDoorZRefA
import Derived.Test.YtnegnokielmgkaaGreatDoorZKepA
set_option linter.unusedSimpArgs false
set_option linter.unusedVariables false
set_option linter.unnecessarySimpa false
namespace Go.Proofs.YtnegnokielmgkaaGreatDoor
open Go.RowKit

theorem infoSeg : (Tryz.prog.info? 108).map (fun i => (i.zero, i.size, i.bytes)) = some (some (.agg #[.int .i64 0, .slice none 0 0, .int .i64 0]), 3, 40) := by kernel_rfl
def RSeg.ab (x : RSeg) : Sg := (x.n, x.b, x.s)
def absR (L : List RSeg) : List Sg := L.map RSeg.ab
/-- A block that the reference's tape reads. -/
def RBlk (r : Nat) (R : RTp) (k : Nat) : Prop := k = r ∨ R.v.ownBlock = some k ∨ ∃ x ∈ R.L, ∃ A n c, x.v = .slice (some A) n c ∧ A.block = k
/-- The segments' bytes lie elsewhere than the tape itself. -/
def RFar (r : Nat) (L : List RSeg) : Prop := ∀ x ∈ L, ∀ A n c, x.v = .slice (some A) n c → A.block ≠ r
theorem flat_snoc (l : List RSeg) (x : RSeg) : (l ++ [x]).flatMap RSeg.cells = l.flatMap RSeg.cells ++ x.cells := by simp
theorem src_seg {W : World} (n s : Int) (A : Option Addr) (m c : Nat) : Src Tryz.prog 3 79 (.slice (some ⟨W.heap.size, 0, none⟩) 1 1) 1 [.int .i64 n, .slice A m c, .int .i64 s] (W.alloc (.cells #[.int .i64 n, .slice A m c, .int .i64 s] 108)) := by
  refine Src.ofSlice _ Tryz.underlying79 ⟨W.heap.size, 0, none⟩ 1 1 _ rfl (fun j u hu => ?_) (by simp [Value.oneCell'])
  rw [add0, cell_of (alloc_at W _)]
  simpa using hu
/-- What is collected so far: a row of one's own. -/
structure PutIn (b0 : Nat) (l : Value) (acc : List RSeg) (W : World) : Prop where
  row : RowIs W 3 l acc.length (acc.flatMap RSeg.cells)
  new : ∀ g, l.ownBlock = some g → b0 ≤ g
theorem PutIn.keep {b0 : Nat} {l : Value} {acc : List RSeg} {W W' : World} (h : PutIn b0 l acc W) (hb : Below W.heap.size W W') : PutIn b0 l acc W' := ⟨h.row.below hb, h.new⟩
theorem PutIn.snoc {b0 : Nat} {l l' : Value} {acc : List RSeg} {W W' : World} (h : PutIn b0 l acc W) (hb0 : b0 ≤ W.heap.size) (x : RSeg) (hr : RowIs W' 3 l' (acc.length + 1) (acc.flatMap RSeg.cells ++ x.cells)) (ho : l'.ownBlock = l.ownBlock ∨ l'.ownBlock = some W.heap.size) : PutIn b0 l' (acc ++ [x]) W' := by
  refine ⟨by rw [flat_snoc, List.length_append]; exact hr, fun g hg => ?_⟩
  rcases ho with e | e
  · exact h.new g (by rw [← e]; exact hg)
  · rw [e] at hg; injection hg with hg; omega
/-- grownBy of a row of one's own leaves what lies below. -/
theorem below_grownR {B : Nat} {w W W' : World} {row : Option Nat} (h : Below B w W) (hB : B ≤ W.heap.size) (hg : W.grownBy W' row) (hr : ∀ k, row = some k → B ≤ k) : Below B w W' :=
  h.grown hg hB hr
/-- What put leaves. -/
def RPutP (w : World) (r : Nat) (R : RTp) (x : RSeg) (w' : World) : Prop := ∃ R', RefAt w' r R' ∧ R'.L = putLast x (putAll RSeg.n x R.L) ∧ R'.room = R.room ∧ R'.fuse = R.fuse ∧ R'.down = R.down ∧ Touch (· = r) w w' ∧ ∀ g, R'.v.ownBlock = some g → w.heap.size ≤ g
/-- The middle of a round. -/
def PutMid (w : World) (xb W1 : World) (yb : Nat) (yo : Obj) (st : List RSeg × Bool) (l : Value) (ib : Bool) (wx : World) : Prop := st.2 = ib ∧ PutIn (w.heap.size + 1) l st.1 wx ∧ Below (w.heap.size + 1) xb wx ∧ wx.heap[yb]? = some yo ∧ W1.heap.size ≤ wx.heap.size
theorem put_app {b0 : Nat} {X V W' : World} {o : Obj} {l l' : Value} {acc : List RSeg} (hp : PutIn b0 l acc V) (hb : Below b0 X V) (h0 : b0 ≤ V.heap.size) (x : RSeg) (hr : RowIs W' 3 l' (acc.length + 1) (acc.flatMap RSeg.cells ++ x.cells)) (hg : (V.alloc o).grownBy W' l.ownBlock) (hor : l'.ownBlock = l.ownBlock ∨ l'.ownBlock = some (V.alloc o).heap.size) :
    PutIn b0 l' (acc ++ [x]) W' ∧ Below b0 X W' ∧ V.heap.size ≤ W'.heap.size ∧ ∀ k, k < V.heap.size → l.ownBlock ≠ some k → W'.heap[k]? = V.heap[k]? := by
  have hs := hg.size
  rw [asz] at hs
  refine ⟨(hp.keep (below_new o)).snoc (by rw [asz]; omega) x hr hor, (hb.trans ((below_new o).mono h0)).grown hg (by rw [asz]; omega) hp.new, by omega, fun k hk hne => ?_⟩
  exact (hg.block k (by rw [asz]; omega) (fun e => hne e.symm)).trans (Below.heap_alloc V o k hk)
theorem fin_turn {w wr : World} {r : Nat} {R : RTp} {l : Value} {L : List RSeg} (h : RefAt w r R) (hb : Below w.heap.size w wr) (hp : PutIn (w.heap.size + 1) l L wr) (hsegs : ∀ z ∈ L, BIs w z.v z.b ∧ z.s ≤ z.b.length) (hf : RFar r L) :
    RefAt (wr.setCell ⟨r, 1, none⟩ l) r { R with L := L, v := l } ∧ Touch (· = r) w (wr.setCell ⟨r, 1, none⟩ l) := by
  have hr := heap_lt h.head
  have hh : wr.heap[r]? = _ := (hb.block r hr).trans h.head
  have ht : Touch (· = r) w (wr.setCell ⟨r, 1, none⟩ l) := (Touch.of_below (S := (· = r)) hb).setCell ⟨r, 1, none⟩ (fun _ => rfl) l
  have ht2 : Touch (· = r) wr (wr.setCell ⟨r, 1, none⟩ l) := (Touch.refl (· = r) wr).setCell ⟨r, 1, none⟩ (fun _ => rfl) l
  have hne : ∀ g, l.ownBlock = some g → ¬ g = r := fun g hg e => by have := hp.new g hg; omega
  refine ⟨⟨set_at hh 1 l, hp.row.touch ht2 hne, fun z hz => ⟨?_, (hsegs z hz).2⟩, fun e => hne r e rfl⟩, ht⟩
  obtain ⟨A, cap, e, h1, h2, h3⟩ := (hsegs z hz).1
  refine ⟨A, cap, e, h1, h2, fun i b hi => ?_⟩
  obtain ⟨a, q1, q2, q3⟩ := h3 i b hi
  subst q1
  exact ⟨a, rfl, Nat.lt_of_lt_of_le q2 ht.size, (World.cell?_of_block (a := a.add i) (by rw [add_block]; exact ht.block _ q2 (hf z hz a _ _ e))).trans q3⟩

set_option maxRecDepth 100000 in
set_option maxHeartbeats 4000000 in
theorem rput_any {w : World} {r : Nat} {R : RTp} (h : RefAt w r R) (hl : R.L.length ≤ 1000) (hfar : RFar r R.L) (x : RSeg) (hx : BIs w x.v x.b) (hxs : x.s ≤ x.b.length) (hxf : ∀ A n c, x.v = .slice (some A) n c → A.block ≠ r) :
    Calls Tryz.prog 65 #[.pointer (some ⟨r, 0, none⟩), .agg #[.int .i64 x.n, x.v, .int .i64 (x.s : Int)]] w fun e w' => e = .returned (.tuple #[]) ∧ RPutP w r R x w' := by
  obtain ⟨A, cap, ev, hc1, hc2, _⟩ := h.row.form
  have hc := cell_of h.head 1
  replace hc : w.cell? ⟨r, 1, none⟩ = some (.slice A R.L.length cap) := by rw [hc, ← ev]; rfl
  have hrlt := heap_lt h.head
  have f1 : w.frozen? ⟨r, 1, none⟩ = false := free0 h.head 1
  have H := Lib.hid h
  have EV := Lib.hid ev
  have HX := Lib.hid hx
  obtain ⟨Ax, cx, exv, _, _, _⟩ := hx
  have HSEG : Hid (∀ z ∈ putLast x (putAll RSeg.n x R.L), (BIs w z.v z.b ∧ z.s ≤ z.b.length) ∧ ∀ A n c, z.v = .slice (some A) n c → A.block ≠ r) := fun z hz => by
    rcases mem_putLast RSeg.n x R.L z hz with rfl | hz
    · exact ⟨⟨HX.out, hxs⟩, hxf⟩
    · exact ⟨h.segs z hz, hfar z hz⟩
  have HLEN : Hid (∀ k, (putAll RSeg.n x (R.L.take k)).1.length ≤ 1001) := fun k => by
    have h1 := len_putAll RSeg.n x (R.L.take k)
    have h2 : (R.L.take k).length ≤ 1000 := Nat.le_trans (List.length_take_le' _ _) hl
    split at h1 <;> omega
  have HFIN := Lib.hid (fun (l : Value) (wr : World) (hb : Below w.heap.size w wr) (hp : PutIn (w.heap.size + 1) l (putLast x (putAll RSeg.n x R.L)) wr) => (by
    obtain ⟨q1, q2⟩ := fin_turn h hb hp (fun z hz => (HSEG.out z hz).1) (fun z hz => (HSEG.out z hz).2)
    exact ⟨_, q1, rfl, rfl, rfl, rfl, q2, fun g hg => by have := hp.new g hg; omega⟩ : RPutP w r R x (wr.setCell ⟨r, 1, none⟩ l)))
  have HXN : ∃ xn, x.n = xn := ⟨_, rfl⟩
  obtain ⟨xn, exn⟩ := HXN
  have HXS : ∃ xs : Nat, x.s = xs := ⟨_, rfl⟩
  obtain ⟨xs, exs⟩ := HXS
  have HXB : ∃ xm : Nat, x.b.length = xm := ⟨_, rfl⟩
  obtain ⟨xm, exm⟩ := HXB
  rw [exm] at exv
  have ECX : Hid (x.cells = [.int .i64 xn, .slice Ax xm cx, .int .i64 (xs : Int)]) := by show _ = _; unfold RSeg.cells; rw [exv, exn, exs]
  rw [exv, exn, exs]
  have EXN := Lib.hid exn
  have HB0 := Lib.hid (below_new (w := w) (.cells #[.int .i64 xn, .slice Ax xm cx, .int .i64 (xs : Int)] 108))
  have HA0 := Lib.hid (alloc_at w (.cells #[.int .i64 xn, .slice Ax xm cx, .int .i64 (xs : Int)] 108))
  have HASZ := Lib.hid (asz w (.cells #[.int .i64 xn, .slice Ax xm cx, .int .i64 (xs : Int)] 108))
  unfold maxLen at hc2
  clear h ev hl hfar hxs hxf exv exn exs exm
  go_enter Tryz.func65, Tryz.ntmps65
  go_wp2_with fail
  go_loopw [4, 5, 13] (fun l inn i wr => ∃ (k : Nat) (ib : Bool) (lv : Value), k ≤ R.L.length ∧ i = .int .i64 k ∧ inn = .bool ib ∧ lv = l ∧ (putAll RSeg.n x (R.L.take k)).2 = ib ∧ PutIn (w.heap.size + 1) lv (putAll RSeg.n x (R.L.take k)).1 wr ∧ Below (w.heap.size + 1) (w.alloc (.cells #[.int .i64 xn, .slice Ax xm cx, .int .i64 (xs : Int)] 108)) wr) (fun _ _ i _ => R.L.length - (intOf i).toNat)
  case atStart => exact ⟨0, false, _, by omega, rfl, rfl, rfl, rfl, ⟨.nil _ _, fun g hg => by cases hg⟩, Below.refl _ _⟩
  case round =>
    obtain ⟨k, ib, l, hk, rfl, rfl, rfl, hst, hp, hb⟩ := hrel
    have HB := Lib.hid hb
    have HBW := Lib.hid (HB0.out.trans (hb.mono (by omega)))
    have hbox := (hb.block w.heap.size (by omega)).trans HA0.out
    have bx0 := cell_of hbox 0
    have bx1 := cell_of hbox 1
    have bx2 := cell_of hbox 2
    simp at bx0 bx1 bx2
    have hszr := HB.out.size
    rw [HASZ.out] at hszr
    by_cases hlt : k < R.L.length
    · have hxk : R.L[k]? = some R.L[k] := List.getElem?_eq_getElem hlt
      obtain ⟨g, rfl, hg, k0, k1, k2⟩ := H.out.seg3 EV.out hxk
      have HBY := Lib.hid (H.out.segs _ (List.getElem_mem hlt)).1
      have HTK : Hid (R.L.take (k + 1) = R.L.take k ++ [R.L[k]]) := by show _ = _; rw [List.take_add_one, hxk]; rfl
      generalize R.L[k] = y at *
      obtain ⟨Ay, cy, ey, _⟩ := HBY.out
      have EYC : Hid (y.cells = [.int .i64 y.n, .slice Ay y.b.length cy, .int .i64 (y.s : Int)]) := by show _ = _; unfold RSeg.cells; rw [ey]
      rw [ey] at k1
      have c0 := (HBW.out.cell (p := ⟨g, k * 3, none⟩) hg).trans k0
      have c1 := (HBW.out.cell (p := ⟨g, k * 3 + 1, none⟩) hg).trans k1
      have c2 := (HBW.out.cell (p := ⟨g, k * 3 + 2, none⟩) hg).trans k2
      have ha : (⟨g, 0, none⟩ : Addr).add (k * 3) = ⟨g, k * 3, none⟩ := add0 _ _
      have HST := Lib.hid hst
      have HP := Lib.hid hp
      have HL := Lib.hid (HLEN.out k)
      have HL2 := Lib.hid (HLEN.out (k + 1))
      rw [HTK.out, putAll_snoc] at HL2
      generalize hS : putAll RSeg.n x (R.L.take k) = S at *
      obtain ⟨acc, ib0⟩ := S
      obtain rfl : ib0 = ib := HST.out
      have HS := Lib.hid hS
      have HACC : Hid (acc.length ≤ 1001) := HL.out
      have HY0 := Lib.hid (alloc_at wr (.cells #[.int .i64 y.n, .slice Ay y.b.length cy, .int .i64 (y.s : Int)] 108))
      have HBY0 := Lib.hid (below_new (w := wr) (.cells #[.int .i64 y.n, .slice Ay y.b.length cy, .int .i64 (y.s : Int)] 108))
      have HP1 : Hid (PutIn (w.heap.size + 1) l acc (wr.alloc (.cells #[.int .i64 y.n, .slice Ay y.b.length cy, .int .i64 (y.s : Int)] 108))) := HP.out.keep HBY0.out
      have HB1 := Lib.hid (HB.out.trans (HBY0.out.mono hszr))
      have HROW := Lib.hid (HP1.out.row.below (below_new (.cells #[.int .i64 xn, .slice Ax xm cx, .int .i64 (xs : Int)] 108)))
      have src := src_seg (W := wr.alloc (.cells #[.int .i64 y.n, .slice Ay y.b.length cy, .int .i64 (y.s : Int)] 108)) xn (xs : Int) Ax xm cx
      rw [asz] at src
      have SRC := Lib.hid src
      have HOWN : Hid (l.ownBlock ≠ some wr.heap.size) := fun e => by have := HP.out.row.lt _ e; omega
      replace hlt : (k : Int) < (R.L.length : Int) := by omega
      clear hxk k0 k1 k2 hb ey hbox hst hp hS src
      have hlt0 : w.heap.size < wr.heap.size := by omega
      have hbA := (HB1.out.block w.heap.size (by omega)).trans HA0.out
      have z0 := cell_of hbA 0
      have z1 := cell_of hbA 1
      have z2 := cell_of hbA 2
      simp at z0 z1 z2
      clear hbA
      have HNX : Hid (putAll RSeg.n x (R.L.take (k + 1)) = putRest RSeg.n x (putHalf RSeg.n x (acc, ib0) y) y) := by
        show _ = _
        rw [HTK.out, putAll_snoc, HS.out]
      by_cases hcx : ib0 = false ∧ x.n ≤ y.n
      · obtain ⟨rfl, hle⟩ := hcx
        have HE0 := Lib.hid (putHalf_true (key := RSeg.n) (x := x) (y := y) (st := (acc, false)) rfl hle)
        rw [EXN.out] at hle
        have HN : Hid (putAll RSeg.n x (R.L.take (k + 1)) = putRest RSeg.n x (acc ++ [x], true) y) := by
          show _ = _
          rw [HNX.out, HE0.out]
        go_wp2_with (at_builtin; refine wpList_append_row _ _ Tryz.underlying79 infoSeg rfl (by decide) (by decide) _ rfl _ _ 79 rfl acc.length 1 (acc.flatMap RSeg.cells) [.int .i64 xn, .slice Ax xm cx, .int .i64 (xs : Int)] _ _ rfl rfl HROW.out SRC.out ?_ ?_)
        · have := HACC.out; omega
        intro v1 w1 hrow hg hor
        rw [← ECX.out] at hrow
        obtain ⟨p1, p2, p3, p4⟩ := put_app HP1.out HB1.out (by rw [asz]; omega) x hrow hg (by rw [asz, asz]; exact hor)
        rw [asz] at p3 p4
        have hy := (p4 wr.heap.size (by omega) HOWN.out).trans HY0.out
        have hbx := (p2.block w.heap.size (by omega)).trans HA0.out
        have y0 := cell_of hy 0
        have y1 := cell_of hy 1
        have y2 := cell_of hy 2
        have x0 := cell_of hbx 0
        simp at y0 y1 y2 x0
        have HP2 := Lib.hid p1
        have HB2 := Lib.hid p2
        have HSZ : Hid (w.heap.size + 1 ≤ w1.heap.size) := by show _ ≤ _; omega
        clear hrow hg hor p1 p2 p3 p4 hy hbx
        obtain ⟨ac2, e2⟩ : ∃ ac2, acc ++ [x] = ac2 := ⟨_, rfl⟩
        rw [e2] at HP2 HN HE0
        clear e2
        by_cases hne : y.n = x.n
        · have HE := Lib.hid (putRest_eq (key := RSeg.n) (st := (ac2, true)) hne)
          rw [EXN.out] at hne
          have q1 : (y.n == xn) = true := by simpa using hne
          have q2 : (y.n != xn) = false := by simpa using hne
          clear hne
          go_wp2_with fail
          go_roundw
          case rel => exact ⟨k + 1, true, _, by omega, by go_num, rfl, rfl, by rw [HN.out, HE.out], by rw [HN.out, HE.out]; exact HP2.out, HB2.out⟩
          case measure => simp [intOf]; omega
        · have HE := Lib.hid (putRest_ne (key := RSeg.n) (st := (ac2, true)) hne)
          rw [EXN.out] at hne
          have q1 : (y.n == xn) = false := by simpa using hne
          have q2 : (y.n != xn) = true := by simpa using hne
          have HROW2 := Lib.hid (HP2.out.row.below (below_new (.cells #[.int .i64 y.n, .slice Ay y.b.length cy, .int .i64 (y.s : Int)] 108)))
          have src2 := src_seg (W := w1) y.n (y.s : Int) Ay y.b.length cy
          skip
          have SRC2 := Lib.hid src2
          have HAC2 : Hid (ac2.length ≤ 1001) := by
            have h1 := HL2.out
            rw [HE0.out, HE.out] at h1
            simp only [List.length_append, List.length_singleton] at h1
            show _ ≤ _
            omega
          clear hne src2
          go_wp2_with (at_builtin; refine wpList_append_row _ _ Tryz.underlying79 infoSeg rfl (by decide) (by decide) _ rfl _ _ 79 rfl ac2.length 1 (ac2.flatMap RSeg.cells) [.int .i64 y.n, .slice Ay y.b.length cy, .int .i64 (y.s : Int)] _ _ rfl rfl HROW2.out SRC2.out ?_ ?_)
          · have := HAC2.out; omega
          intro v2 w2 hrow hg hor
          rw [← EYC.out] at hrow
          have HF := Lib.hid (put_app HP2.out HB2.out HSZ.out y hrow hg (by rw [asz]; exact hor))
          clear hrow hg hor
          go_wp2_with fail
          go_roundw
          case rel => exact ⟨k + 1, true, _, by omega, by go_num, rfl, rfl, by rw [HN.out, HE.out], by rw [HN.out, HE.out]; exact HF.out.1, HF.out.2.1⟩
          case measure => simp [intOf]; omega
      · have hor0 : ib0 = true ∨ ¬ x.n ≤ y.n := by
          cases ib0 with
          | true => exact .inl rfl
          | false => exact .inr fun e => hcx ⟨rfl, e⟩
        have HE0 := Lib.hid (putHalf_false (key := RSeg.n) (x := x) (y := y) (st := (acc, ib0)) hor0)
        have HN : Hid (putAll RSeg.n x (R.L.take (k + 1)) = putRest RSeg.n x (acc, ib0) y) := by
          show _ = _
          rw [HNX.out, HE0.out]
        have HSZ : Hid (w.heap.size + 1 ≤ (wr.alloc (.cells #[.int .i64 y.n, .slice Ay y.b.length cy, .int .i64 (y.s : Int)] 108)).heap.size) := by show _ ≤ _; rw [asz]; omega
        clear hcx
        cases ib0 with
        | true =>
          clear hor0
          by_cases hne : y.n = x.n
          · have HE := Lib.hid (putRest_eq (key := RSeg.n) (st := (acc, true)) hne)
            rw [EXN.out] at hne
            have q1 : (y.n == xn) = true := by simpa using hne
            have q2 : (y.n != xn) = false := by simpa using hne
            clear hne
            go_wp2_with fail
            go_roundw
            case rel => exact ⟨k + 1, true, _, by omega, by go_num, rfl, rfl, by rw [HN.out, HE.out], by rw [HN.out, HE.out]; exact HP1.out, HB1.out⟩
            case measure => simp [intOf]; omega
          · have HE := Lib.hid (putRest_ne (key := RSeg.n) (st := (acc, true)) hne)
            rw [EXN.out] at hne
            have q1 : (y.n == xn) = false := by simpa using hne
            have q2 : (y.n != xn) = true := by simpa using hne
            have HROW2 := Lib.hid (HP1.out.row.below (below_new (.cells #[.int .i64 y.n, .slice Ay y.b.length cy, .int .i64 (y.s : Int)] 108)))
            have src2 := src_seg (W := wr.alloc (.cells #[.int .i64 y.n, .slice Ay y.b.length cy, .int .i64 (y.s : Int)] 108)) y.n (y.s : Int) Ay y.b.length cy
            rw [asz] at src2
            have SRC2 := Lib.hid src2
            have HAC2 : Hid ((acc).length ≤ 1001) := by
              have h1 := HL2.out
              rw [HE0.out, HE.out] at h1
              simp only [List.length_append, List.length_singleton] at h1
              show _ ≤ _
              omega
            clear hne src2
            go_wp2_with (at_builtin; refine wpList_append_row _ _ Tryz.underlying79 infoSeg rfl (by decide) (by decide) _ rfl _ _ 79 rfl (acc).length 1 ((acc).flatMap RSeg.cells) [.int .i64 y.n, .slice Ay y.b.length cy, .int .i64 (y.s : Int)] _ _ rfl rfl HROW2.out SRC2.out ?_ ?_)
            · have := HAC2.out; omega
            intro v2 w2 hrow hg hor
            rw [← EYC.out] at hrow
            have HF := Lib.hid (put_app HP1.out HB1.out HSZ.out y hrow hg (by rw [asz, asz]; exact hor))
            clear hrow hg hor
            go_wp2_with fail
            go_roundw
            case rel => exact ⟨k + 1, true, _, by omega, by go_num, rfl, rfl, by rw [HN.out, HE.out], by rw [HN.out, HE.out]; exact HF.out.1, HF.out.2.1⟩
            case measure => simp [intOf]; omega
        | false =>
          have hle : ¬ xn ≤ y.n := by
            rw [← EXN.out]
            exact hor0.elim (fun e => by cases e) id
          clear hor0
          by_cases hne : y.n = x.n
          · have HE := Lib.hid (putRest_eq (key := RSeg.n) (st := (acc, false)) hne)
            rw [EXN.out] at hne
            have q1 : (y.n == xn) = true := by simpa using hne
            have q2 : (y.n != xn) = false := by simpa using hne
            clear hne
            go_wp2_with fail
            go_roundw
            case rel => exact ⟨k + 1, false, _, by omega, by go_num, rfl, rfl, by rw [HN.out, HE.out], by rw [HN.out, HE.out]; exact HP1.out, HB1.out⟩
            case measure => simp [intOf]; omega
          · have HE := Lib.hid (putRest_ne (key := RSeg.n) (st := (acc, false)) hne)
            rw [EXN.out] at hne
            have q1 : (y.n == xn) = false := by simpa using hne
            have q2 : (y.n != xn) = true := by simpa using hne
            have HROW2 := Lib.hid (HP1.out.row.below (below_new (.cells #[.int .i64 y.n, .slice Ay y.b.length cy, .int .i64 (y.s : Int)] 108)))
            have src2 := src_seg (W := wr.alloc (.cells #[.int .i64 y.n, .slice Ay y.b.length cy, .int .i64 (y.s : Int)] 108)) y.n (y.s : Int) Ay y.b.length cy
            rw [asz] at src2
            have SRC2 := Lib.hid src2
            have HAC2 : Hid ((acc).length ≤ 1001) := by
              have h1 := HL2.out
              rw [HE0.out, HE.out] at h1
              simp only [List.length_append, List.length_singleton] at h1
              show _ ≤ _
              omega
            clear hne src2
            go_wp2_with (at_builtin; refine wpList_append_row _ _ Tryz.underlying79 infoSeg rfl (by decide) (by decide) _ rfl _ _ 79 rfl (acc).length 1 ((acc).flatMap RSeg.cells) [.int .i64 y.n, .slice Ay y.b.length cy, .int .i64 (y.s : Int)] _ _ rfl rfl HROW2.out SRC2.out ?_ ?_)
            · have := HAC2.out; omega
            intro v2 w2 hrow hg hor
            rw [← EYC.out] at hrow
            have HF := Lib.hid (put_app HP1.out HB1.out HSZ.out y hrow hg (by rw [asz, asz]; exact hor))
            clear hrow hg hor
            go_wp2_with fail
            go_roundw
            case rel => exact ⟨k + 1, false, _, by omega, by go_num, rfl, rfl, by rw [HN.out, HE.out], by rw [HN.out, HE.out]; exact HF.out.1, HF.out.2.1⟩
            case measure => simp [intOf]; omega
    · obtain rfl : k = R.L.length := by omega
      rw [List.take_length] at hst hp
      have HL := HLEN.out R.L.length
      rw [List.take_length] at HL
      have HLH := Lib.hid HL
      have hcr := (HBW.out.cell (p := ⟨r, 1, none⟩) hrlt).trans hc
      have hfr := (HBW.out.frozen (p := ⟨r, 1, none⟩) hrlt).trans f1
      have HP := Lib.hid hp
      have HST := Lib.hid hst
      cases ib with
      | true =>
        have HLA : Hid (putLast x (putAll RSeg.n x R.L) = (putAll RSeg.n x R.L).1) := by show _ = _; unfold putLast; rw [HST.out]; rfl
        have HF := Lib.hid (HFIN.out l wr HBW.out (by rw [HLA.out]; exact HP.out))
        obtain ⟨Al, cl, rfl, _, _, _, _, _⟩ := hp.row.form
        clear hp hst hb hbox HL
        go_wp2
        go_end0
        exact ⟨rfl, HF.out⟩
      | false =>
        have HLA : Hid (putLast x (putAll RSeg.n x R.L) = (putAll RSeg.n x R.L).1 ++ [x]) := by show _ = _; unfold putLast; rw [HST.out]; rfl
        have HROW := Lib.hid (HP.out.row.below (below_new (.cells #[.int .i64 xn, .slice Ax xm cx, .int .i64 (xs : Int)] 108)))
        have SRC := Lib.hid (src_seg (W := wr) xn (xs : Int) Ax xm cx)
        have HSZ : Hid (w.heap.size + 1 ≤ wr.heap.size) := hszr
        have HRF : Hid (¬ l.ownBlock = some r) := fun e => by have := HP.out.new r e; omega
        generalize (putAll RSeg.n x R.L).1 = acc at *
        clear hp hst hb hbox HL
        go_wp2_with (at_builtin; refine wpList_append_row _ _ Tryz.underlying79 infoSeg rfl (by decide) (by decide) _ rfl _ _ 79 rfl acc.length 1 (acc.flatMap RSeg.cells) [.int .i64 xn, .slice Ax xm cx, .int .i64 (xs : Int)] _ _ rfl rfl HROW.out SRC.out ?_ ?_)
        · have := HLH.out; omega
        intro v' w' hrow hg hor
        obtain ⟨Al, cl, rfl, _, _, _, _, _⟩ := hrow.form
        rw [← ECX.out] at hrow
        obtain ⟨q1, q2, q3, q4⟩ := put_app HP.out HB.out HSZ.out x hrow hg (by rw [asz]; exact hor)
        have hk := q4 r (by omega) HRF.out
        have hcr' := (World.cell?_of_block (a := ⟨r, 1, none⟩) hk).trans hcr
        have hfr' := (World.frozen?_of_block (a := ⟨r, 1, none⟩) hk).trans hfr
        have HF := Lib.hid (HFIN.out _ w' (HB0.out.trans (q2.mono (by omega))) (by rw [HLA.out]; exact q1))
        clear hrow hg hor q1 q2 q3 q4 hk hcr hfr
        go_wp2
        go_end0
        exact ⟨rfl, HF.out⟩
end Go.Proofs.YtnegnokielmgkaaGreatDoor

namespace Go.Proofs.YtnegnokielmgkaaGreatDoor
open Go.RowKit

def plR (R : RTp) : Pl := ⟨R.room.toNat, absR R.L, R.fuse, R.down⟩
/-- A reference's tape as the law has it. -/
structure RefOk (w : World) (r : Nat) (R : RTp) : Prop where
  ref : RefAt w r R
  far : RFar r R.L
  rises : Rises (absR R.L)
  few : R.L.length ≤ 64
  used : rused R.L ≤ 1048576
  room : ∃ m : Nat, R.room = (m : Int) ∧ m ≤ 1048576
  fuse : -1 ≤ R.fuse ∧ R.fuse ≤ 9223372036854775807
  base : ∀ x ∈ R.L, ∃ g n c, x.v = .slice (some ⟨g, 0, none⟩) n c ∧ g < w.heap.size
theorem RefOk.below {w w' : World} {r : Nat} {R : RTp} (h : RefOk w r R) (hb : Below w.heap.size w w') : RefOk w' r R := ⟨h.ref.below hb, h.far, h.rises, h.few, h.used, h.room, h.fuse, fun x hx => by obtain ⟨g, n, c, e, hl⟩ := h.base x hx; exact ⟨g, n, c, e, Nat.lt_of_lt_of_le hl hb.size⟩⟩
theorem absR_size (L : List RSeg) : sizeS (absR L) = rused L := by unfold sizeS absR rused RSeg.ab; rw [List.map_map]; rfl
theorem absR_at {L : List RSeg} {j : Nat} {x : RSeg} (h : L[j]? = some x) : (absR L)[j]? = some (x.n, x.b, x.s) := by unfold absR; rw [List.getElem?_map, h]; rfl
theorem absR_miss {L : List RSeg} {n : Int} : (∀ x ∈ L, x.n ≠ n) ↔ ∀ y ∈ absR L, y.1 ≠ n := by
  unfold absR
  constructor
  · intro h y hy
    obtain ⟨x, hx, rfl⟩ := List.mem_map.1 hy
    exact h x hx
  · exact fun h x hx => h x.ab (List.mem_map.2 ⟨x, hx, rfl⟩)
theorem RefOk.nodup {w : World} {r : Nat} {R : RTp} (h : RefOk w r R) : (numsOf (absR R.L)).Nodup := h.rises.nodup
theorem RefOk.look {w : World} {r : Nat} {R : RTp} (h : RefOk w r R) {j : Nat} {x : RSeg} (hx : R.L[j]? = some x) : lookS (absR R.L) x.n = some (x.b, x.s) := lookS_of_mem h.nodup (List.mem_of_getElem? (absR_at hx))
theorem RefOk.one {w : World} {r : Nat} {R : RTp} (h : RefOk w r R) {i j : Nat} {x y : RSeg} (hx : R.L[i]? = some x) (hy : R.L[j]? = some y) (hn : x.n = y.n) : i = j := by
  have h1 := h.nodup
  unfold numsOf absR at h1
  rw [List.map_map, List.Nodup, List.pairwise_iff_getElem] at h1
  obtain ⟨hi, ei⟩ := List.getElem?_eq_some_iff.1 hx
  obtain ⟨hj, ej⟩ := List.getElem?_eq_some_iff.1 hy
  rcases Nat.lt_trichotomy i j with hlt | rfl | hlt
  · have := h1 i j (by simpa using hi) (by simpa using hj) hlt
    simp [RSeg.ab, ei, ej, hn] at this
  · rfl
  · have := h1 j i (by simpa using hj) (by simpa using hi) hlt
    simp [RSeg.ab, ei, ej, hn] at this
/-- put, in plain words. -/
theorem RefOk.put {w w' : World} {r : Nat} {R : RTp} (h : RefOk w r R) {x : RSeg} (hp : RPutP w r R x w') (hxo : ∃ g n c, x.v = .slice (some ⟨g, 0, none⟩) n c ∧ g < w.heap.size) (hxf : ∀ A n c, x.v = .slice (some A) n c → A.block ≠ r) (hlen : (dropS (absR R.L) x.n).length < 64) (hu : x.b.length + sizeS (dropS (absR R.L) x.n) ≤ 1048576) :
    ∃ R', RefOk w' r R' ∧ (plR R').Eq { plR R with A := putS (absR R.L) x.ab } ∧ Touch (· = r) w w' ∧ ∀ k, RBlk r R' k → RBlk r R k ∨ w.heap.size ≤ k ∨ ∃ A n c, x.v = .slice (some A) n c ∧ A.block = k := by
  obtain ⟨R', h1, h2, h3, h4, h5, h6, h7⟩ := hp
  have e1 : absR R'.L = putR (absR R.L) x.ab := by
    rw [h2]
    exact (map_putLast RSeg.ab RSeg.n Prod.fst (fun _ => rfl) x R.L).symm
  obtain ⟨p1, p2⟩ := putR_is h.rises x.ab
  rw [← e1] at p1 p2
  have hl := p1.length_eq
  have hs := sizeS_perm p1
  rw [absR_size] at hs
  refine ⟨R', ⟨h1, ?_, p2, ?_, ?_, by rw [h3]; exact h.room, by rw [h4]; exact h.fuse, ?_⟩, ⟨by unfold plR; rw [h3], p1, h4, h5⟩, h6, fun k hk => ?_⟩
  · intro z hz
    rw [h2] at hz
    rcases mem_putLast RSeg.n x R.L z hz with rfl | hz
    · exact hxf
    · exact h.far z hz
  · unfold absR putS at hl
    rw [List.length_map, List.length_cons] at hl
    have : x.ab.1 = x.n := rfl
    rw [this] at hl
    unfold absR at hlen
    omega
  · rw [hs]
    unfold putS sizeS
    rw [List.map_cons, List.sum_cons]
    exact hu
  · intro z hz
    rw [h2] at hz
    rcases mem_putLast RSeg.n x R.L z hz with rfl | hz
    · obtain ⟨g, n, c, e, hl⟩ := hxo
      exact ⟨g, n, c, e, Nat.lt_of_lt_of_le hl h6.size⟩
    · obtain ⟨g, n, c, e, hl⟩ := h.base z hz
      exact ⟨g, n, c, e, Nat.lt_of_lt_of_le hl h6.size⟩
  · rcases hk with rfl | hk | ⟨z, hz, A, n, c, e, rfl⟩
    · exact .inl (.inl rfl)
    · exact .inr (.inl (h7 k hk))
    · rw [h2] at hz
      rcases mem_putLast RSeg.n x R.L z hz with rfl | hz
      · exact .inr (.inr ⟨A, n, c, e, rfl⟩)
      · exact .inl (.inr (.inr ⟨z, hz, A, n, c, e, rfl⟩))
theorem rburnt_L (R : RTp) : (rburnt R).L = R.L ∧ (rburnt R).v = R.v ∧ (rburnt R).room = R.room := by unfold rburnt; split <;> (try split) <;> exact ⟨rfl, rfl, rfl⟩
theorem RefOk.burnt {w w' : World} {r : Nat} {R : RTp} (h : RefOk w r R) (h' : RefAt w' r (rburnt R)) (hs : w.heap.size ≤ w'.heap.size) : RefOk w' r (rburnt R) := by
  obtain ⟨e1, e2, e3⟩ := rburnt_L R
  refine ⟨h', by rw [e1]; exact h.far, by rw [e1]; exact h.rises, by rw [e1]; exact h.few, by rw [e1]; exact h.used, by rw [e3]; exact h.room, ?_, by rw [e1]; exact fun x hx => by obtain ⟨g, n, c, e, hl⟩ := h.base x hx; exact ⟨g, n, c, e, Nat.lt_of_lt_of_le hl hs⟩⟩
  have := h.fuse
  unfold rburnt
  split
  · exact this
  · split
    · simp only; omega
    · exact this
theorem plR_burnt {R : RTp} (hf : R.fuse ≠ 0) : plR (rburnt R) = burnP (plR R) := by
  unfold rburnt burnP plR
  rw [if_neg hf]
  simp only
  split <;> rfl
theorem plR_spent {R : RTp} (hf : R.fuse = 0) : plR (rburnt R) = { plR R with down := true } := by
  unfold rburnt plR
  rw [if_pos hf]
theorem RBlk_burnt {r : Nat} {R : RTp} {k : Nat} (h : RBlk r (rburnt R) k) : RBlk r R k := by
  obtain ⟨e1, e2, e3⟩ := rburnt_L R
  unfold RBlk at *
  rw [e1, e2] at h
  exact h
theorem dropS_len {A : List Sg} {n : Int} : (dropS A n).length ≤ A.length := List.length_filter_le _ _
theorem dropS_len_hit {A : List Sg} {j : Nat} {n : Int} {y : List UInt8 × Nat} (h : A[j]? = some (n, y)) : (dropS A n).length < A.length := by
  unfold dropS
  rw [List.length_filter_lt_length_iff_exists]
  exact ⟨_, List.mem_of_getElem? h, by simp⟩
theorem sizeS_drop {A : List Sg} (hn : (numsOf A).Nodup) {j : Nat} {n : Int} {y : List UInt8 × Nat} (h : A[j]? = some (n, y)) : y.1.length + sizeS (dropS A n) = sizeS A := by
  rw [← erase_perm hn h]
  clear hn
  induction A generalizing j with
  | nil => simp at h
  | cons a A ih =>
    cases j with
    | zero =>
      obtain rfl : a = (n, y) := by simpa using h
      simp [sizeS]
    | succ j =>
      have := ih (j := j) (by simpa using h)
      unfold sizeS at *
      simp only [List.eraseIdx_cons_succ, List.map_cons, List.sum_cons]
      omega
/-- Find, at a segment that is there, and at one that is not. -/
theorem rfind_hit {w : World} {r : Nat} {R : RTp} (h : RefOk w r R) {j : Nat} {x : RSeg} (hx : R.L[j]? = some x) {seg : Int} (hn : x.n = seg) : Calls Tryz.prog 49 #[.pointer (some ⟨r, 0, none⟩), .int .i64 seg] w fun e w' => e = .returned (.int .i64 (j : Int)) ∧ Below w.heap.size w w' := by
  refine (rfind_any h.ref h.few seg).mono ?_
  rintro e w' ⟨⟨i, y, hy, hyn, rfl⟩ | ⟨hno, _⟩, hb⟩
  · rw [h.one hx hy (hn.trans hyn.symm)]
    exact ⟨rfl, hb⟩
  · exact absurd hn (hno x (List.mem_of_getElem? hx))
theorem rfind_miss {w : World} {r : Nat} {R : RTp} (h : RefOk w r R) {seg : Int} (hn : ∀ x ∈ R.L, x.n ≠ seg) : Calls Tryz.prog 49 #[.pointer (some ⟨r, 0, none⟩), .int .i64 seg] w fun e w' => e = .returned (.int .i64 (-1)) ∧ Below w.heap.size w w' := by
  refine (rfind_any h.ref h.few seg).mono ?_
  rintro e w' ⟨⟨i, y, hy, hyn, rfl⟩ | ⟨hno, rfl⟩, hb⟩
  · exact absurd hyn (hn y (List.mem_of_getElem? hy))
  · exact ⟨rfl, hb⟩
/-- What Do leaves. -/
def DoP (w : World) (r : Nat) (R : RTp) (q : Pl) (w' : World) : Prop := ∃ R', RefOk w' r R' ∧ (plR R').Eq q ∧ Touch (· = r) w w' ∧ ∀ k, RBlk r R' k → RBlk r R k ∨ w.heap.size ≤ k
theorem DoP.same {w w' : World} {r : Nat} {R : RTp} (h : RefOk w r R) (hb : Below w.heap.size w w') : DoP w r R (plR R) w' := ⟨R, h.below hb, .refl _, .of_below hb, fun k hk => .inl hk⟩
end Go.Proofs.YtnegnokielmgkaaGreatDoor

namespace Go.Proofs.YtnegnokielmgkaaGreatDoor
open Go.RowKit

theorem nameP_no {n : Int} : nameP n = false ↔ n < 0 ∨ 1048576 < n := by
  unfold nameP
  rw [Bool.and_eq_false_iff, decide_eq_false_iff_not, decide_eq_false_iff_not]
  omega
theorem nameP_yes {n : Int} : nameP n = true ↔ 0 ≤ n ∧ n ≤ 1048576 := by
  unfold nameP
  rw [Bool.and_eq_true, decide_eq_true_iff, decide_eq_true_iff]
set_option maxRecDepth 100000 in
theorem rdo_name {w : World} {p : Value} {kd seg n : Int} {bv : Value} (hn : nameP seg = false) : Calls Tryz.prog 23 #[p, .int .i64 kd, .int .i64 seg, .int .i64 n, bv] w fun e w' => e = .returned (.int .i64 2) ∧ w = w' := by
  rcases nameP_no.1 hn with h | h
  · clear hn
    go_enter Tryz.func23, Tryz.ntmps23
    go_wp2_with fail
    go_ret
    exact ⟨rfl, rfl⟩
  · have h2 : ¬ seg < 0 := by omega
    clear hn
    go_enter Tryz.func23, Tryz.ntmps23
    go_wp2_with fail
    go_ret
    exact ⟨rfl, rfl⟩
set_option maxRecDepth 100000 in
theorem rdo_down {w : World} {r : Nat} {R : RTp} (h : RefOk w r R) {kd seg n : Int} {bv : Value} (hn : nameP seg = true) (hd : R.down = true) : Calls Tryz.prog 23 #[.pointer (some ⟨r, 0, none⟩), .int .i64 kd, .int .i64 seg, .int .i64 n, bv] w fun e w' => e = .returned (.int .i64 8) ∧ w = w' := by
  obtain ⟨h0, h1⟩ := nameP_yes.1 hn
  have g0 : ¬ seg < 0 := by omega
  have g1 : ¬ 1048576 < seg := by omega
  have c3 := cell_of h.ref.head 3
  replace c3 : w.cell? ⟨r, 3, none⟩ = some (.bool true) := by rw [c3, hd]; rfl
  clear h hn hd h0 h1
  go_enter Tryz.func23, Tryz.ntmps23
  go_wp2_with fail
  go_ret
  exact ⟨rfl, rfl⟩
set_option maxRecDepth 100000 in
theorem rdo_none {w : World} {r : Nat} {R : RTp} (h : RefOk w r R) {kd seg n : Int} {bv : Value} (hn : nameP seg = true) (hd : R.down = false) (hk : kd = 1 ∨ kd = 2 ∨ kd = 3) (hm : ∀ x ∈ R.L, x.n ≠ seg) : Calls Tryz.prog 23 #[.pointer (some ⟨r, 0, none⟩), .int .i64 kd, .int .i64 seg, .int .i64 n, bv] w fun e w' => e = .returned (.int .i64 3) ∧ Below w.heap.size w w' := by
  obtain ⟨h0, h1⟩ := nameP_yes.1 hn
  have g0 : ¬ seg < 0 := by omega
  have g1 : ¬ 1048576 < seg := by omega
  have c3 := cell_of h.ref.head 3
  replace c3 : w.cell? ⟨r, 3, none⟩ = some (.bool false) := by rw [c3, hd]; rfl
  have HF := Lib.hid (rfind_miss h hm)
  clear h hn hd h0 h1 hm
  rcases hk with rfl | rfl | rfl
  all_goals
    go_enter Tryz.func23, Tryz.ntmps23
    go_wp2_with fail
    refine (HF.out).mono ?_
    rintro e w1 ⟨rfl, hb⟩
    have HB := Lib.hid hb
    clear hb
    go_wp2_with fail
    go_ret
    exact ⟨rfl, HB.out⟩
/-- What the walk asks of the tape's cells. -/
theorem RefOk.cells {w : World} {r : Nat} {R : RTp} (h : RefOk w r R) : ∃ A cap, R.v = .slice A R.L.length cap ∧ cap ≤ 9223372036854775807 ∧ R.L.length ≤ cap ∧ ∀ W, Below w.heap.size w W → W.cell? ⟨r, 1, none⟩ = some (.slice A R.L.length cap) ∧ W.cell? ⟨r, 3, none⟩ = some (.bool R.down) := by
  obtain ⟨A, cap, ev, hc1, hc2, _⟩ := h.ref.row.form
  unfold maxLen at hc2
  refine ⟨A, cap, ev, hc2, hc1, fun W hW => ⟨?_, ?_⟩⟩
  · rw [hW.cell (p := ⟨r, 1, none⟩) (heap_lt h.ref.head), cell_of h.ref.head 1, ← ev]; rfl
  · rw [hW.cell (p := ⟨r, 3, none⟩) (heap_lt h.ref.head), cell_of h.ref.head 3]; rfl
theorem rfree_ok {w : World} {r : Nat} {R : RTp} (h : RefOk w r R) {W : World} (hW : Below w.heap.size w W) : Calls Tryz.prog 63 #[.pointer (some ⟨r, 0, none⟩)] W fun e w' => e = .returned (.int .i64 (R.room.toNat - rused R.L : Nat)) ∧ Below w.heap.size w w' := by
  obtain ⟨m, e, hm⟩ := h.room
  refine (rfree_any (h.ref.below hW) h.few h.used e hm).mono ?_
  rintro x w' ⟨rfl, hb⟩
  rw [e, Int.toNat_natCast]
  exact ⟨rfl, hW.trans (hb.mono hW.size)⟩
set_option maxRecDepth 100000 in
set_option maxHeartbeats 1000000 in
/-- Append, where there is no room. -/
theorem rdo_full {w : World} {r : Nat} {R : RTp} (h : RefOk w r R) {seg n : Int} {Ab : Option Addr} {m cb : Nat} (hn : nameP seg = true) (hd : R.down = false) (hf : R.room.toNat - rused R.L < m ∨ (∀ x ∈ R.L, x.n ≠ seg) ∧ 64 ≤ R.L.length) : Calls Tryz.prog 23 #[.pointer (some ⟨r, 0, none⟩), .int .i64 0, .int .i64 seg, .int .i64 n, .slice Ab m cb] w fun e w' => e = .returned (.int .i64 5) ∧ Below w.heap.size w w' := by
  obtain ⟨h0, h1⟩ := nameP_yes.1 hn
  have g0 : ¬ seg < 0 := by omega
  have g1 : ¬ 1048576 < seg := by omega
  obtain ⟨A, cap, ev, hc2, hc1, HC⟩ := h.cells
  rw [hd] at HC
  have HFR := Lib.hid (fun W hW => rfree_ok h (W := W) hW)
  have hF : ∃ k : Int, -1 ≤ k ∧ k ≤ 64 ∧ (k < 0 ↔ ∀ x ∈ R.L, x.n ≠ seg) ∧ Calls Tryz.prog 49 #[.pointer (some ⟨r, 0, none⟩), .int .i64 seg] w fun e w' => e = .returned (.int .i64 k) ∧ Below w.heap.size w w' := by
    by_cases hx : ∃ x ∈ R.L, x.n = seg
    · obtain ⟨x, hx, hxn⟩ := hx
      obtain ⟨j, hj⟩ := List.getElem?_of_mem hx
      have hjl := (List.getElem?_eq_some_iff.1 hj).1
      have := h.few
      exact ⟨j, by omega, by omega, ⟨fun e => by omega, fun e => absurd hxn (e x hx)⟩, rfind_hit h hj hxn⟩
    · have hm : ∀ x ∈ R.L, x.n ≠ seg := fun x h1 h2 => hx ⟨x, h1, h2⟩
      exact ⟨-1, by omega, by omega, ⟨fun _ => hm, fun _ => by omega⟩, rfind_miss h hm⟩
  obtain ⟨k, hk1, hk2, hk3, hF⟩ := hF
  have HF := Lib.hid hF
  have HCH := Lib.hid HC
  have hc0 := (HC w (Below.refl _ _)).2
  generalize hL : R.L.length = len at *
  generalize R.room.toNat - rused R.L = f at *
  have HK := Lib.hid hk3
  have HFH := Lib.hid hf
  clear h hn hd h0 h1 hF HC ev hL hk3 hf
  by_cases hfm : f < m
  · replace hfm : (f : Int) < (m : Int) := by omega
    by_cases hk0 : k < 0
    all_goals
      go_enter Tryz.func23, Tryz.ntmps23
      go_wp2_with fail
      refine (HF.out).mono ?_
      rintro e w1 ⟨rfl, hb⟩
      have HB := Lib.hid hb
      have c1 := (HCH.out _ hb).1
      clear hb
      go_wp2_with fail
      refine (HFR.out _ HB.out).mono ?_
      rintro e w2 ⟨rfl, hb2⟩
      have HB2 := Lib.hid hb2
      clear hb2
      go_wp2_with fail
      go_ret
      exact ⟨rfl, HB2.out⟩
  · obtain ⟨hm, h64⟩ : (∀ x ∈ R.L, x.n ≠ seg) ∧ 64 ≤ len := HFH.out.elim (fun e => absurd e hfm) id
    have hkneg := HK.out.2 hm
    replace hfm : ¬ (f : Int) < (m : Int) := by omega
    have h64' : (64 : Int) ≤ (len : Int) := by omega
    obtain rfl : k = -1 := by omega
    clear hm
    go_enter Tryz.func23, Tryz.ntmps23
    go_wp2_with fail
    refine (HF.out).mono ?_
    rintro e w1 ⟨rfl, hb⟩
    have HB := Lib.hid hb
    clear hb
    go_wp2_with fail
    refine (HFR.out _ HB.out).mono ?_
    rintro e w2 ⟨rfl, hb2⟩
    have HB2 := Lib.hid hb2
    have c1 := (HCH.out _ hb2).1
    clear hb2
    go_wp2_with fail
    go_ret
    exact ⟨rfl, HB2.out⟩
end Go.Proofs.YtnegnokielmgkaaGreatDoor

namespace Go.Proofs.YtnegnokielmgkaaGreatDoor
open Go.RowKit

/-- What a cell holds it holds behind a new block, too. -/
theorem cell_old {W : World} {a : Addr} {v : Value} (h : W.cell? a = some v) (hb : a.block < W.heap.size) (o : Obj) : (W.alloc o).cell? a = some v := (World.cell?_of_block (a := a) (Below.heap_alloc W o a.block hb)).trans h
theorem rspent_is {w : World} {r : Nat} {R : RTp} (h : RefOk w r R) {W : World} (hW : Below w.heap.size w W) : Calls Tryz.prog 64 #[.pointer (some ⟨r, 0, none⟩)] W fun e w' => e = .returned (.bool (rspent R)) ∧ RefAt w' r (rburnt R) ∧ Touch (· = r) w w' :=
  (rspent_any (h.ref.below hW) h.fuse.1 h.fuse.2 h.far).mono fun e w' k => ⟨k.1, k.2.1, .ahead hW k.2.2⟩
theorem rspent_ok {w : World} {r : Nat} {R : RTp} (h : RefOk w r R) (hf : R.fuse ≠ 0) : ∀ W, Below w.heap.size w W → Calls Tryz.prog 64 #[.pointer (some ⟨r, 0, none⟩)] W fun e w' => e = .returned (.bool false) ∧ RefAt w' r (rburnt R) ∧ Touch (· = r) w w' := fun W hW => by
  have := rspent_is h hW
  rw [show rspent R = false from by unfold rspent; simpa using hf] at this
  exact this
theorem rspent_no {w : World} {r : Nat} {R : RTp} (h : RefOk w r R) (hf : R.fuse = 0) : ∀ W, Below w.heap.size w W → Calls Tryz.prog 64 #[.pointer (some ⟨r, 0, none⟩)] W fun e w' => e = .returned (.bool true) ∧ DoP w r R { plR R with down := true } w' := fun W hW => by
  refine (rspent_is h hW).mono ?_
  rintro e w' ⟨rfl, h1, h2⟩
  refine ⟨by rw [show rspent R = true from by unfold rspent; simpa using hf], rburnt R, h.burnt h1 h2.size, ?_, h2, fun k hk => .inl (RBlk_burnt hk)⟩
  rw [plR_spent hf]
  exact .refl _
/-- The cells of one segment, behind the fuse. -/
theorem burnt_cells {w w3 : World} {r : Nat} {R : RTp} (h : RefOk w r R) (h3 : RefAt w3 r (rburnt R)) {A : Option Addr} {n cap : Nat} (hv : R.v = .slice A n cap) {j : Nat} {x : RSeg} (hx : R.L[j]? = some x) :
    w3.cell? ⟨r, 1, none⟩ = some (.slice A n cap) ∧ ∃ g, A = some ⟨g, 0, none⟩ ∧ g < w3.heap.size ∧ w3.cell? ⟨g, j * 3, none⟩ = some (.int .i64 x.n) ∧ w3.cell? ⟨g, j * 3 + 1, none⟩ = some x.v ∧ w3.cell? ⟨g, j * 3 + 2, none⟩ = some (.int .i64 (x.s : Int)) := by
  obtain ⟨e1, e2, e3⟩ := rburnt_L R
  refine ⟨by rw [cell_of h3.head 1, e2, hv]; rfl, h3.seg3 (by rw [e2]; exact hv) (by rw [e1]; exact hx)⟩
theorem do_put {w w3 W w' : World} {r : Nat} {R : RTp} (h : RefOk w r R) (hf : R.fuse ≠ 0) (h3 : RefAt w3 r (rburnt R)) (ht : Touch (· = r) w w3) (hW : Below w3.heap.size w3 W) {x : RSeg} (hp : RPutP W r (rburnt R) x w') (hxo : ∃ g n c, x.v = .slice (some ⟨g, 0, none⟩) n c ∧ g < W.heap.size) (hxf : ∀ A n c, x.v = .slice (some A) n c → A.block ≠ r) (hlen : (dropS (absR R.L) x.n).length < 64) (hu : x.b.length + sizeS (dropS (absR R.L) x.n) ≤ 1048576) (hxb : ∀ A n c, x.v = .slice (some A) n c → RBlk r R A.block ∨ w.heap.size ≤ A.block) :
    DoP w r R { burnP (plR R) with A := putS (absR R.L) x.ab } w' := by
  obtain ⟨e1, e2, e3⟩ := rburnt_L R
  obtain ⟨R', k1, k2, k3, k4⟩ := ((h.burnt h3 ht.size).below hW).put hp hxo hxf (by rw [e1]; exact hlen) (by rw [e1]; exact hu)
  rw [plR_burnt hf, e1] at k2
  have hle := ht.size
  have hle2 := hW.size
  refine ⟨R', k1, k2, (ht.after hW).trans k3 (fun i _ hi => hi), fun k hk => ?_⟩
  rcases k4 k hk with hk | hk | ⟨A, n, c, e, rfl⟩
  · exact .inl (RBlk_burnt hk)
  · exact .inr (by omega)
  · exact hxb A n c e
theorem rput_ok {w w3 : World} {r : Nat} {R : RTp} (h : RefOk w r R) (h3 : RefAt w3 r (rburnt R)) (x : RSeg) (hxs : x.s ≤ x.b.length) (hxf : ∀ A n c, x.v = .slice (some A) n c → A.block ≠ r) {W : World} (hW : Below w3.heap.size w3 W) (hx : BIs W x.v x.b) :
    Calls Tryz.prog 65 #[.pointer (some ⟨r, 0, none⟩), .agg #[.int .i64 x.n, x.v, .int .i64 (x.s : Int)]] W fun e w' => e = .returned (.tuple #[]) ∧ RPutP W r (rburnt R) x w' := by
  obtain ⟨e1, e2, e3⟩ := rburnt_L R
  exact rput_any (h3.below hW) (by rw [e1]; have := h.few; omega) (by rw [e1]; exact h.far) x hx hxs hxf
theorem RefOk.miss {w : World} {r : Nat} {R : RTp} (h : RefOk w r R) {seg : Int} (hm : ∀ x ∈ R.L, x.n ≠ seg) : lookS (plR R).A seg = none := lookS_none (absR_miss.1 hm)
theorem RefOk.lookP {w : World} {r : Nat} {R : RTp} (h : RefOk w r R) {j : Nat} {x : RSeg} (hx : R.L[j]? = some x) : lookS (plR R).A x.n = some (x.b, x.s) := h.look hx
theorem RefOk.hitLen {w : World} {r : Nat} {R : RTp} (h : RefOk w r R) {j : Nat} {x : RSeg} (hx : R.L[j]? = some x) : (dropS (absR R.L) x.n).length < 64 ∧ x.b.length + sizeS (dropS (absR R.L) x.n) = rused R.L := by
  have h1 := dropS_len_hit (absR_at hx)
  have h2 := sizeS_drop h.nodup (absR_at hx)
  have h3 := h.few
  unfold absR at *
  rw [List.length_map] at h1
  refine ⟨by omega, h2.trans (absR_size R.L)⟩
theorem RefOk.farOf {w : World} {r : Nat} {R : RTp} (h : RefOk w r R) {j : Nat} {x : RSeg} (hx : R.L[j]? = some x) : (∀ A n c, x.v = .slice (some A) n c → A.block ≠ r) ∧ ∀ A n c, x.v = .slice (some A) n c → RBlk r R A.block :=
  ⟨h.far x (List.mem_of_getElem? hx), fun A n c e => .inr (.inr ⟨x, List.mem_of_getElem? hx, A, n, c, e, rfl⟩)⟩

set_option maxRecDepth 100000 in
set_option maxHeartbeats 4000000 in
theorem rdo_sync {w : World} {r : Nat} {R : RTp} (h : RefOk w r R) {n : Int} {bv : Value} {b : List UInt8} {j : Nat} {x : RSeg} (hx : R.L[j]? = some x) (hn : nameP x.n = true) (hd : R.down = false) : Calls Tryz.prog 23 #[.pointer (some ⟨r, 0, none⟩), .int .i64 1, .int .i64 x.n, .int .i64 n, bv] w fun e w' => e = .returned (.int .i64 (doP (plR R) 1 x.n n b).1) ∧ DoP w r R (doP (plR R) 1 x.n n b).2 w' := by
  have hlk := h.lookP hx
  have hF : Fine (plR R) 1 x.n n b := ⟨hn, hd, (fun _ => by rw [hlk]; exact Option.some_ne_none _), (fun c => by cases c), (fun c => by cases c)⟩
  obtain ⟨h0, h1⟩ := nameP_yes.1 hn
  have g0 : ¬ x.n < 0 := by omega
  have g1 : ¬ 1048576 < x.n := by omega
  obtain ⟨A, cap, ev, hc2, hc1, HC⟩ := h.cells
  rw [hd] at HC
  have HFI := Lib.hid (rfind_hit h hx rfl)
  have c3 := (HC w (Below.refl _ _)).2
  have gj : ¬ (j : Int) < 0 := by omega
  by_cases hf : R.fuse = 0
  · rw [doP_dead hF hf]
    have HS := Lib.hid (rspent_no h hf)
    clear h hx hn hd hlk hF h0 h1 ev HC hf hc1 hc2
    go_enter Tryz.func23, Tryz.ntmps23
    go_wp2_with fail
    refine (HFI.out).mono ?_
    rintro e w1 ⟨rfl, hb⟩
    have HB := Lib.hid hb
    clear hb
    go_wp2_with fail
    refine (HS.out _ HB.out).mono ?_
    rintro e w3 ⟨rfl, h3⟩
    have H3 := Lib.hid h3
    clear h3
    go_wp2_with fail
    go_ret
    exact ⟨rfl, H3.out⟩
  · rw [doP_sync hF hf hlk]
    have HS := Lib.hid (rspent_ok h hf)
    have HBX := Lib.hid ((h.ref.segs x (List.mem_of_getElem? hx)).1)
    obtain ⟨Ax, cx, exv, hx1, hx2, _⟩ := HBX.out
    have HBC := Lib.hid (fun (w3 : World) (h3 : RefAt w3 r (rburnt R)) => burnt_cells h h3 ev hx)
    have HEX := Lib.hid exv
    have hjl : (j : Int) < (R.L.length : Int) := by have := (List.getElem?_eq_some_iff.1 hx).1; omega
    have HPUT := Lib.hid (fun (w3 : World) (h3 : RefAt w3 r (rburnt R)) (ht : Touch (· = r) w w3) (W : World) (hW : Below w3.heap.size w3 W) => (by
      have hb : BIs W x.v x.b := (((h3.segs x (by rw [(rburnt_L R).1]; exact List.mem_of_getElem? hx)).1).below hW)
      refine (rput_ok h h3 { x with s := x.b.length } (Nat.le_refl _) (h.farOf hx).1 hW hb).mono ?_
      rintro e w' ⟨rfl, hp⟩
      exact ⟨rfl, do_put h hf h3 ht hW hp (by obtain ⟨g, n, c, e, hl⟩ := h.base x (List.mem_of_getElem? hx); exact ⟨g, n, c, e, by have := ht.size; have := hW.size; omega⟩) (h.farOf hx).1 (h.hitLen hx).1 (by rw [(h.hitLen hx).2]; exact h.used) (fun A n c e => .inl ((h.farOf hx).2 A n c e))⟩ :
      Calls Tryz.prog 65 #[.pointer (some ⟨r, 0, none⟩), .agg #[.int .i64 x.n, x.v, .int .i64 (x.b.length : Int)]] W fun e w' => e = .returned (.tuple #[]) ∧ DoP w r R { burnP (plR R) with A := putS (absR R.L) (x.n, x.b, x.b.length) } w'))
    rw [exv] at HPUT
    rw [show ({ burnP (plR R) with A := putS (plR R).A (x.n, (x.b, x.s).1, (x.b, x.s).1.length) } : Pl) = { burnP (plR R) with A := putS (absR R.L) (x.n, x.b, x.b.length) } from rfl]
    generalize ({ burnP (plR R) with A := putS (absR R.L) (x.n, x.b, x.b.length) } : Pl) = q at *
    have HX := Lib.hid hx
    clear h hn hd hlk hF h0 h1 HC hf exv hx ev
    go_enter Tryz.func23, Tryz.ntmps23
    go_wp2_with fail
    refine (HFI.out).mono ?_
    rintro e w1 ⟨rfl, hb⟩
    have HB := Lib.hid hb
    clear hb
    go_wp2_with fail
    refine (HS.out _ HB.out).mono ?_
    rintro e w3 ⟨rfl, h3, ht3⟩
    obtain ⟨k, g, rfl, hg, k0, k1, k2⟩ := HBC.out w3 h3
    rw [HEX.out] at k1
    have hr3 := heap_lt h3.head
    have kA := cell_old k hr3 (.cells #[.int .i64 x.n, .slice none 0 0, .int .i64 0] 108)
    have kB := cell_old k0 hg (.cells #[.int .i64 x.n, .slice none 0 0, .int .i64 0] 108)
    have kC := cell_old k1 hg (.cells #[.int .i64 x.n, .slice none 0 0, .int .i64 0] 108)
    have kD := cell_old k2 hg (.cells #[.int .i64 x.n, .slice none 0 0, .int .i64 0] 108)
    have ha : (⟨g, 0, none⟩ : Addr).add (j * 3) = ⟨g, j * 3, none⟩ := add0 _ _
    have HP := Lib.hid (HPUT.out w3 h3 ht3 _ (below_new (.cells #[.int .i64 x.n, .slice Ax x.b.length cx, .int .i64 (x.b.length : Int)] 108)))
    clear h3 ht3
    go_wp2_with fail
    refine (HP.out).mono ?_
    rintro e w5 ⟨rfl, h5⟩
    have H5 := Lib.hid h5
    clear h5
    go_wp2_with fail
    go_ret
    exact ⟨rfl, H5.out⟩
end Go.Proofs.YtnegnokielmgkaaGreatDoor

namespace Go.Proofs.YtnegnokielmgkaaGreatDoor
open Go.RowKit

theorem RefOk.cells1 {w : World} {r : Nat} {R : RTp} (h : RefOk w r R) {A : Option Addr} {n cap : Nat} (hv : R.v = .slice A n cap) {j : Nat} {x : RSeg} (hx : R.L[j]? = some x) : ∃ g, A = some ⟨g, 0, none⟩ ∧ ∀ W, Below w.heap.size w W → W.cell? ⟨g, j * 3 + 1, none⟩ = some x.v := by
  obtain ⟨g, e, hg, _, k1, _⟩ := h.ref.seg3 hv hx
  exact ⟨g, e, fun W hW => (hW.cell (p := ⟨g, j * 3 + 1, none⟩) hg).trans k1⟩
set_option maxRecDepth 100000 in
set_option maxHeartbeats 2000000 in
theorem rdo_arg {w : World} {r : Nat} {R : RTp} (h : RefOk w r R) {n : Int} {bv : Value} {b : List UInt8} {j : Nat} {x : RSeg} (hx : R.L[j]? = some x) (hn : nameP x.n = true) (hd : R.down = false) (hna : n < 0 ∨ (x.b.length : Int) < n) : Calls Tryz.prog 23 #[.pointer (some ⟨r, 0, none⟩), .int .i64 2, .int .i64 x.n, .int .i64 n, bv] w fun e w' => e = .returned (.int .i64 2) ∧ Below w.heap.size w w' := by
  obtain ⟨h0, h1⟩ := nameP_yes.1 hn
  have g0 : ¬ x.n < 0 := by omega
  have g1 : ¬ 1048576 < x.n := by omega
  obtain ⟨A, cap, ev, hc2, hc1, HC⟩ := h.cells
  rw [hd] at HC
  have HFI := Lib.hid (rfind_hit h hx rfl)
  have c3 := (HC w (Below.refl _ _)).2
  have gj : ¬ (j : Int) < 0 := by omega
  obtain ⟨Ax, cx, exv, hx1, hx2, _⟩ := (h.ref.segs x (List.mem_of_getElem? hx)).1
  obtain ⟨g, rfl, HK⟩ := h.cells1 ev hx
  rw [exv] at HK
  have HKH := Lib.hid HK
  have HCH := Lib.hid HC
  have hjl : (j : Int) < (R.L.length : Int) := by have := (List.getElem?_eq_some_iff.1 hx).1; omega
  have ha : (⟨g, 0, none⟩ : Addr).add (j * 3) = ⟨g, j * 3, none⟩ := add0 _ _
  by_cases hneg : n < 0
  · clear h hn hd h0 h1 ev HC hx HK exv hna
    go_enter Tryz.func23, Tryz.ntmps23
    go_wp2_with fail
    refine (HFI.out).mono ?_
    rintro e w1 ⟨rfl, hb⟩
    have HB := Lib.hid hb
    clear hb
    go_wp2_with fail
    go_ret
    exact ⟨rfl, HB.out⟩
  · have hgt : (x.b.length : Int) < n := by omega
    clear h hn hd h0 h1 ev HC hx HK exv hna
    go_enter Tryz.func23, Tryz.ntmps23
    go_wp2_with fail
    refine (HFI.out).mono ?_
    rintro e w1 ⟨rfl, hb⟩
    have HB := Lib.hid hb
    have c1 := (HCH.out _ hb).1
    have k1 := HKH.out _ hb
    clear hb
    go_wp2_with fail
    go_ret
    exact ⟨rfl, HB.out⟩
set_option maxRecDepth 100000 in
set_option maxHeartbeats 4000000 in
theorem rdo_trim {w : World} {r : Nat} {R : RTp} (h : RefOk w r R) {n : Nat} {bv : Value} {b : List UInt8} {j : Nat} {x : RSeg} (hx : R.L[j]? = some x) (hn : nameP x.n = true) (hd : R.down = false) (hna : n ≤ x.b.length) : Calls Tryz.prog 23 #[.pointer (some ⟨r, 0, none⟩), .int .i64 2, .int .i64 x.n, .int .i64 (n : Int), bv] w fun e w' => e = .returned (.int .i64 (doP (plR R) 2 x.n (n : Int) b).1) ∧ DoP w r R (doP (plR R) 2 x.n (n : Int) b).2 w' := by
  have hlk := h.lookP hx
  have hF : Fine (plR R) 2 x.n (n : Int) b := ⟨hn, hd, (fun _ => by rw [hlk]; exact Option.some_ne_none _), (fun c => by cases c), (fun _ => by rw [hlk]; show 0 ≤ (n : Int) ∧ (n : Int) ≤ ((x.b.length : Nat) : Int); omega)⟩
  obtain ⟨h0, h1⟩ := nameP_yes.1 hn
  have g0 : ¬ x.n < 0 := by omega
  have g1 : ¬ 1048576 < x.n := by omega
  obtain ⟨A, cap, ev, hc2, hc1, HC⟩ := h.cells
  rw [hd] at HC
  have HFI := Lib.hid (rfind_hit h hx rfl)
  have c3 := (HC w (Below.refl _ _)).2
  have gj : ¬ (j : Int) < 0 := by omega
  have gn : ¬ (n : Int) < 0 := by omega
  have HBX := Lib.hid ((h.ref.segs x (List.mem_of_getElem? hx)).1)
  obtain ⟨Ax, cx, exv, hx1, hx2, hx3⟩ := HBX.out
  unfold maxLen at hx2
  obtain ⟨gx, n9, c9, e9, hgxl⟩ := h.base x (List.mem_of_getElem? hx)
  obtain rfl : Ax = some ⟨gx, 0, none⟩ := by rw [exv] at e9; injection e9
  clear e9
  obtain ⟨g0', rfl, HK⟩ := h.cells1 ev hx
  rw [exv] at HK
  have HKH := Lib.hid HK
  have HCH := Lib.hid HC
  have hjl : (j : Int) < (R.L.length : Int) := by have := (List.getElem?_eq_some_iff.1 hx).1; omega
  have ha : (⟨g0', 0, none⟩ : Addr).add (j * 3) = ⟨g0', j * 3, none⟩ := add0 _ _
  have hgt : ¬ (x.b.length : Int) < (n : Int) := by omega
  by_cases hf : R.fuse = 0
  · rw [doP_dead hF hf]
    have HS := Lib.hid (rspent_no h hf)
    clear h hn hd hlk hF h0 h1 ev HC hx HK exv hna hx3 hf
    go_enter Tryz.func23, Tryz.ntmps23
    go_wp2_with fail
    refine (HFI.out).mono ?_
    rintro e w1 ⟨rfl, hb⟩
    have HB := Lib.hid hb
    have c1 := (HCH.out _ hb).1
    have k1 := HKH.out _ hb
    clear hb
    go_wp2_with fail
    refine (HS.out _ HB.out).mono ?_
    rintro e w3 ⟨rfl, h3⟩
    have H3 := Lib.hid h3
    clear h3
    go_wp2_with fail
    go_ret
    exact ⟨rfl, H3.out⟩
  · rw [doP_trim hF hf hlk]
    have HS := Lib.hid (rspent_ok h hf)
    have HBC := Lib.hid (fun (w3 : World) (h3 : RefAt w3 r (rburnt R)) => burnt_cells h h3 ev hx)
    have HEX := Lib.hid exv
    have hlt : (x.b.take n).length = n := by rw [List.length_take]; omega
    have HPUT := Lib.hid (fun (w3 : World) (h3 : RefAt w3 r (rburnt R)) (ht : Touch (· = r) w w3) (W : World) (hW : Below w3.heap.size w3 W) => (by
      have hb : BIs W x.v x.b := (((h3.segs x (by rw [(rburnt_L R).1]; exact List.mem_of_getElem? hx)).1).below hW)
      have hb2 : BIs W (.slice (some ⟨gx, 0, none⟩) n cx) (x.b.take n) := by
        obtain ⟨A2, c2, e2, p1, p2, p3⟩ := hb
        rw [exv] at e2
        injection e2 with e2 _ e3
        subst e2
        subst e3
        refine ⟨_, cx, by rw [hlt], by rw [hlt]; omega, p2, fun i u hi => ?_⟩
        rw [List.getElem?_take] at hi
        split at hi
        · exact p3 i u hi
        · cases hi
      have hfr : ∀ A' n' c', (Value.slice (some ⟨gx, 0, none⟩) n cx) = .slice (some A') n' c' → ∃ n2 c2, x.v = .slice (some A') n2 c2 := fun A' n' c' e => by
        injection e with e _ _
        exact ⟨_, _, by rw [exv, e]⟩
      refine (rput_ok h h3 { x with v := .slice (some ⟨gx, 0, none⟩) n cx, b := x.b.take n, s := min x.s n } (by show min x.s n ≤ _; rw [hlt]; omega) (fun A' n' c' e => by obtain ⟨n2, c2, e2⟩ := hfr A' n' c' e; exact (h.farOf hx).1 A' n2 c2 e2) hW hb2).mono ?_
      rintro e w' ⟨rfl, hp⟩
      have hs2 := (h.hitLen hx).2
      have hu := h.used
      exact ⟨rfl, do_put h hf h3 ht hW hp ⟨gx, _, _, rfl, by have := ht.size; have := hW.size; omega⟩ (fun A' n' c' e => by obtain ⟨n2, c2, e2⟩ := hfr A' n' c' e; exact (h.farOf hx).1 A' n2 c2 e2) (h.hitLen hx).1 (by show (x.b.take n).length + _ ≤ _; rw [hlt]; show n + sizeS (dropS (absR R.L) x.n) ≤ _; omega) (fun A' n' c' e => by obtain ⟨n2, c2, e2⟩ := hfr A' n' c' e; exact .inl ((h.farOf hx).2 A' n2 c2 e2))⟩ :
      Calls Tryz.prog 65 #[.pointer (some ⟨r, 0, none⟩), .agg #[.int .i64 x.n, .slice (some ⟨gx, 0, none⟩) n cx, .int .i64 ((min x.s n : Nat) : Int)]] W fun e w' => e = .returned (.tuple #[]) ∧ DoP w r R { burnP (plR R) with A := putS (absR R.L) (x.n, x.b.take n, min x.s n) } w'))
    rw [show ({ burnP (plR R) with A := putS (plR R).A (x.n, (x.b, x.s).1.take (n : Int).toNat, min (x.b, x.s).2 (n : Int).toNat) } : Pl) = { burnP (plR R) with A := putS (absR R.L) (x.n, x.b.take n, min x.s n) } from rfl]
    generalize ({ burnP (plR R) with A := putS (absR R.L) (x.n, x.b.take n, min x.s n) } : Pl) = q at *
    clear h hn hd hlk hF h0 h1 HC hf exv hx ev HK hx3 hlt
    go_enter Tryz.func23, Tryz.ntmps23
    go_wp2_with fail
    refine (HFI.out).mono ?_
    rintro e w1 ⟨rfl, hb⟩
    have HB := Lib.hid hb
    have c1 := (HCH.out _ hb).1
    have k1 := HKH.out _ hb
    clear hb
    go_wp2_with fail
    refine (HS.out _ HB.out).mono ?_
    rintro e w3 ⟨rfl, h3, ht3⟩
    clear c1 k1
    obtain ⟨k, g, eg, hg, k0, k1, k2⟩ := HBC.out w3 h3
    obtain rfl : g0' = g := by injection eg with eg; injection eg
    rw [HEX.out] at k1
    have hr3 := heap_lt h3.head
    have kA := cell_old k hr3 (.cells #[.int .i64 x.n, .slice none 0 0, .int .i64 0] 108)
    have kB := cell_old k0 hg (.cells #[.int .i64 x.n, .slice none 0 0, .int .i64 0] 108)
    have kC := cell_old k1 hg (.cells #[.int .i64 x.n, .slice none 0 0, .int .i64 0] 108)
    have kD := cell_old k2 hg (.cells #[.int .i64 x.n, .slice none 0 0, .int .i64 0] 108)
    have HPW := Lib.hid (HPUT.out w3 h3 ht3)
    clear h3 ht3 eg
    by_cases hsn : n < x.s
    · have hsn' : (n : Int) < (x.s : Int) := by omega
      have HP := Lib.hid (HPW.out _ (below_new (.cells #[.int .i64 x.n, .slice (some ⟨gx, 0, none⟩) n cx, .int .i64 (n : Int)] 108)))
      rw [show min x.s n = n from by omega] at HP
      clear hsn
      go_wp2_with fail
      refine (HP.out).mono ?_
      rintro e w5 ⟨rfl, h5⟩
      have H5 := Lib.hid h5
      clear h5
      go_wp2_with fail
      go_ret
      exact ⟨rfl, H5.out⟩
    · have hsn' : ¬ (n : Int) < (x.s : Int) := by omega
      have HP := Lib.hid (HPW.out _ (below_new (.cells #[.int .i64 x.n, .slice (some ⟨gx, 0, none⟩) n cx, .int .i64 (x.s : Int)] 108)))
      rw [show min x.s n = x.s from by omega] at HP
      clear hsn
      go_wp2_with fail
      refine (HP.out).mono ?_
      rintro e w5 ⟨rfl, h5⟩
      have H5 := Lib.hid h5
      clear h5
      go_wp2_with fail
      go_ret
      exact ⟨rfl, H5.out⟩
end Go.Proofs.YtnegnokielmgkaaGreatDoor

namespace Go.Proofs.YtnegnokielmgkaaGreatDoor
open Go.RowKit

theorem erase_mapR {α β : Type} (f : α → β) (l : List α) (j : Nat) : (l.eraseIdx j).map f = (l.map f).eraseIdx j := by
  induction l generalizing j with
  | nil => rfl
  | cons x l ih => cases j <;> simp [*]
/-- What is collected of the first i segments, but for number j. -/
def skipJ (L : List RSeg) (j i : Nat) : List RSeg := (L.take i).eraseIdx j
theorem skipJ_hit (L : List RSeg) (j : Nat) : skipJ L j (j + 1) = skipJ L j j := by
  unfold skipJ
  rw [List.eraseIdx_of_length_le (l := L.take j) (by rw [List.length_take]; omega)]
  by_cases h : j < L.length
  · rw [List.take_succ_eq_append_getElem h, List.eraseIdx_append_of_length_le (by rw [List.length_take]; omega)]
    have : j - (L.take j).length = 0 := by rw [List.length_take]; omega
    rw [this]
    simp
  · rw [List.take_of_length_le (by omega), List.take_of_length_le (by omega), List.eraseIdx_of_length_le (by omega)]
theorem skipJ_miss {L : List RSeg} {j i : Nat} {x : RSeg} (hx : L[i]? = some x) (h : i ≠ j) : skipJ L j (i + 1) = skipJ L j i ++ [x] := by
  unfold skipJ
  obtain ⟨hi, e⟩ := List.getElem?_eq_some_iff.1 hx
  rw [List.take_succ_eq_append_getElem hi, e]
  rcases Nat.lt_or_ge j i with hj | hj
  · rw [List.eraseIdx_append_of_lt_length (by rw [List.length_take]; omega)]
  · rw [List.eraseIdx_append_of_length_le (by rw [List.length_take]; omega), List.eraseIdx_of_length_le (l := L.take i) (by rw [List.length_take]; omega)]
    congr 1
    exact List.eraseIdx_of_length_le (by rw [List.length_take]; simp; omega)
theorem skipJ_all (L : List RSeg) (j : Nat) : skipJ L j L.length = L.eraseIdx j := by unfold skipJ; rw [List.take_length]
theorem skipJ_len (L : List RSeg) (j i : Nat) : (skipJ L j i).length ≤ L.length := by
  unfold skipJ
  exact Nat.le_trans (List.eraseIdx_sublist _ _).length_le (List.length_take_le' _ _)
theorem RefOk.cut {w w3 wr : World} {r : Nat} {R : RTp} (h : RefOk w r R) (hf : R.fuse ≠ 0) (h3 : RefAt w3 r (rburnt R)) (ht : Touch (· = r) w w3) (hb : Below w3.heap.size w3 wr) {j : Nat} {x : RSeg} (hx : R.L[j]? = some x) {l : Value} (hp : PutIn (w3.heap.size + 1) l (R.L.eraseIdx j) wr) : DoP w r R { burnP (plR R) with A := dropS (absR R.L) x.n } (wr.setCell ⟨r, 1, none⟩ l) := by
  obtain ⟨e1, e2, e3⟩ := rburnt_L R
  have hm : ∀ z ∈ R.L.eraseIdx j, z ∈ R.L := fun z hz => (List.eraseIdx_sublist R.L j).subset hz
  obtain ⟨q1, q2⟩ := fin_turn h3 hb hp (fun z hz => h3.segs z (by rw [e1]; exact hm z hz)) (fun z hz => h.far z (hm z hz))
  have hB := h.burnt h3 ht.size
  have ea : absR (R.L.eraseIdx j) = dropS (absR R.L) x.n := by
    have : absR (R.L.eraseIdx j) = (absR R.L).eraseIdx j := by
      exact erase_mapR RSeg.ab R.L j
    rw [this]
    exact erase_perm h.nodup (absR_at hx)
  have hrd : Rises (dropS (absR R.L) x.n) := List.Pairwise.sublist List.filter_sublist h.rises
  have hle := ht.size
  have hp1 : (plR (rburnt R)).room = (burnP (plR R)).room := congrArg Pl.room (plR_burnt hf)
  have hp2 : (plR (rburnt R)).fuse = (burnP (plR R)).fuse := congrArg Pl.fuse (plR_burnt hf)
  have hp3 : (plR (rburnt R)).down = (burnP (plR R)).down := congrArg Pl.down (plR_burnt hf)
  refine ⟨{ rburnt R with L := R.L.eraseIdx j, v := l }, ⟨q1, fun z hz => h.far z (hm z hz), by show Rises (absR (R.L.eraseIdx j)); rw [ea]; exact hrd, Nat.le_trans (List.eraseIdx_sublist _ _).length_le h.few, ?_, hB.room, hB.fuse, fun z hz => by obtain ⟨g, n, c, e, hl⟩ := h.base z (hm z hz); exact ⟨g, n, c, e, Nat.lt_of_lt_of_le hl (Nat.le_trans ht.size q2.size)⟩⟩, ⟨hp1, by show (absR (R.L.eraseIdx j)).Perm _; rw [ea], hp2, hp3⟩, ht.trans q2 (fun i _ hi => hi), fun k hk => ?_⟩
  · have h1 := (h.hitLen hx).2
    have h2 := h.used
    show rused (R.L.eraseIdx j) ≤ _
    rw [← absR_size, ea]
    omega
  · rcases hk with rfl | hk | ⟨z, hz, A, n, c, e, rfl⟩
    · exact .inl (.inl rfl)
    · have := hp.new k hk
      exact .inr (by omega)
    · exact .inl (.inr (.inr ⟨z, hm z hz, A, n, c, e, rfl⟩))
set_option maxRecDepth 100000 in
set_option maxHeartbeats 4000000 in
theorem rdo_drop {w : World} {r : Nat} {R : RTp} (h : RefOk w r R) {n : Int} {bv : Value} {b : List UInt8} {j : Nat} {x : RSeg} (hx : R.L[j]? = some x) (hn : nameP x.n = true) (hd : R.down = false) : Calls Tryz.prog 23 #[.pointer (some ⟨r, 0, none⟩), .int .i64 3, .int .i64 x.n, .int .i64 n, bv] w fun e w' => e = .returned (.int .i64 (doP (plR R) 3 x.n n b).1) ∧ DoP w r R (doP (plR R) 3 x.n n b).2 w' := by
  have hlk := h.lookP hx
  have hF : Fine (plR R) 3 x.n n b := ⟨hn, hd, (fun _ => by rw [hlk]; exact Option.some_ne_none _), (fun c => by cases c), (fun c => by cases c)⟩
  obtain ⟨h0, h1⟩ := nameP_yes.1 hn
  have g0 : ¬ x.n < 0 := by omega
  have g1 : ¬ 1048576 < x.n := by omega
  obtain ⟨A, cap, ev, hc2, hc1, HC⟩ := h.cells
  rw [hd] at HC
  have HFI := Lib.hid (rfind_hit h hx rfl)
  have c3 := (HC w (Below.refl _ _)).2
  have gj : ¬ (j : Int) < 0 := by omega
  by_cases hf : R.fuse = 0
  · rw [doP_dead hF hf]
    have HS := Lib.hid (rspent_no h hf)
    clear h hx hn hd hlk hF h0 h1 ev HC hf hc1 hc2
    go_enter Tryz.func23, Tryz.ntmps23
    go_wp2_with fail
    refine (HFI.out).mono ?_
    rintro e w1 ⟨rfl, hb⟩
    have HB := Lib.hid hb
    clear hb
    go_wp2_with fail
    refine (HS.out _ HB.out).mono ?_
    rintro e w3 ⟨rfl, h3⟩
    have H3 := Lib.hid h3
    clear h3
    go_wp2_with fail
    go_ret
    exact ⟨rfl, H3.out⟩
  · rw [doP_drop hF hf]
    have HS := Lib.hid (rspent_ok h hf)
    obtain ⟨Ax, cx, exv, hx1, hx2, _⟩ := (h.ref.segs x (List.mem_of_getElem? hx)).1
    have HBC := Lib.hid (fun (w3 : World) (h3 : RefAt w3 r (rburnt R)) (i : Nat) (y : RSeg) (hy : R.L[i]? = some y) => burnt_cells h h3 ev hy)
    have HEX := Lib.hid exv
    have HX := Lib.hid hx
    have HSL : Hid (∀ (i : Nat) (y : RSeg), R.L[i]? = some y → ∃ Ay cy, y.v = .slice Ay y.b.length cy) := fun i y hy => by
      obtain ⟨Ay, cy, e, _⟩ := (h.ref.segs y (List.mem_of_getElem? hy)).1
      exact ⟨Ay, cy, e⟩
    have hfew := h.few
    have HCUT := Lib.hid (fun (w3 wr : World) (h3 : RefAt w3 r (rburnt R)) (ht : Touch (· = r) w w3) (hb : Below w3.heap.size w3 wr) (l : Value) (hp : PutIn (w3.heap.size + 1) l (R.L.eraseIdx j) wr) => h.cut hf h3 ht hb hx hp)
    rw [show ({ burnP (plR R) with A := dropS (plR R).A x.n } : Pl) = { burnP (plR R) with A := dropS (absR R.L) x.n } from rfl]
    generalize ({ burnP (plR R) with A := dropS (absR R.L) x.n } : Pl) = q at *
    have hjl : (j : Int) < (R.L.length : Int) := by have := (List.getElem?_eq_some_iff.1 hx).1; omega
    clear h hn hd hlk hF h0 h1 HC hf exv hx ev
    go_enter Tryz.func23, Tryz.ntmps23
    go_wp2_with fail
    refine (HFI.out).mono ?_
    rintro e w1 ⟨rfl, hb⟩
    have HB := Lib.hid hb
    clear hb
    go_wp2_with fail
    refine (HS.out _ HB.out).mono ?_
    rintro e w3 ⟨rfl, h3, ht3⟩
    obtain ⟨k, g, rfl, hg, k0, k1, k2⟩ := HBC.out w3 h3 j x HX.out
    rw [HEX.out] at k1
    have hr3 := heap_lt h3.head
    have kA := cell_old k hr3 (.cells #[.int .i64 x.n, .slice none 0 0, .int .i64 0] 108)
    have kA2 := cell_old k hr3 (.cells #[.int .i64 x.n, .slice Ax x.b.length cx, .int .i64 (x.s : Int)] 108)
    have kB := cell_old k0 hg (.cells #[.int .i64 x.n, .slice none 0 0, .int .i64 0] 108)
    have kC := cell_old k1 hg (.cells #[.int .i64 x.n, .slice none 0 0, .int .i64 0] 108)
    have kD := cell_old k2 hg (.cells #[.int .i64 x.n, .slice none 0 0, .int .i64 0] 108)
    have ha : (⟨g, 0, none⟩ : Addr).add (j * 3) = ⟨g, j * 3, none⟩ := add0 _ _
    have HCW := Lib.hid (fun wr hb l hp => HCUT.out w3 wr h3 ht3 hb l hp)
    have HBW := Lib.hid (HBC.out w3 h3)
    have HB0 := Lib.hid (below_new (w := w3) (.cells #[.int .i64 x.n, .slice Ax x.b.length cx, .int .i64 (x.s : Int)] 108))
    have HASZ := Lib.hid (asz w3 (.cells #[.int .i64 x.n, .slice Ax x.b.length cx, .int .i64 (x.s : Int)] 108))
    have F3 : Hid (w3.frozen? ⟨r, 1, none⟩ = false) := free0 h3.head 1
    have K3 := Lib.hid k
    clear h3 ht3
    go_wp2_with fail
    go_loopw [13, 124] (fun l i wr => ∃ (m : Nat) (lv : Value), m ≤ R.L.length ∧ i = .int .i64 m ∧ lv = l ∧ PutIn (w3.heap.size + 1) lv (skipJ R.L j m) wr ∧ Below (w3.heap.size + 1) (w3.alloc (.cells #[.int .i64 x.n, .slice Ax x.b.length cx, .int .i64 (x.s : Int)] 108)) wr) (fun _ i _ => R.L.length - (intOf i).toNat)
    case atStart => exact ⟨0, _, by omega, rfl, rfl, ⟨by unfold skipJ; simp; exact .nil _ _, fun g hg => by cases hg⟩, Below.refl _ _⟩
    case round =>
      obtain ⟨m, l, hm, rfl, rfl, hp, hb⟩ := hrel
      have HB2 := Lib.hid hb
      have HBW3 := Lib.hid (HB0.out.trans (hb.mono (by omega)))
      have hszr := HB2.out.size
      rw [HASZ.out] at hszr
      have HP := Lib.hid hp
      clear k k0 k1 k2 kA kA2 kB kC kD
      by_cases hlt : m < R.L.length
      · have hxm : R.L[m]? = some R.L[m] := List.getElem?_eq_getElem hlt
        obtain ⟨_, g2, eg, hg2, y0, y1, y2⟩ := HBW.out m _ hxm
        obtain rfl : g = g2 := by injection eg with eg; injection eg
        obtain ⟨Ay, cy, ey⟩ := HSL.out m _ hxm
        have HM := Lib.hid hxm
        generalize R.L[m] = y at *
        rw [ey] at y1
        have EYC : Hid (y.cells = [.int .i64 y.n, .slice Ay y.b.length cy, .int .i64 (y.s : Int)]) := by show _ = _; unfold RSeg.cells; rw [ey]
        have c0 := (HBW3.out.cell (p := ⟨g, m * 3, none⟩) hg2).trans y0
        have c1 := (HBW3.out.cell (p := ⟨g, m * 3 + 1, none⟩) hg2).trans y1
        have c2 := (HBW3.out.cell (p := ⟨g, m * 3 + 2, none⟩) hg2).trans y2
        have ha2 : (⟨g, 0, none⟩ : Addr).add (m * 3) = ⟨g, m * 3, none⟩ := add0 _ _
        have HL := Lib.hid (skipJ_len R.L j m)
        have HBY0 := Lib.hid (below_new (w := wr) (.cells #[.int .i64 y.n, .slice Ay y.b.length cy, .int .i64 (y.s : Int)] 108))
        have HP1 := Lib.hid (HP.out.keep HBY0.out)
        have HB3 := Lib.hid (HB2.out.trans (HBY0.out.mono hszr))
        have HROW := Lib.hid (HP1.out.row.below (below_new (.cells #[.int .i64 y.n, .slice Ay y.b.length cy, .int .i64 (y.s : Int)] 108)))
        have src := src_seg (W := wr.alloc (.cells #[.int .i64 y.n, .slice Ay y.b.length cy, .int .i64 (y.s : Int)] 108)) y.n (y.s : Int) Ay y.b.length cy
        rw [asz] at src
        have SRC := Lib.hid src
        have HSZ : Hid (w3.heap.size + 1 ≤ (wr.alloc (.cells #[.int .i64 y.n, .slice Ay y.b.length cy, .int .i64 (y.s : Int)] 108)).heap.size) := by show _ ≤ _; rw [asz]; omega
        replace hlt : (m : Int) < (R.L.length : Int) := by omega
        clear hxm y0 y1 y2 ey hp hb src eg
        by_cases hne : m = j
        · have HN : Hid (skipJ R.L j (m + 1) = skipJ R.L j m) := by show _ = _; rw [hne]; exact skipJ_hit R.L j
          have q1 : ((m : Int) == (j : Int)) = true := beq_iff_eq.2 (by omega)
          have q2 : ((m : Int) != (j : Int)) = false := bne_eq_false_iff_eq.2 (by omega)
          have q3 : (m == j) = true := by simpa using hne
          have q4 : (m != j) = false := by simpa using hne
          clear hne
          go_wp2_with fail
          go_roundw
          case rel => exact ⟨m + 1, _, by omega, by go_num, rfl, by rw [HN.out]; exact HP1.out, HB3.out⟩
          case measure => simp [intOf]; omega
        · have HN := Lib.hid (skipJ_miss HM.out hne)
          have q1 : ((m : Int) == (j : Int)) = false := beq_eq_false_iff_ne.2 (by omega)
          have q2 : ((m : Int) != (j : Int)) = true := bne_iff_ne.2 (by omega)
          have q3 : (m == j) = false := by simpa using hne
          have q4 : (m != j) = true := by simpa using hne
          generalize skipJ R.L j m = acc at *
          clear hne
          go_wp2_with (at_builtin; refine wpList_append_row _ _ Tryz.underlying79 infoSeg rfl (by decide) (by decide) _ rfl _ _ 79 rfl acc.length 1 (acc.flatMap RSeg.cells) [.int .i64 y.n, .slice Ay y.b.length cy, .int .i64 (y.s : Int)] _ _ rfl rfl HROW.out SRC.out ?_ ?_)
          · have := HL.out; omega
          intro v2 w2 hrow hg hor
          rw [← EYC.out] at hrow
          have HF := Lib.hid (put_app HP1.out HB3.out HSZ.out y hrow hg (by rw [asz, asz]; exact hor))
          clear hrow hg hor
          go_wp2_with fail
          go_roundw
          case rel => exact ⟨m + 1, _, by omega, by go_num, rfl, by rw [HN.out]; exact HF.out.1, HF.out.2.1⟩
          case measure => simp [intOf]; omega
      · obtain rfl : m = R.L.length := by omega
        rw [skipJ_all] at hp
        have hcr := (HBW3.out.cell (p := ⟨r, 1, none⟩) hr3).trans K3.out
        have hfr := (HBW3.out.frozen (p := ⟨r, 1, none⟩) hr3).trans F3.out
        have HF := Lib.hid (HCW.out wr HBW3.out l hp)
        obtain ⟨Al, cl, rfl, _, _, _, _, _⟩ := hp.row.form
        clear hp hb
        go_wp2
        go_ret
        exact ⟨rfl, HF.out⟩
end Go.Proofs.YtnegnokielmgkaaGreatDoor
