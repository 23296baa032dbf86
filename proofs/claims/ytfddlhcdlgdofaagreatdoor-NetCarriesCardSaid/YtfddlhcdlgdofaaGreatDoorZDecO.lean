/- mess.Decode: what it reads is its own: turning what was there before does not turn it. (Its walk is MeeD's.) The net: Deliver. The net: Twice. -/
import Derived.Test.YtfddlhcdlgdofaaGreatDoorZMeeD
import Derived.Test.YtfddlhcdlgdofaaGreatDoorZNetG
set_option linter.unusedSimpArgs false
set_option linter.unusedVariables false
set_option linter.unnecessarySimpa false
namespace Go.Proofs.YtfddlhcdlgdofaaGreatDoor
open Go.RowKit Go.Shelf
/-- What Decode answers: its lists are new. -/
def DecOwn (w : World) (o : Option MsgV) (e : Ending) (w' : World) : Prop :=
  Below w.heap.size w w' ∧ ((o = none ∧ e = .returned (.tuple #[zeroM, .int .i64 6])) ∨ ∃ m v, o = some m ∧ e = .returned (.tuple #[v, .int .i64 0]) ∧ ∀ W', Touch (fun k => k < w.heap.size) w' W' → MsgIs W' v m)
set_option maxRecDepth 100000 in
set_option maxHeartbeats 16000000 in
theorem Decode_own {w : World} {v : Value} {bs : List UInt8} (hG : Glob w) (hMv : Mov w) (h : BIs w v bs) :
    Calls Tryz.prog 20 #[v] w (DecOwn w (decM bs)) := by
  have hb0 := below_new (w := w) (.cells #[.int .i64 0, .int .i64 0, .int .i64 0, .int .i64 0, .int .i64 0, .int .i64 0, .int .i64 0, .int .i64 0, .int .i64 0, .slice none 0 0, .slice none 0 0] 50)
  have hat := alloc_at w (.cells #[.int .i64 0, .int .i64 0, .int .i64 0, .int .i64 0, .int .i64 0, .int .i64 0, .int .i64 0, .int .i64 0, .int .i64 0, .slice none 0 0, .slice none 0 0] 50)
  have HON := Lib.hid (One_any (hMv.below hb0) (h.below hb0))
  have HB0 := Lib.hid hb0
  have HAT := Lib.hid hat
  have HG := Lib.hid hG
  have hbl := bodyW_le bs
  obtain ⟨wb, hwb⟩ : ∃ b, wholeP bs = b := ⟨_, rfl⟩
  rw [hwb] at HON
  obtain ⟨B, hB⟩ : ∃ B, bodyW bs = B := ⟨_, rfl⟩
  rw [hB] at HON hbl
  have HWB := Lib.hid (And.intro hwb hB)
  obtain ⟨A0, cap0, rfl, _⟩ := h
  clear hG hMv hb0 hat hwb hB
  go_enter Tryz.func20, Tryz.ntmps20
  go_wp2_with fail
  refine (HON.out).mono ?_
  rintro e w1 ⟨x, rfl, hx, hb1⟩
  have HZ1 := Lib.hid ((hb1.block w.heap.size (by rw [asz]; omega)).trans HAT.out)
  have HB1 := Lib.hid (HB0.out.trans (hb1.mono HB0.out.size))
  have HOF := Lib.hid (of_any hx (by omega))
  obtain ⟨Ax, cx, rfl, _⟩ := hx
  clear hb1 HON
  go_wp2_with fail
  refine (HOF.out).mono ?_
  rintro e w2 ⟨g, A, cap, rfl, hgn, hR, hb2⟩
  have hR : RdS w2 g A cap B (some 0) := hR
  have HRE := Lib.hid (read_u hR)
  have hR0 : w.heap.size < g := Nat.lt_of_lt_of_le (heap_lt HZ1.out) hgn
  have HZ2 := Lib.hid ((hb2.block w.heap.size (heap_lt HZ1.out)).trans HZ1.out)
  have HB2 := Lib.hid (HB1.out.trans (hb2.mono HB1.out.size))
  obtain ⟨a, s1, ha⟩ : ∃ n s, hdS B 10 (some 0) = (n, s) := ⟨_, _, rfl⟩
  obtain ⟨ns, s2, hns⟩ : ∃ n s, hdS B (manyS a) s1 = (n, s) := ⟨_, _, rfl⟩
  obtain ⟨raw, s3, hraw⟩ : ∃ n s, strS 16384 B s2 = (n, s) := ⟨_, _, rfl⟩
  have hal : a.length = 10 := by have := hdS_len B 10 (some 0); rw [ha] at this; exact this
  have hrl : raw.size ≤ 16384 := by have := (strS_le : (strS 16384 B s2).1.size ≤ 16384); rw [hraw] at this; exact this
  rw [ha] at HRE
  simp only at HRE
  rw [hns] at HRE
  simp only at HRE
  have HHA := Lib.hid (And.intro ha (And.intro hns (And.intro hraw hal)))
  clear hR hb2 HOF ha hns hraw hal hgn
  go_wp2_with fail
  refine (HRE.out).mono ?_
  rintro e w3 ⟨tA, tc, Bt, hgB, _, rfl, hrow, hR3, hO3⟩
  obtain ⟨m0, hm0⟩ : ∃ m, msgOf a ns [] = m := ⟨_, rfl⟩
  rw [hm0]
  have HM0 := Lib.hid hm0
  have hb4 := below_new (w := w3) (.cells #[.int .i64 m0.kd, .int .i64 m0.fr, .int .i64 m0.tt, .int .i64 m0.g, .int .i64 m0.nd, .int .i64 m0.tr, .int .i64 m0.lw, .int .i64 m0.co, .int .i64 m0.ti, .slice tA ns.length tc, .slice none 0 0] 50)
  have hat4 := alloc_at w3 (.cells #[.int .i64 m0.kd, .int .i64 m0.fr, .int .i64 m0.tt, .int .i64 m0.g, .int .i64 m0.nd, .int .i64 m0.tr, .int .i64 m0.lw, .int .i64 m0.co, .int .i64 m0.ti, .slice tA ns.length tc, .slice none 0 0] 50)
  have HZ3 := Lib.hid (hO3.block' HZ2.out (by omega))
  have hb3 : Below w.heap.size w w3 := HB2.out.trans (hO3.touch.below (fun i e => by rw [e]; omega) HB2.out.size)
  have HB4 := Lib.hid (hb3.trans (hb4.mono hb3.size))
  have HST := Lib.hid (str_u (most := 16384) (by omega) (hR3.below hb4))
  rw [HHA.out.2.2.1] at HST
  simp only at HST
  have HAT4 := Lib.hid hat4
  have HRW := Lib.hid (And.intro hrow hgB)
  have HG3 := Lib.hid (hR3.lt)
  have HZ4 := Lib.hid ((hb4.block w.heap.size (heap_lt HZ3.out)).trans HZ3.out)
  clear hrow hR3 hO3 hb4 hat4 hb3 hm0 HRE hgB
  go_wp2_with fail
  refine (HST.out).mono ?_
  rintro e w5 ⟨rfl, hR5, hO5⟩
  have hM5 := hO5.block' HAT4.out (by have := HG3.out; omega)
  have HZ5a := Lib.hid (hO5.block' HZ4.out (by omega))
  have hb5 : Below w.heap.size w w5 := HB4.out.trans (hO5.touch.below (fun i e => by rw [e]; omega) HB4.out.size)
  have hrow5 : RowN w5 Bt 1 (.slice tA ns.length tc) ns.length (numC ns) := ⟨(HRW.out.1.1.below (below_new _)).touch hO5.touch (fun b e hb => by have := (HRW.out.1.2.1 b e).1; have := HRW.out.2; omega), HRW.out.1.2⟩
  have hcv := Lib.run_convert_string_bytes (P := Tryz.prog) w5 9 54 5 raw Tryz.underlying9 Tryz.underlying54 Tryz.underlying5
  have hbb := bytes_conv w5 raw (by omega)
  have hb6 := Lib.bytesWorld_below w5 5 raw
  have hsz6 : w5.heap.size ≤ (Lib.bytesWorld w5 5 raw).heap.size := hb6.size
  generalize Lib.bytesWorld w5 5 raw = w6 at *
  generalize grownCap w5 raw.size 0 5 = cap6 at *
  have hB6 := hb5.trans (hb6.mono hb5.size)
  have HOD := Lib.hid (opsdec_any (HG.out.below hB6) hbb (by rw [size_list]; omega))
  have HB6 := Lib.hid hB6
  have HM6 := Lib.hid ((hb6.block w3.heap.size (heap_lt hM5)).trans hM5)
  have HR6 := Lib.hid (hR5.below hb6)
  have HRW6 : Hid (RowN w6 Bt 1 (.slice tA ns.length tc) ns.length (numC ns)) := Lib.hid ⟨hrow5.1.below hb6, hrow5.2⟩
  have HZ6 := Lib.hid ((hb6.block w.heap.size (heap_lt HZ5a.out)).trans HZ5a.out)
  have hm5 := heap_lt hM5
  obtain ⟨od, hod⟩ : ∃ o, decO raw.data.toList = o := ⟨_, rfl⟩
  rw [hod] at HOD
  have HODE := Lib.hid hod
  clear hR5 hO5 hM5 hb5 hrow5 hbb hb6 hB6 hod HST
  go_wp2_with fail
  clear hcv
  refine (HOD.out).mono ?_
  rintro e w7 ⟨hb7, hcs⟩
  have HM7 := Lib.hid ((hb7.block w3.heap.size (heap_lt HM6.out)).trans HM6.out)
  have HZ7 := Lib.hid ((hb7.block w.heap.size (heap_lt HZ6.out)).trans HZ6.out)
  have HB7 := Lib.hid (HB6.out.trans (hb7.mono HB6.out.size))
  have HR7 := Lib.hid (HR6.out.below hb7)
  have HRW7 : Hid (RowN w7 Bt 1 (.slice tA ns.length tc) ns.length (numC ns)) := Lib.hid ⟨HRW6.out.1.below hb7, HRW6.out.2⟩
  have hsz7 : w6.heap.size ≤ w7.heap.size := hb7.size
  have hMR : w3.heap.size ≠ w.heap.size := by have := HG3.out; omega
  have hzM := HM7.out
  have d10 := cell_of hzM 10
  have e10 := free0 hzM 10
  simp at d10
  clear hb7 HOD hzM
  rcases hcs with ⟨rfl, rfl⟩ | ⟨l, Ao, co, rfl, rfl, hro, hkl⟩
  · -- the operations can't be read
    have HZX := Lib.hid ((Below.heap_setCell w7 ⟨w3.heap.size, 10, none⟩ (.slice none 0 0) w.heap.size hMR.symm).trans HZ7.out)
    have HBX := Lib.hid (HB7.out.setCell (p := ⟨w3.heap.size, 10, none⟩) (by show w.heap.size ≤ w3.heap.size; have := HG3.out; omega) (.slice none 0 0))
    have HXN : Hid (wb = true → decM bs = none) := Lib.hid (fun h => by
      rw [decM_whole (HWB.out.1.trans h), HWB.out.2]
      exact decB_none HHA.out.1 HHA.out.2.1 HHA.out.2.2.1 HODE.out)
    cases wb with
    | false =>
      have hz := HZX.out
      have hzw := HZ7.out
      have c0 := cell_of hzw 0
      have c1 := cell_of hzw 1
      have c2 := cell_of hzw 2
      have c3 := cell_of hzw 3
      have c4 := cell_of hzw 4
      have c5 := cell_of hzw 5
      have c6 := cell_of hzw 6
      have c7 := cell_of hzw 7
      have c8 := cell_of hzw 8
      have c9 := cell_of hzw 9
      have c10 := cell_of hzw 10
      have f0 := free0 hzw 0
      have f1 := free0 hzw 1
      have f2 := free0 hzw 2
      have f3 := free0 hzw 3
      have f4 := free0 hzw 4
      have f5 := free0 hzw 5
      have f6 := free0 hzw 6
      have f7 := free0 hzw 7
      have f8 := free0 hzw 8
      have f9 := free0 hzw 9
      have f10 := free0 hzw 10
      simp at c0 c1 c2 c3 c4 c5 c6 c7 c8 c9 c10
      have HZ5 := Lib.hid (setCells_at w.heap.size [.int .i64 0, .int .i64 0, .int .i64 0, .int .i64 0, .int .i64 0, .int .i64 0, .int .i64 0, .int .i64 0, .int .i64 0, .slice none 0 0, .slice none 0 0] [] [.int .i64 0, .int .i64 0, .int .i64 0, .int .i64 0, .int .i64 0, .int .i64 0, .int .i64 0, .int .i64 0, .int .i64 0, .slice none 0 0, .slice none 0 0] (w7.setCell ⟨w3.heap.size, 10, none⟩ (.slice none 0 0)) rfl hz)
      have HT5 := Lib.hid (setCells_touch (S := fun k => k = w.heap.size) (a := (w7.setCell ⟨w3.heap.size, 10, none⟩ (.slice none 0 0))) w.heap.size (fun _ => rfl) [.int .i64 0, .int .i64 0, .int .i64 0, .int .i64 0, .int .i64 0, .int .i64 0, .int .i64 0, .int .i64 0, .int .i64 0, .slice none 0 0, .slice none 0 0] 0 (w7.setCell ⟨w3.heap.size, 10, none⟩ (.slice none 0 0)) (Touch.refl _ _))
      have HBE := Lib.hid (HBX.out)
      have HNO : Hid (decM bs = none) := Lib.hid (decM_no HWB.out.1)
      clear hz hzw
      go_wp2_with fail
      change bodyPost _ _ _ _ _ (World.setCells _ w.heap.size 0 [.int .i64 0, .int .i64 0, .int .i64 0, .int .i64 0, .int .i64 0, .int .i64 0, .int .i64 0, .int .i64 0, .int .i64 0, .slice none 0 0, .slice none 0 0])
      simp only [List.length_nil, List.nil_append] at HZ5
      generalize World.setCells _ w.heap.size 0 [.int .i64 0, .int .i64 0, .int .i64 0, .int .i64 0, .int .i64 0, .int .i64 0, .int .i64 0, .int .i64 0, .int .i64 0, .slice none 0 0, .slice none 0 0] = W5 at *
      clear c0 c1 c2 c3 c4 c5 c6 c7 c8 c9 c10 f0 f1 f2 f3 f4 f5 f6 f7 f8 f9 f10
      have j0 := cell_of HZ5.out 0
      have j1 := cell_of HZ5.out 1
      have j2 := cell_of HZ5.out 2
      have j3 := cell_of HZ5.out 3
      have j4 := cell_of HZ5.out 4
      have j5 := cell_of HZ5.out 5
      have j6 := cell_of HZ5.out 6
      have j7 := cell_of HZ5.out 7
      have j8 := cell_of HZ5.out 8
      have j9 := cell_of HZ5.out 9
      have j10 := cell_of HZ5.out 10
      simp at j0 j1 j2 j3 j4 j5 j6 j7 j8 j9 j10
      refine bodyPost_ret (v := .tuple #[.agg #[.int .i64 0, .int .i64 0, .int .i64 0, .int .i64 0, .int .i64 0, .int .i64 0, .int .i64 0, .int .i64 0, .int .i64 0, .slice none 0 0, .slice none 0 0], .int .i64 6]) (by simp [results, Tryz.results20, go_sem, j0, j1, j2, j3, j4, j5, j6, j7, j8, j9, j10]) rfl ?_
      exact ⟨HBE.out.trans (HT5.out.below (fun i e => by rw [e]; exact Nat.le_refl _) HBE.out.size), .inl ⟨HNO.out, rfl⟩⟩
    | true =>
      have hz := HZX.out
      have hzw := HZ7.out
      have c0 := cell_of hzw 0
      have c1 := cell_of hzw 1
      have c2 := cell_of hzw 2
      have c3 := cell_of hzw 3
      have c4 := cell_of hzw 4
      have c5 := cell_of hzw 5
      have c6 := cell_of hzw 6
      have c7 := cell_of hzw 7
      have c8 := cell_of hzw 8
      have c9 := cell_of hzw 9
      have c10 := cell_of hzw 10
      have f0 := free0 hzw 0
      have f1 := free0 hzw 1
      have f2 := free0 hzw 2
      have f3 := free0 hzw 3
      have f4 := free0 hzw 4
      have f5 := free0 hzw 5
      have f6 := free0 hzw 6
      have f7 := free0 hzw 7
      have f8 := free0 hzw 8
      have f9 := free0 hzw 9
      have f10 := free0 hzw 10
      simp at c0 c1 c2 c3 c4 c5 c6 c7 c8 c9 c10
      have HZ5 := Lib.hid (setCells_at w.heap.size [.int .i64 0, .int .i64 0, .int .i64 0, .int .i64 0, .int .i64 0, .int .i64 0, .int .i64 0, .int .i64 0, .int .i64 0, .slice none 0 0, .slice none 0 0] [] [.int .i64 0, .int .i64 0, .int .i64 0, .int .i64 0, .int .i64 0, .int .i64 0, .int .i64 0, .int .i64 0, .int .i64 0, .slice none 0 0, .slice none 0 0] (w7.setCell ⟨w3.heap.size, 10, none⟩ (.slice none 0 0)) rfl hz)
      have HT5 := Lib.hid (setCells_touch (S := fun k => k = w.heap.size) (a := (w7.setCell ⟨w3.heap.size, 10, none⟩ (.slice none 0 0))) w.heap.size (fun _ => rfl) [.int .i64 0, .int .i64 0, .int .i64 0, .int .i64 0, .int .i64 0, .int .i64 0, .int .i64 0, .int .i64 0, .int .i64 0, .slice none 0 0, .slice none 0 0] 0 (w7.setCell ⟨w3.heap.size, 10, none⟩ (.slice none 0 0)) (Touch.refl _ _))
      have HBE := Lib.hid (HBX.out)
      have HNO : Hid (decM bs = none) := Lib.hid (HXN.out rfl)
      clear hz hzw
      go_wp2_with fail
      change bodyPost _ _ _ _ _ (World.setCells _ w.heap.size 0 [.int .i64 0, .int .i64 0, .int .i64 0, .int .i64 0, .int .i64 0, .int .i64 0, .int .i64 0, .int .i64 0, .int .i64 0, .slice none 0 0, .slice none 0 0])
      simp only [List.length_nil, List.nil_append] at HZ5
      generalize World.setCells _ w.heap.size 0 [.int .i64 0, .int .i64 0, .int .i64 0, .int .i64 0, .int .i64 0, .int .i64 0, .int .i64 0, .int .i64 0, .int .i64 0, .slice none 0 0, .slice none 0 0] = W5 at *
      clear c0 c1 c2 c3 c4 c5 c6 c7 c8 c9 c10 f0 f1 f2 f3 f4 f5 f6 f7 f8 f9 f10
      have j0 := cell_of HZ5.out 0
      have j1 := cell_of HZ5.out 1
      have j2 := cell_of HZ5.out 2
      have j3 := cell_of HZ5.out 3
      have j4 := cell_of HZ5.out 4
      have j5 := cell_of HZ5.out 5
      have j6 := cell_of HZ5.out 6
      have j7 := cell_of HZ5.out 7
      have j8 := cell_of HZ5.out 8
      have j9 := cell_of HZ5.out 9
      have j10 := cell_of HZ5.out 10
      simp at j0 j1 j2 j3 j4 j5 j6 j7 j8 j9 j10
      refine bodyPost_ret (v := .tuple #[.agg #[.int .i64 0, .int .i64 0, .int .i64 0, .int .i64 0, .int .i64 0, .int .i64 0, .int .i64 0, .int .i64 0, .int .i64 0, .slice none 0 0, .slice none 0 0], .int .i64 6]) (by simp [results, Tryz.results20, go_sem, j0, j1, j2, j3, j4, j5, j6, j7, j8, j9, j10]) rfl ?_
      exact ⟨HBE.out.trans (HT5.out.below (fun i e => by rw [e]; exact Nat.le_refl _) HBE.out.size), .inl ⟨HNO.out, rfl⟩⟩
  · have HM1 := Lib.hid (msgOf_ops (a := a) (ns := ns) (l := l) HHA.out.2.2.2)
    rw [HM0.out] at HM1
    have HXS : Hid (wb = true → decM bs = finM B s3 { m0 with os := l }) := Lib.hid (fun h => by
      rw [decM_whole (HWB.out.1.trans h), HWB.out.2, decB_some HHA.out.1 HHA.out.2.1 HHA.out.2.2.1 HODE.out, HM1.out.1])
    have HZX := Lib.hid ((Below.heap_setCell w7 ⟨w3.heap.size, 10, none⟩ (.slice Ao l.length co) w.heap.size hMR.symm).trans HZ7.out)
    have hbx : Below w.heap.size w (w7.setCell ⟨w3.heap.size, 10, none⟩ (.slice Ao l.length co)) := HB7.out.setCell (p := ⟨w3.heap.size, 10, none⟩) (by show w.heap.size ≤ w3.heap.size; have := HG3.out; omega) (.slice Ao l.length co)
    have HBX := Lib.hid hbx
    cases wb with
    | false =>
      clear hro hkl hbx
      have hz := HZX.out
      have hzw := HZ7.out
      have c0 := cell_of hzw 0
      have c1 := cell_of hzw 1
      have c2 := cell_of hzw 2
      have c3 := cell_of hzw 3
      have c4 := cell_of hzw 4
      have c5 := cell_of hzw 5
      have c6 := cell_of hzw 6
      have c7 := cell_of hzw 7
      have c8 := cell_of hzw 8
      have c9 := cell_of hzw 9
      have c10 := cell_of hzw 10
      have f0 := free0 hzw 0
      have f1 := free0 hzw 1
      have f2 := free0 hzw 2
      have f3 := free0 hzw 3
      have f4 := free0 hzw 4
      have f5 := free0 hzw 5
      have f6 := free0 hzw 6
      have f7 := free0 hzw 7
      have f8 := free0 hzw 8
      have f9 := free0 hzw 9
      have f10 := free0 hzw 10
      simp at c0 c1 c2 c3 c4 c5 c6 c7 c8 c9 c10
      have HZ5 := Lib.hid (setCells_at w.heap.size [.int .i64 0, .int .i64 0, .int .i64 0, .int .i64 0, .int .i64 0, .int .i64 0, .int .i64 0, .int .i64 0, .int .i64 0, .slice none 0 0, .slice none 0 0] [] [.int .i64 0, .int .i64 0, .int .i64 0, .int .i64 0, .int .i64 0, .int .i64 0, .int .i64 0, .int .i64 0, .int .i64 0, .slice none 0 0, .slice none 0 0] (w7.setCell ⟨w3.heap.size, 10, none⟩ (.slice Ao l.length co)) rfl hz)
      have HT5 := Lib.hid (setCells_touch (S := fun k => k = w.heap.size) (a := (w7.setCell ⟨w3.heap.size, 10, none⟩ (.slice Ao l.length co))) w.heap.size (fun _ => rfl) [.int .i64 0, .int .i64 0, .int .i64 0, .int .i64 0, .int .i64 0, .int .i64 0, .int .i64 0, .int .i64 0, .int .i64 0, .slice none 0 0, .slice none 0 0] 0 (w7.setCell ⟨w3.heap.size, 10, none⟩ (.slice Ao l.length co)) (Touch.refl _ _))
      have HBE := Lib.hid (HBX.out)
      have HNO : Hid (decM bs = none) := Lib.hid (decM_no HWB.out.1)
      clear hz hzw
      go_wp2_with fail
      change bodyPost _ _ _ _ _ (World.setCells _ w.heap.size 0 [.int .i64 0, .int .i64 0, .int .i64 0, .int .i64 0, .int .i64 0, .int .i64 0, .int .i64 0, .int .i64 0, .int .i64 0, .slice none 0 0, .slice none 0 0])
      simp only [List.length_nil, List.nil_append] at HZ5
      generalize World.setCells _ w.heap.size 0 [.int .i64 0, .int .i64 0, .int .i64 0, .int .i64 0, .int .i64 0, .int .i64 0, .int .i64 0, .int .i64 0, .int .i64 0, .slice none 0 0, .slice none 0 0] = W5 at *
      clear c0 c1 c2 c3 c4 c5 c6 c7 c8 c9 c10 f0 f1 f2 f3 f4 f5 f6 f7 f8 f9 f10
      have j0 := cell_of HZ5.out 0
      have j1 := cell_of HZ5.out 1
      have j2 := cell_of HZ5.out 2
      have j3 := cell_of HZ5.out 3
      have j4 := cell_of HZ5.out 4
      have j5 := cell_of HZ5.out 5
      have j6 := cell_of HZ5.out 6
      have j7 := cell_of HZ5.out 7
      have j8 := cell_of HZ5.out 8
      have j9 := cell_of HZ5.out 9
      have j10 := cell_of HZ5.out 10
      simp at j0 j1 j2 j3 j4 j5 j6 j7 j8 j9 j10
      refine bodyPost_ret (v := .tuple #[.agg #[.int .i64 0, .int .i64 0, .int .i64 0, .int .i64 0, .int .i64 0, .int .i64 0, .int .i64 0, .int .i64 0, .int .i64 0, .slice none 0 0, .slice none 0 0], .int .i64 6]) (by simp [results, Tryz.results20, go_sem, j0, j1, j2, j3, j4, j5, j6, j7, j8, j9, j10]) rfl ?_
      exact ⟨HBE.out.trans (HT5.out.below (fun i e => by rw [e]; exact Nat.le_refl _) HBE.out.size), .inl ⟨HNO.out, rfl⟩⟩
    | true =>
      have htx : Touch (fun k => k = w3.heap.size) w7 (w7.setCell ⟨w3.heap.size, 10, none⟩ (.slice Ao l.length co)) := (Touch.refl (fun k => k = w3.heap.size) w7).setCell ⟨w3.heap.size, 10, none⟩ (fun _ => rfl) _
      have hm0c := cell_of HM7.out 0
      simp at hm0c
      have hMX := set_at HM7.out 10 (.slice Ao l.length co)
      simp at hMX
      have hRX := HR7.out.apart hm0c htx
      have HRWX : Hid (RowN (w7.setCell ⟨w3.heap.size, 10, none⟩ (.slice Ao l.length co)) Bt 1 (.slice tA ns.length tc) ns.length (numC ns) ∧ RowN (w7.setCell ⟨w3.heap.size, 10, none⟩ (.slice Ao l.length co)) w6.heap.size 4 (.slice Ao l.length co) l.length (opC l)) := Lib.hid ⟨⟨HRW7.out.1.touch htx (fun b e hb => by
          have := HRW.out.1.1.lt b e
          omega), HRW7.out.2⟩, ⟨hro.1.touch htx (fun b e hb => by have := (hro.2.1 b e).1; omega), hro.2⟩⟩
      have HKL := Lib.hid hkl
      have HEN := Lib.hid (end_u (HG.out.below hbx) (by have := HG.out.lt; omega) hRX)
      have HMX := Lib.hid hMX
      have HGX := Lib.hid hRX.lt
      clear htx hm0c hMX hRX hro hkl hbx
      go_wp2_with fail
      refine (HEN.out).mono ?_
      rintro e w8 ⟨x, rfl, hx, hO8⟩
      have HZ8 := Lib.hid (hO8.block' HZX.out (by omega))
      have HM8 := Lib.hid (hO8.block' HMX.out (by have := HG3.out; omega))
      have HB8 := Lib.hid (HBX.out.trans (hO8.touch.below (fun i e => by rw [e]; omega) HBX.out.size))
      have HRW8 : Hid (RowN w8 Bt 1 (.slice tA ns.length tc) ns.length (numC ns) ∧ RowN w8 w6.heap.size 4 (.slice Ao l.length co) l.length (opC l)) := Lib.hid ⟨⟨HRWX.out.1.1.touch hO8.touch (fun b e hb => by have := (HRWX.out.1.2.1 b e).1; have := HRW.out.2; omega), HRWX.out.1.2⟩, ⟨HRWX.out.2.1.touch hO8.touch (fun b e hb => by have := (HRWX.out.2.2.1 b e).1; have := HG3.out; omega), HRWX.out.2.2⟩⟩
      by_cases hst : s3 = some B.length
      · obtain rfl : x = 0 := by simpa [hst] using hx
        have htl := HM1.out.2
        have htn : m0.tl.length = ns.length := by rw [htl, List.length_map]
        have hmsg : MsgIs w8 (.agg #[.int .i64 m0.kd, .int .i64 m0.fr, .int .i64 m0.tt, .int .i64 m0.g, .int .i64 m0.nd, .int .i64 m0.tr, .int .i64 m0.lw, .int .i64 m0.co, .int .i64 m0.ti, .slice tA ns.length tc, .slice Ao l.length co]) { m0 with os := l } := ⟨tA, tc, Ao, co, by simp only [htn], by
            show NumsAt w8 (.slice tA m0.tl.length tc) m0.tl
            rw [htn, htl]
            exact HRW8.out.1.nums rfl, HRW8.out.2.1.ops rfl, HKL.out⟩
        have HMY := Lib.hid (May_any (HG.out.below HB8.out) hmsg)
        obtain ⟨mb, hmb⟩ : ∃ b, mayM { m0 with os := l } = b := ⟨_, rfl⟩
        rw [hmb] at HMY
        have HMB := Lib.hid hmb
        have HST2 := Lib.hid hst
        have hzM := HM8.out
        have d0 := cell_of hzM 0
        have d1 := cell_of hzM 1
        have d2 := cell_of hzM 2
        have d3 := cell_of hzM 3
        have d4 := cell_of hzM 4
        have d5 := cell_of hzM 5
        have d6 := cell_of hzM 6
        have d7 := cell_of hzM 7
        have d8 := cell_of hzM 8
        have d9 := cell_of hzM 9
        have d10 := cell_of hzM 10
        simp at d0 d1 d2 d3 d4 d5 d6 d7 d8 d9 d10
        clear hx hO8 htl htn hmsg hmb hst hzM HEN
        go_wp2_with fail
        refine (HMY.out).mono ?_
        rintro e w9 ⟨rfl, hb9⟩
        have HZ9 := Lib.hid ((hb9.block w.heap.size (heap_lt HZ8.out)).trans HZ8.out)
        have HM9 := Lib.hid ((hb9.block w3.heap.size (heap_lt HM8.out)).trans HM8.out)
        have HB9 := Lib.hid (HB8.out.trans (hb9.mono HB8.out.size))
        have HRW9 : Hid (RowN w9 Bt 1 (.slice tA ns.length tc) ns.length (numC ns) ∧ RowN w9 w6.heap.size 4 (.slice Ao l.length co) l.length (opC l)) := Lib.hid ⟨⟨HRW8.out.1.1.below hb9, HRW8.out.1.2⟩, ⟨HRW8.out.2.1.below hb9, HRW8.out.2.2⟩⟩
        clear hb9 HMY d0 d1 d2 d3 d4 d5 d6 d7 d8 d9 d10 e10
        cases mb with
        | false =>
          have hz := HZ9.out
          have hzw := HZ9.out
          have c0 := cell_of hzw 0
          have c1 := cell_of hzw 1
          have c2 := cell_of hzw 2
          have c3 := cell_of hzw 3
          have c4 := cell_of hzw 4
          have c5 := cell_of hzw 5
          have c6 := cell_of hzw 6
          have c7 := cell_of hzw 7
          have c8 := cell_of hzw 8
          have c9 := cell_of hzw 9
          have c10 := cell_of hzw 10
          have f0 := free0 hzw 0
          have f1 := free0 hzw 1
          have f2 := free0 hzw 2
          have f3 := free0 hzw 3
          have f4 := free0 hzw 4
          have f5 := free0 hzw 5
          have f6 := free0 hzw 6
          have f7 := free0 hzw 7
          have f8 := free0 hzw 8
          have f9 := free0 hzw 9
          have f10 := free0 hzw 10
          simp at c0 c1 c2 c3 c4 c5 c6 c7 c8 c9 c10
          have HZ5 := Lib.hid (setCells_at w.heap.size [.int .i64 0, .int .i64 0, .int .i64 0, .int .i64 0, .int .i64 0, .int .i64 0, .int .i64 0, .int .i64 0, .int .i64 0, .slice none 0 0, .slice none 0 0] [] [.int .i64 0, .int .i64 0, .int .i64 0, .int .i64 0, .int .i64 0, .int .i64 0, .int .i64 0, .int .i64 0, .int .i64 0, .slice none 0 0, .slice none 0 0] w9 rfl hz)
          have HT5 := Lib.hid (setCells_touch (S := fun k => k = w.heap.size) (a := w9) w.heap.size (fun _ => rfl) [.int .i64 0, .int .i64 0, .int .i64 0, .int .i64 0, .int .i64 0, .int .i64 0, .int .i64 0, .int .i64 0, .int .i64 0, .slice none 0 0, .slice none 0 0] 0 w9 (Touch.refl _ _))
          have HBE := Lib.hid (HB9.out)
          have HNO : Hid (decM bs = none) := Lib.hid (by rw [HXS.out (by first | rfl | trivial)]; unfold finM; rw [if_neg (fun h => by rw [HMB.out] at h; exact absurd h.2 (by decide))])
          clear hz hzw
          go_wp2_with fail
          change bodyPost _ _ _ _ _ (World.setCells _ w.heap.size 0 [.int .i64 0, .int .i64 0, .int .i64 0, .int .i64 0, .int .i64 0, .int .i64 0, .int .i64 0, .int .i64 0, .int .i64 0, .slice none 0 0, .slice none 0 0])
          simp only [List.length_nil, List.nil_append] at HZ5
          generalize World.setCells _ w.heap.size 0 [.int .i64 0, .int .i64 0, .int .i64 0, .int .i64 0, .int .i64 0, .int .i64 0, .int .i64 0, .int .i64 0, .int .i64 0, .slice none 0 0, .slice none 0 0] = W5 at *
          clear c0 c1 c2 c3 c4 c5 c6 c7 c8 c9 c10 f0 f1 f2 f3 f4 f5 f6 f7 f8 f9 f10
          have j0 := cell_of HZ5.out 0
          have j1 := cell_of HZ5.out 1
          have j2 := cell_of HZ5.out 2
          have j3 := cell_of HZ5.out 3
          have j4 := cell_of HZ5.out 4
          have j5 := cell_of HZ5.out 5
          have j6 := cell_of HZ5.out 6
          have j7 := cell_of HZ5.out 7
          have j8 := cell_of HZ5.out 8
          have j9 := cell_of HZ5.out 9
          have j10 := cell_of HZ5.out 10
          simp at j0 j1 j2 j3 j4 j5 j6 j7 j8 j9 j10
          refine bodyPost_ret (v := .tuple #[.agg #[.int .i64 0, .int .i64 0, .int .i64 0, .int .i64 0, .int .i64 0, .int .i64 0, .int .i64 0, .int .i64 0, .int .i64 0, .slice none 0 0, .slice none 0 0], .int .i64 6]) (by simp [results, Tryz.results20, go_sem, j0, j1, j2, j3, j4, j5, j6, j7, j8, j9, j10]) rfl ?_
          exact ⟨HBE.out.trans (HT5.out.below (fun i e => by rw [e]; exact Nat.le_refl _) HBE.out.size), .inl ⟨HNO.out, rfl⟩⟩
        | true =>
          have hzM := HM9.out
          have d0 := cell_of hzM 0
          have d1 := cell_of hzM 1
          have d2 := cell_of hzM 2
          have d3 := cell_of hzM 3
          have d4 := cell_of hzM 4
          have d5 := cell_of hzM 5
          have d6 := cell_of hzM 6
          have d7 := cell_of hzM 7
          have d8 := cell_of hzM 8
          have d9 := cell_of hzM 9
          have d10 := cell_of hzM 10
          simp at d0 d1 d2 d3 d4 d5 d6 d7 d8 d9 d10
          have hz := HZ9.out
          have c0 := cell_of hz 0
          have c1 := cell_of hz 1
          have c2 := cell_of hz 2
          have c3 := cell_of hz 3
          have c4 := cell_of hz 4
          have c5 := cell_of hz 5
          have c6 := cell_of hz 6
          have c7 := cell_of hz 7
          have c8 := cell_of hz 8
          have c9 := cell_of hz 9
          have c10 := cell_of hz 10
          have f0 := free0 hz 0
          have f1 := free0 hz 1
          have f2 := free0 hz 2
          have f3 := free0 hz 3
          have f4 := free0 hz 4
          have f5 := free0 hz 5
          have f6 := free0 hz 6
          have f7 := free0 hz 7
          have f8 := free0 hz 8
          have f9 := free0 hz 9
          have f10 := free0 hz 10
          simp at c0 c1 c2 c3 c4 c5 c6 c7 c8 c9 c10
          have HZ5 := Lib.hid (setCells_at w.heap.size [.int .i64 m0.kd, .int .i64 m0.fr, .int .i64 m0.tt, .int .i64 m0.g, .int .i64 m0.nd, .int .i64 m0.tr, .int .i64 m0.lw, .int .i64 m0.co, .int .i64 m0.ti, .slice tA ns.length tc, .slice Ao l.length co] [] [.int .i64 0, .int .i64 0, .int .i64 0, .int .i64 0, .int .i64 0, .int .i64 0, .int .i64 0, .int .i64 0, .int .i64 0, .slice none 0 0, .slice none 0 0] w9 rfl hz)
          have HT5 := Lib.hid (setCells_touch (S := fun k => k = w.heap.size) (a := w9) w.heap.size (fun _ => rfl) [.int .i64 m0.kd, .int .i64 m0.fr, .int .i64 m0.tt, .int .i64 m0.g, .int .i64 m0.nd, .int .i64 m0.tr, .int .i64 m0.lw, .int .i64 m0.co, .int .i64 m0.ti, .slice tA ns.length tc, .slice Ao l.length co] 0 w9 (Touch.refl _ _))
          have HYES : Hid (decM bs = some { m0 with os := l }) := Lib.hid (by
            rw [HXS.out (by first | rfl | trivial)]
            unfold finM
            rw [if_pos ⟨HST2.out, HMB.out⟩])
          clear hz hzM
          go_wp2_with fail
          change bodyPost _ _ _ _ _ (World.setCells _ w.heap.size 0 [.int .i64 m0.kd, .int .i64 m0.fr, .int .i64 m0.tt, .int .i64 m0.g, .int .i64 m0.nd, .int .i64 m0.tr, .int .i64 m0.lw, .int .i64 m0.co, .int .i64 m0.ti, .slice tA ns.length tc, .slice Ao l.length co])
          simp only [List.length_nil, List.nil_append] at HZ5
          generalize World.setCells _ w.heap.size 0 [.int .i64 m0.kd, .int .i64 m0.fr, .int .i64 m0.tt, .int .i64 m0.g, .int .i64 m0.nd, .int .i64 m0.tr, .int .i64 m0.lw, .int .i64 m0.co, .int .i64 m0.ti, .slice tA ns.length tc, .slice Ao l.length co] = W5 at *
          clear c0 c1 c2 c3 c4 c5 c6 c7 c8 c9 c10 f0 f1 f2 f3 f4 f5 f6 f7 f8 f9 f10
          clear d0 d1 d2 d3 d4 d5 d6 d7 d8 d9 d10
          have j0 := cell_of HZ5.out 0
          have j1 := cell_of HZ5.out 1
          have j2 := cell_of HZ5.out 2
          have j3 := cell_of HZ5.out 3
          have j4 := cell_of HZ5.out 4
          have j5 := cell_of HZ5.out 5
          have j6 := cell_of HZ5.out 6
          have j7 := cell_of HZ5.out 7
          have j8 := cell_of HZ5.out 8
          have j9 := cell_of HZ5.out 9
          have j10 := cell_of HZ5.out 10
          simp at j0 j1 j2 j3 j4 j5 j6 j7 j8 j9 j10
          refine bodyPost_ret (v := .tuple #[.agg #[.int .i64 m0.kd, .int .i64 m0.fr, .int .i64 m0.tt, .int .i64 m0.g, .int .i64 m0.nd, .int .i64 m0.tr, .int .i64 m0.lw, .int .i64 m0.co, .int .i64 m0.ti, .slice tA ns.length tc, .slice Ao l.length co], .int .i64 0]) (by simp [results, Tryz.results20, go_sem, j0, j1, j2, j3, j4, j5, j6, j7, j8, j9, j10]) rfl ?_
          refine ⟨HB9.out.trans (HT5.out.below (fun i e => by rw [e]; exact Nat.le_refl _) HB9.out.size), .inr ⟨_, _, HYES.out, rfl, fun W' hT' => ?_⟩⟩
          have htl := HM1.out.2
          have htn : m0.tl.length = ns.length := by rw [htl, List.length_map]
          refine ⟨tA, tc, Ao, co, by simp only [htn], ?_, ?_, HKL.out⟩
          · show NumsAt W' (.slice tA m0.tl.length tc) m0.tl
            rw [htn, htl]
            exact RowN.nums (B := Bt) ⟨(HRW9.out.1.1.touch HT5.out (fun b e hb => by have := (HRW9.out.1.2.1 b e).1; have := HRW.out.2; omega)).touch hT' (fun b e hb => by have := (HRW9.out.1.2.1 b e).1; have := HRW.out.2; omega), HRW9.out.1.2⟩ rfl
          · exact RowIs.ops ((HRW9.out.2.1.touch HT5.out (fun b e hb => by have := (HRW9.out.2.2.1 b e).1; have := HG3.out; omega)).touch hT' (fun b e hb => by have := (HRW9.out.2.2.1 b e).1; have := HG3.out; omega)) rfl
      · have hx0 : (x == 0) = false := by simpa [hst] using hx
        have hx1 : ¬ x = 0 := by simpa using hx0
        have hx2 : (x != 0) = true := by simpa using hx1
        have HSN := Lib.hid hst
        clear hx hO8 hst HEN
        have hz := HZ8.out
        have hzw := HZ8.out
        have c0 := cell_of hzw 0
        have c1 := cell_of hzw 1
        have c2 := cell_of hzw 2
        have c3 := cell_of hzw 3
        have c4 := cell_of hzw 4
        have c5 := cell_of hzw 5
        have c6 := cell_of hzw 6
        have c7 := cell_of hzw 7
        have c8 := cell_of hzw 8
        have c9 := cell_of hzw 9
        have c10 := cell_of hzw 10
        have f0 := free0 hzw 0
        have f1 := free0 hzw 1
        have f2 := free0 hzw 2
        have f3 := free0 hzw 3
        have f4 := free0 hzw 4
        have f5 := free0 hzw 5
        have f6 := free0 hzw 6
        have f7 := free0 hzw 7
        have f8 := free0 hzw 8
        have f9 := free0 hzw 9
        have f10 := free0 hzw 10
        simp at c0 c1 c2 c3 c4 c5 c6 c7 c8 c9 c10
        have HZ5 := Lib.hid (setCells_at w.heap.size [.int .i64 0, .int .i64 0, .int .i64 0, .int .i64 0, .int .i64 0, .int .i64 0, .int .i64 0, .int .i64 0, .int .i64 0, .slice none 0 0, .slice none 0 0] [] [.int .i64 0, .int .i64 0, .int .i64 0, .int .i64 0, .int .i64 0, .int .i64 0, .int .i64 0, .int .i64 0, .int .i64 0, .slice none 0 0, .slice none 0 0] w8 rfl hz)
        have HT5 := Lib.hid (setCells_touch (S := fun k => k = w.heap.size) (a := w8) w.heap.size (fun _ => rfl) [.int .i64 0, .int .i64 0, .int .i64 0, .int .i64 0, .int .i64 0, .int .i64 0, .int .i64 0, .int .i64 0, .int .i64 0, .slice none 0 0, .slice none 0 0] 0 w8 (Touch.refl _ _))
        have HBE := Lib.hid (HB8.out)
        have HNO : Hid (decM bs = none) := Lib.hid (by rw [HXS.out (by first | rfl | trivial)]; unfold finM; rw [if_neg (fun h => HSN.out h.1)])
        clear hz hzw
        go_wp2_with fail
        change bodyPost _ _ _ _ _ (World.setCells _ w.heap.size 0 [.int .i64 0, .int .i64 0, .int .i64 0, .int .i64 0, .int .i64 0, .int .i64 0, .int .i64 0, .int .i64 0, .int .i64 0, .slice none 0 0, .slice none 0 0])
        simp only [List.length_nil, List.nil_append] at HZ5
        generalize World.setCells _ w.heap.size 0 [.int .i64 0, .int .i64 0, .int .i64 0, .int .i64 0, .int .i64 0, .int .i64 0, .int .i64 0, .int .i64 0, .int .i64 0, .slice none 0 0, .slice none 0 0] = W5 at *
        clear c0 c1 c2 c3 c4 c5 c6 c7 c8 c9 c10 f0 f1 f2 f3 f4 f5 f6 f7 f8 f9 f10
        have j0 := cell_of HZ5.out 0
        have j1 := cell_of HZ5.out 1
        have j2 := cell_of HZ5.out 2
        have j3 := cell_of HZ5.out 3
        have j4 := cell_of HZ5.out 4
        have j5 := cell_of HZ5.out 5
        have j6 := cell_of HZ5.out 6
        have j7 := cell_of HZ5.out 7
        have j8 := cell_of HZ5.out 8
        have j9 := cell_of HZ5.out 9
        have j10 := cell_of HZ5.out 10
        simp at j0 j1 j2 j3 j4 j5 j6 j7 j8 j9 j10
        refine bodyPost_ret (v := .tuple #[.agg #[.int .i64 0, .int .i64 0, .int .i64 0, .int .i64 0, .int .i64 0, .int .i64 0, .int .i64 0, .int .i64 0, .int .i64 0, .slice none 0 0, .slice none 0 0], .int .i64 6]) (by simp [results, Tryz.results20, go_sem, j0, j1, j2, j3, j4, j5, j6, j7, j8, j9, j10]) rfl ?_
        exact ⟨HBE.out.trans (HT5.out.below (fun i e => by rw [e]; exact Nat.le_refl _) HBE.out.size), .inl ⟨HNO.out, rfl⟩⟩
end Go.Proofs.YtfddlhcdlgdofaaGreatDoor

namespace Go.Proofs.YtfddlhcdlgdofaaGreatDoor
open Go.RowKit Go.Shelf
section
variable {w : World} {b : Nat} {most : Int} {v : Value} {L : List Pk} {mp : Nat} {C : List MapEntry} {c : Nat} {ro : Nat → Nat}
theorem busyCode {W : World} (hG : Glob W) (i : Int) : Calls Tryz.prog 48 #[.iface 190 (.pointer (some ⟨W.heap.size, 0, none⟩))] (W.alloc (.cells #[.iface 159 (.agg #[.int .i64 20]), .int .i64 i] 194)) fun e w' => e = .returned (.int .i64 20) ∧ Below (W.alloc (.cells #[.iface 159 (.agg #[.int .i64 20]), .int .i64 i] 194)).heap.size (W.alloc (.cells #[.iface 159 (.agg #[.int .i64 20]), .int .i64 i] 194)) w' :=
  code_any (c := [.plc i, .num 20]) (hG.below (below_new _)) ⟨by simp, _, _, rfl, alloc_at _ _, rfl, rfl⟩ (numOk_cons (by simp) (numOk_one (by decide))) (by simp) (Below.refl _ _)
theorem at_busy {W : World} (hG : Glob W) (i : Int) : Calls Tryz.prog 67 #[.int .i64 i, .iface 159 (.agg #[.int .i64 20])] W fun e w' => ∃ t u, e = .returned (.iface t u) ∧ (Calls Tryz.prog 48 #[.iface t u] w' fun e w2 => e = .returned (.int .i64 20) ∧ Below w'.heap.size w' w2) ∧ Below W.heap.size W w' := by
  refine (at_some i 159 (.agg #[.int .i64 20]) W).mono ?_
  rintro e w' ⟨rfl, rfl⟩
  exact ⟨_, _, rfl, busyCode hG i, below_new _⟩
set_option maxRecDepth 100000 in
set_option maxHeartbeats 1000000 in
theorem nDeliver_busy (hG : Glob w) (h : NetAt w b most v L mp C c ro) {i : Nat} {x : Pk} (hi : L[i]? = some x) (hw : 0 < x.waits) : Calls Tryz.prog 22 #[.pointer (some ⟨b, 0, none⟩), .int .i64 i] w fun e w' => e = .returned (.tuple #[zeroM, .int .i64 20]) ∧ Below w.heap.size w w' := by
  have HF := Lib.hid (fun W (hW : Below w.heap.size w W) => nfind_ok (h.below hW) hi)
  have HE := Lib.hid (fun W => new_num 20 (by decide) W)
  have HAS := Lib.hid (fun W (hW : Below w.heap.size w W) => at_busy (hG.below hW) (i : Int))
  have HG := Lib.hid hG
  have hb0 := below_new (w := w) (.cells zeroC 50)
  have HB0 := Lib.hid hb0
  have HAT : Hid (∀ W, Below (w.alloc (.cells zeroC 50)).heap.size (w.alloc (.cells zeroC 50)) W → W.heap[w.heap.size]? = some (.cells zeroC 50 (0, 0))) := Lib.hid (fun W hW => (hW.block _ (by rw [asz]; exact Nat.lt_succ_self _)).trans (alloc_at _ _))
  have hpk := (h.below hb0).pk x (List.mem_of_getElem? hi)
  unfold Pk.cells at hpk
  have hc := cell_of hpk 2
  unfold Pk.ptr at HF
  simp at hc
  have hq : decide (0 < x.waits) = true := decide_eq_true hw
  clear h hi hG hb0 hpk hw
  go_enter Tryz.func22, Tryz.ntmps22
  go_wp2_with fail
  refine (HF.out _ HB0.out).mono ?_
  rintro e w1 ⟨rfl, rfl⟩
  go_wp2_with fail
  refine (HE.out _).mono ?_
  rintro e w2 ⟨rfl, rfl⟩
  go_wp2_with fail
  refine (HAS.out _ HB0.out).mono ?_
  rintro e w3 ⟨t, u, rfl, hcd, hb3⟩
  have hb3' : Below w.heap.size w w3 := HB0.out.trans (hb3.mono HB0.out.size)
  have HC := Lib.hid hcd
  have HB3 := Lib.hid (And.intro hb3 hb3')
  clear hb3 hb3' hc hq hcd
  go_wp2_with fail
  refine (HC.out).mono ?_
  rintro e w4 ⟨rfl, hb4⟩
  have hat2 := HAT.out _ (HB3.out.1.trans (hb4.mono HB3.out.1.size))
  have HB4 := Lib.hid (HB3.out.2.trans (hb4.mono HB3.out.2.size))
  clear hb4
  have HZ5 := Lib.hid (setCells_at w.heap.size (zeroC).toList [] zeroC.toList w4 rfl hat2)
  have HT5 := Lib.hid (setCells_touch (S := fun k => k = w.heap.size) (a := w4) w.heap.size (fun _ => rfl) (zeroC).toList 0 w4 (Touch.refl _ _))
  have r0 := cell_of hat2 0
  have r1 := cell_of hat2 1
  have r2 := cell_of hat2 2
  have r3 := cell_of hat2 3
  have r4 := cell_of hat2 4
  have r5 := cell_of hat2 5
  have r6 := cell_of hat2 6
  have r7 := cell_of hat2 7
  have r8 := cell_of hat2 8
  have r9 := cell_of hat2 9
  have r10 := cell_of hat2 10
  simp at r0 r1 r2 r3 r4 r5 r6 r7 r8 r9 r10
  have f0 := free0 hat2 0
  have f1 := free0 hat2 1
  have f2 := free0 hat2 2
  have f3 := free0 hat2 3
  have f4 := free0 hat2 4
  have f5 := free0 hat2 5
  have f6 := free0 hat2 6
  have f7 := free0 hat2 7
  have f8 := free0 hat2 8
  have f9 := free0 hat2 9
  have f10 := free0 hat2 10
  clear hat2
  go_wp2_with fail
  change bodyPost _ _ _ _ _ (World.setCells _ w.heap.size 0 (zeroC).toList)
  simp only [List.length_nil, List.nil_append] at HZ5
  generalize World.setCells _ w.heap.size 0 (zeroC).toList = W5 at *
  clear r0 r1 r2 r3 r4 r5 r6 r7 r8 r9 r10 f0 f1 f2 f3 f4 f5 f6 f7 f8 f9 f10
  have j0 := cell_of HZ5.out 0
  have j1 := cell_of HZ5.out 1
  have j2 := cell_of HZ5.out 2
  have j3 := cell_of HZ5.out 3
  have j4 := cell_of HZ5.out 4
  have j5 := cell_of HZ5.out 5
  have j6 := cell_of HZ5.out 6
  have j7 := cell_of HZ5.out 7
  have j8 := cell_of HZ5.out 8
  have j9 := cell_of HZ5.out 9
  have j10 := cell_of HZ5.out 10
  simp at j0 j1 j2 j3 j4 j5 j6 j7 j8 j9 j10
  refine bodyPost_ret (v := .tuple #[zeroM, .int .i64 20]) (by simp [results, Tryz.results22, go_sem, j0, j1, j2, j3, j4, j5, j6, j7, j8, j9, j10]) rfl ?_
  exact ⟨rfl, HB4.out.trans (HT5.out.below (fun i e => by omega) HB4.out.size)⟩
/-- What a delivery leaves and answers. -/
def DelP (w : World) (b : Nat) (most : Int) (mp : Nat) (C : List MapEntry) (c : Nat) (ro : Nat → Nat) (P : List P3) (bs : List UInt8) (e : Ending) (w' : World) : Prop :=
  NetP w b most mp C c ro P w' ∧ ((decM bs = none ∧ e = .returned (.tuple #[zeroM, .int .i64 6])) ∨ ∃ m v, decM bs = some m ∧ e = .returned (.tuple #[v, .int .i64 0]) ∧ MsgIs w' v m)
set_option maxRecDepth 100000 in
set_option maxHeartbeats 4000000 in
theorem nDeliver_ok (hG : Glob w) (hMv : Mov w) (h0 : ro 1 = 0 ∧ ro 0 = 0) (h : NetAt w b most v L mp C c ro) {i : Nat} {x : Pk} (hi : L[i]? = some x) (hw : x.waits = 0) (hsr : -9223372036854775808 ≤ x.site ∧ x.site ≤ 9223372036854775807) (hno : ∀ e ∈ C, e.key ≠ .int .i64 x.site) :
    Calls Tryz.prog 22 #[.pointer (some ⟨b, 0, none⟩), .int .i64 i] w (DelP w b most mp C c ro ((L.map Pk.p).eraseIdx i) x.bs) := by
  have hx := List.mem_of_getElem? hi
  have HF := Lib.hid (fun W (hW : Below w.heap.size w W) => nfind_ok (h.below hW) hi)
  have HPA := Lib.hid (fun W (hW : Below w.heap.size w W) => nparted_no (h.below hW) hsr hno)
  have HTK := Lib.hid (fun W (hW : Below w.heap.size w W) => ntake_any (h.below hW) (List.getElem?_eq_some_iff.1 hi).1)
  have HG := Lib.hid (And.intro hG (And.intro hMv h0))
  have hb0 := below_new (w := w) (.cells zeroC 50)
  have HB0 := Lib.hid hb0
  have HH := Lib.hid (And.intro h (And.intro hx (h.rp x hx)))
  have HR0 : Hid (ro w.heap.size = 0) := Lib.hid (by
    by_cases e : ro w.heap.size = 0
    · exact e
    · have := h.lt _ e; omega)
  have HAT : Hid (∀ W, Below (w.alloc (.cells zeroC 50)).heap.size (w.alloc (.cells zeroC 50)) W → W.heap[w.heap.size]? = some (.cells zeroC 50 (0, 0))) := Lib.hid (fun W hW => (hW.block _ (by rw [asz]; exact Nat.lt_succ_self _)).trans (alloc_at _ _))
  have hpk := (h.below hb0).pk x hx
  unfold Pk.cells at hpk
  have hc1 := cell_of hpk 1
  have hc2 := cell_of hpk 2
  rw [hw] at hc2
  unfold Pk.ptr at HF
  simp at hc1 hc2
  clear h hi hG hMv h0 hb0 hpk hw hsr hno hx
  go_enter Tryz.func22, Tryz.ntmps22
  go_wp2_with fail
  refine (HF.out _ HB0.out).mono ?_
  rintro e w1 ⟨rfl, rfl⟩
  go_wp2_with fail
  refine (HPA.out _ HB0.out).mono ?_
  rintro e w2 ⟨rfl, hb2⟩
  have HB2 := Lib.hid (HB0.out.trans (hb2.mono HB0.out.size))
  have HA2 := Lib.hid hb2
  clear hb2 hc1 hc2
  go_wp2_with fail
  refine (HTK.out _ HB2.out).mono ?_
  rintro e w3 ⟨v3, rfl, hn3, ht3⟩
  have hst3 : Step w w3 ro ro := Step.ahead HB2.out (Step.same ht3 (fun k e => by omega))
  have hpk3 : w3.heap[x.pb]? = some (.cells x.cells 125 (0, 0)) := (ht3.block _ (heap_lt ((HH.out.1.below HB2.out).pk x HH.out.2.1)) (fun q => by have := HH.out.2.2; omega)).trans ((HH.out.1.below HB2.out).pk x HH.out.2.1)
  have hby3 : OwnBy w3 0 x.v x.bs := .inr ⟨x.g, x.cap, rfl, ((HH.out.1.below HB2.out).by_ x HH.out.2.1).keep ht3.size (ht3.block _ ((HH.out.1.below HB2.out).by_ x HH.out.2.1).lt (fun q => by have := HH.out.2.2; omega))⟩
  have HDE := Lib.hid (Decode_own (HG.out.1.step HG.out.2.2.1 hst3) (HG.out.2.1.step HG.out.2.2.2 hst3) hby3.bis)
  have hat3 : w3.heap[w.heap.size]? = some (.cells zeroC 50 (0, 0)) := (ht3.block _ (heap_lt (HAT.out _ HA2.out)) (fun q => by have := HR0.out; omega)).trans (HAT.out _ HA2.out)
  have HN3 := Lib.hid (And.intro hn3 (And.intro hst3 hat3))
  unfold Pk.cells at hpk3
  have hc := cell_of hpk3 0
  unfold Pk.v at hc HDE
  simp at hc
  clear hn3 ht3 hst3 hpk3 hby3 hat3
  go_wp2_with fail
  refine (HDE.out).mono ?_
  rintro e w4 ⟨hb4, hcs⟩
  have hat2 := (hb4.block _ (heap_lt HN3.out.2.2)).trans HN3.out.2.2
  have HN4 := Lib.hid (And.intro (HN3.out.1.below hb4) (HN3.out.2.1.after hb4))
  have HS3 := Lib.hid (heap_lt HN3.out.2.2)
  have HFIN : Hid (∀ W5, Touch (fun k => k = w.heap.size) w4 W5 → NetP w b most mp C c ro ((L.map Pk.p).eraseIdx i) W5) := Lib.hid (fun W5 hT => ⟨v3, ro, _, HN4.out.1.keep hT (fun k e => by rw [e]; exact HR0.out), ⟨HN4.out.2.1.trans hT (fun k hk e => by omega), fun _ _ => rfl⟩, map_erase L i⟩)
  clear hb4
  rcases hcs with ⟨hd, rfl⟩ | ⟨m, v5, hd, rfl, hm⟩
  · have HD := Lib.hid hd
    clear hd
    have HZ5 := Lib.hid (setCells_at w.heap.size (zeroC).toList [] zeroC.toList w4 rfl hat2)
    have HT5 := Lib.hid (setCells_touch (S := fun k => k = w.heap.size) (a := w4) w.heap.size (fun _ => rfl) (zeroC).toList 0 w4 (Touch.refl _ _))
    have r0 := cell_of hat2 0
    have r1 := cell_of hat2 1
    have r2 := cell_of hat2 2
    have r3 := cell_of hat2 3
    have r4 := cell_of hat2 4
    have r5 := cell_of hat2 5
    have r6 := cell_of hat2 6
    have r7 := cell_of hat2 7
    have r8 := cell_of hat2 8
    have r9 := cell_of hat2 9
    have r10 := cell_of hat2 10
    simp at r0 r1 r2 r3 r4 r5 r6 r7 r8 r9 r10
    have f0 := free0 hat2 0
    have f1 := free0 hat2 1
    have f2 := free0 hat2 2
    have f3 := free0 hat2 3
    have f4 := free0 hat2 4
    have f5 := free0 hat2 5
    have f6 := free0 hat2 6
    have f7 := free0 hat2 7
    have f8 := free0 hat2 8
    have f9 := free0 hat2 9
    have f10 := free0 hat2 10
    clear hat2
    go_wp2_with fail
    change bodyPost _ _ _ _ _ (World.setCells _ w.heap.size 0 (zeroC).toList)
    simp only [List.length_nil, List.nil_append] at HZ5
    generalize World.setCells _ w.heap.size 0 (zeroC).toList = W5 at *
    clear r0 r1 r2 r3 r4 r5 r6 r7 r8 r9 r10 f0 f1 f2 f3 f4 f5 f6 f7 f8 f9 f10
    have j0 := cell_of HZ5.out 0
    have j1 := cell_of HZ5.out 1
    have j2 := cell_of HZ5.out 2
    have j3 := cell_of HZ5.out 3
    have j4 := cell_of HZ5.out 4
    have j5 := cell_of HZ5.out 5
    have j6 := cell_of HZ5.out 6
    have j7 := cell_of HZ5.out 7
    have j8 := cell_of HZ5.out 8
    have j9 := cell_of HZ5.out 9
    have j10 := cell_of HZ5.out 10
    simp at j0 j1 j2 j3 j4 j5 j6 j7 j8 j9 j10
    refine bodyPost_ret (v := .tuple #[zeroM, .int .i64 6]) (by simp [results, Tryz.results22, go_sem, j0, j1, j2, j3, j4, j5, j6, j7, j8, j9, j10]) rfl ?_
    exact ⟨HFIN.out _ HT5.out, .inl ⟨HD.out, rfl⟩⟩
  · obtain ⟨tA, tc, oA, oc, rfl, _⟩ := hm w4 (Touch.refl _ _)
    have HD := Lib.hid (And.intro hd hm)
    clear hd hm
    have HZ5 := Lib.hid (setCells_at w.heap.size (cellM m tA tc oA oc).toList [] zeroC.toList w4 rfl hat2)
    have HT5 := Lib.hid (setCells_touch (S := fun k => k = w.heap.size) (a := w4) w.heap.size (fun _ => rfl) (cellM m tA tc oA oc).toList 0 w4 (Touch.refl _ _))
    have r0 := cell_of hat2 0
    have r1 := cell_of hat2 1
    have r2 := cell_of hat2 2
    have r3 := cell_of hat2 3
    have r4 := cell_of hat2 4
    have r5 := cell_of hat2 5
    have r6 := cell_of hat2 6
    have r7 := cell_of hat2 7
    have r8 := cell_of hat2 8
    have r9 := cell_of hat2 9
    have r10 := cell_of hat2 10
    simp at r0 r1 r2 r3 r4 r5 r6 r7 r8 r9 r10
    have f0 := free0 hat2 0
    have f1 := free0 hat2 1
    have f2 := free0 hat2 2
    have f3 := free0 hat2 3
    have f4 := free0 hat2 4
    have f5 := free0 hat2 5
    have f6 := free0 hat2 6
    have f7 := free0 hat2 7
    have f8 := free0 hat2 8
    have f9 := free0 hat2 9
    have f10 := free0 hat2 10
    clear hat2
    go_wp2_with fail
    change bodyPost _ _ _ _ _ (World.setCells _ w.heap.size 0 (cellM m tA tc oA oc).toList)
    simp only [List.length_nil, List.nil_append] at HZ5
    generalize World.setCells _ w.heap.size 0 (cellM m tA tc oA oc).toList = W5 at *
    clear r0 r1 r2 r3 r4 r5 r6 r7 r8 r9 r10 f0 f1 f2 f3 f4 f5 f6 f7 f8 f9 f10
    have j0 := cell_of HZ5.out 0
    have j1 := cell_of HZ5.out 1
    have j2 := cell_of HZ5.out 2
    have j3 := cell_of HZ5.out 3
    have j4 := cell_of HZ5.out 4
    have j5 := cell_of HZ5.out 5
    have j6 := cell_of HZ5.out 6
    have j7 := cell_of HZ5.out 7
    have j8 := cell_of HZ5.out 8
    have j9 := cell_of HZ5.out 9
    have j10 := cell_of HZ5.out 10
    simp at j0 j1 j2 j3 j4 j5 j6 j7 j8 j9 j10
    refine bodyPost_ret (v := .tuple #[.agg (cellM m tA tc oA oc), .int .i64 0]) (by simp [results, Tryz.results22, go_sem, j0, j1, j2, j3, j4, j5, j6, j7, j8, j9, j10]) rfl ?_
    exact ⟨HFIN.out _ HT5.out, .inr ⟨m, _, HD.out.1, rfl, HD.out.2 _ (HT5.out.mono (fun k _ e => by have := HS3.out; omega))⟩⟩
end
end Go.Proofs.YtfddlhcdlgdofaaGreatDoor

namespace Go.Proofs.YtfddlhcdlgdofaaGreatDoor
open Go.RowKit Go.Shelf
theorem nstep_app_run {P : Program} {ops : Array Oper} {o : Oper} {a : Act} {w wa : World} {K : Act → World → Prop} {Q : Exit → Act → World → Prop} {E : Prop} {T tx : TypeId} {u v v' : Value}
    (hrun : (Builtin.append_ #[T, tx] o.type #[u, v]).run P w = .ok v' wa) (hgd : o.guard = none) (s x : Operand) (ho : o.op = .call { callee := .builtin .append, args := #[s, x], argTypes := #[T, tx] })
    (hs : a.eval s = u) (hx : a.eval x = v) (h : K (a.put o.dst v') wa) : if Region.wanted o (yielded ops a.tmps) = true then Oper.wp P o a w K Q else E := by
  have hw : Region.wanted o (yielded ops a.tmps) = true := by simp [Region.wanted, hgd]
  rw [if_pos hw]
  unfold Oper.wp execOp
  simp only [ho, resolve, invoke, builtin, Sem.run_bind, Sem.run_pure, Result.andThen_ok, List.map_toArray, List.map_cons, List.map_nil, hs, hx, hrun]
  exact h
section
variable {w : World} {b : Nat} {most : Int} {v : Value} {L : List Pk} {mp : Nat} {C : List MapEntry} {c : Nat} {ro : Nat → Nat}
/-- A new packet, with bytes of its own, behind the others. -/
theorem napp_new (h : NetAt w b most v L mp C c ro) {w3 : World} (hb3 : Below w.heap.size w w3) {g1 cp1 : Nat} {bs : List UInt8} {site : Int} (hc : OwnC w3 w.heap.size g1 cp1 bs) (hen : bs ≠ [] ∧ bs.length ≤ 20000) (hL : L.length + 1 ≤ 1024) :
    ∃ A6 n6 c6 w6, (Builtin.append_ #[98, 98] 98 #[v, .slice (some ⟨w3.heap.size + 1, 0, none⟩) 1 1]).run Tryz.prog ((w3.alloc (.cells #[.slice (some ⟨g1, 0, none⟩) bs.length cp1, .int .i64 site, .int .i64 0] 125)).alloc (.cells #[.pointer (some ⟨w3.heap.size, 0, none⟩)] 120)) = .ok (.slice A6 n6 c6) w6 ∧ w6.cell? ⟨b, 1, none⟩ = some v ∧ w6.frozen? ⟨b, 1, none⟩ = false ∧ NetP w b most mp C c ro (L.map Pk.p ++ [(bs, site, 0)]) (w6.setCell ⟨b, 1, none⟩ (.slice A6 n6 c6)) ∧ Touch (fun k => ro k = 3) w w6 := by
  obtain ⟨x, hx⟩ : ∃ x : Pk, x = ⟨bs, site, 0, w3.heap.size, g1, cp1⟩ := ⟨_, rfl⟩
  have hb4 := below_new (w := w3) (.cells #[.slice (some ⟨g1, 0, none⟩) bs.length cp1, .int .i64 site, .int .i64 0] 125)
  have hat4 := alloc_at w3 (.cells #[.slice (some ⟨g1, 0, none⟩) bs.length cp1, .int .i64 site, .int .i64 0] 125)
  have hb5 := below_new (w := w3.alloc (.cells #[.slice (some ⟨g1, 0, none⟩) bs.length cp1, .int .i64 site, .int .i64 0] 125)) (.cells #[.pointer (some ⟨w3.heap.size, 0, none⟩)] 120)
  have hat5 := alloc_at (w3.alloc (.cells #[.slice (some ⟨g1, 0, none⟩) bs.length cp1, .int .i64 site, .int .i64 0] 125)) (.cells #[.pointer (some ⟨w3.heap.size, 0, none⟩)] 120)
  rw [asz] at hat5
  have hb35 := hb4.trans (hb5.mono hb4.size)
  have hb45 := hb3.trans (hb35.mono hb3.size)
  have hg1 : w.heap.size ≤ g1 ∧ g1 < w3.heap.size := ⟨hc.new, hc.lt⟩
  have hro0 : ∀ k, w.heap.size ≤ k → ro k = 0 := fun k hk => by
    by_cases h0 : ro k = 0
    · exact h0
    · have := h.lt k h0; omega
  have hbes := (h.below hb45).beside (x := x) (by
    rw [hx]
    exact (hb5.block _ (heap_lt hat4)).trans hat4) (by
    rw [hx]
    exact (hc.lower').keep hb35.size (hb35.block _ hg1.2)) (by rw [hx]; exact hen) (by
    rw [hx]
    exact ⟨hro0 _ hb3.size, hro0 _ hg1.1⟩) (by rw [hx]; show w3.heap.size ≠ g1; omega)
  obtain ⟨v', w6, ro', hr6, hc6, hf6, hn6, hst6, ⟨A6, n6, c6, rfl⟩, ht6⟩ := napp hbes.1 hbes.2 hL (q := w3.heap.size + 1) (by rw [hx]; exact hat5)
  have hrp : ∀ k, k < w.heap.size → roPk ro x.pb x.g k = ro k := fun k hk => by
    unfold roPk
    rw [hx, if_neg (by show ¬ k = w3.heap.size; have := hb3.size; omega), if_neg (by show ¬ k = g1; omega)]
  exact ⟨A6, n6, c6, w6, hr6, hc6, hf6, ⟨_, ro', L ++ [x], hn6, ⟨((Touch.of_below hb45 : Touch (fun k => ro k ≠ 0) _ _)).trans hst6.1 (fun k hk e => by rw [← hrp k hk]; exact e), fun k hk => by rw [hst6.2 k (Nat.lt_of_lt_of_le hk hb45.size)]; exact hrp k hk⟩, by rw [List.map_append, hx]; rfl⟩, ((Touch.of_below hb45 : Touch (fun k => ro k = 3) _ _)).trans ht6 (fun k hk e => by rw [← hrp k hk]; exact e)⟩
set_option maxRecDepth 100000 in
set_option maxHeartbeats 2000000 in
theorem nTwice_ok (hG : Glob w) (h0 : ro 1 = 0) (h : NetAt w b most v L mp C c ro) (hmost : most ≤ 1024) {i : Nat} {x : Pk} (hi : L[i]? = some x) (hl : (L.length : Int) < most) : Calls Tryz.prog 26 #[.pointer (some ⟨b, 0, none⟩), .int .i64 i] w fun e w' => e = .returned (.int .i64 0) ∧ NetP w b most mp C c ro (L.map Pk.p ++ [(x.bs, x.site, 0)]) w' := by
  have hx := List.mem_of_getElem? hi
  have HF := Lib.hid (nfind_ok h hi)
  have HFU := Lib.hid (nfull_any h)
  rw [decide_eq_false (by omega)] at HFU
  have HCL : Hid (∀ W, Below w.heap.size w W → Calls Tryz.prog 65 #[x.v] W fun e w' => ∃ g3 c3, e = .returned (.slice (some ⟨g3, 0, none⟩) x.bs.length c3) ∧ OwnC w' W.heap.size g3 c3 x.bs ∧ Below W.heap.size W w') := Lib.hid (fun W hW => by
    refine (clone_any ((h.below hW).by hx).bis (by have := (h.few.2 x hx).2; omega)).mono ?_
    rintro e w' ⟨v', rfl, ho, hb⟩
    rcases ho with ⟨_, e⟩ | ⟨g3, c3, rfl, hc⟩
    · exact ((h.few.2 x hx).1 e).elim
    · exact ⟨g3, c3, rfl, hc, hb⟩)
  have HAP := Lib.hid (fun (w3 : World) hb3 g1 cp1 hc => napp_new (w3 := w3) (g1 := g1) (cp1 := cp1) (site := x.site) h hb3 hc (h.few.2 x hx) (by omega))
  have HCB : Hid (∀ W, Below w.heap.size w W → W.cell? ⟨b, 1, none⟩ = some v) := Lib.hid (fun W hW => (h.below hW).cell1)
  have HCE : Hid (∀ W, Touch (fun k => ro k = 1 ∨ ro k = 3) w W → W.cell? ⟨x.pb, 0, none⟩ = some x.v ∧ W.cell? ⟨x.pb, 1, none⟩ = some (.int .i64 x.site)) := Lib.hid (fun W hW => by
    have e := (hW.block x.pb (heap_lt (h.pk x hx)) (fun q => by have := (h.rp x hx).1; omega)).trans (h.pk x hx)
    exact ⟨cell_of e 0, cell_of e 1⟩)
  have HRB := Lib.hid h.rb
  have HCD : Hid (∀ W, NetP w b most mp C c ro (L.map Pk.p ++ [(x.bs, x.site, 0)]) W → Calls Tryz.prog 48 #[.nilIface] W fun e w' => e = .returned (.int .i64 0) ∧ Below W.heap.size W w') := Lib.hid (fun W hp => by
    obtain ⟨v', ro', L', h1, h2, _⟩ := hp
    exact codeNil (hG.step h0 h2))
  have HNE := Lib.hid (h.few.2 x hx)
  obtain ⟨A, cp, rfl, _⟩ := h.row.form
  unfold Pk.ptr at HF
  unfold Pk.v at HCL HCE
  obtain ⟨n, hn⟩ : ∃ n, x.bs.length = n := ⟨_, rfl⟩
  rw [hn] at HCL HCE HAP
  clear h hi hG h0 hmost hx hl hn
  go_enter Tryz.func26, Tryz.ntmps26
  go_wp2_with fail
  refine (HF.out).mono ?_
  rintro e w1 ⟨rfl, rfl⟩
  go_wp2_with fail
  refine (HFU.out).mono ?_
  rintro e w2 ⟨rfl, hb2⟩
  have HB2 := Lib.hid hb2
  clear hb2
  go_wp2_with fail
  refine wp_only ?_
  refine wp_region_held_drew (S := fun W => W.cell? ⟨x.pb, 0, none⟩ = some (.slice (some ⟨x.g, 0, none⟩) n x.cap) ∧ W.cell? ⟨x.pb, 1, none⟩ = some (.int .i64 x.site)) (by kernel_rfl) (HCE.out _ (.of_below (below_drew HB2.out))) (fun hHeld => ?_)
  refine wpAnyH_take (i := 0) (oi := { dst := some 32, op := Op.move (Operand.tmp 0), type := 23, pos := "packet.go:43", after := #[], guard := none }) (v := ?vv1) rfl (by kernel_rfl) (by kernel_rfl) (by kernel_rfl) (fun _ _ _ h => h) ?hy1 (by assumption) ?rest1
  case hy1 => (refine Or.inl ⟨by rfl, ?_⟩; intro W hSw; (try dsimp only at hSw); go_simp; (try with_reducible rfl))
  try simp only [Act.put, List.setIfInBounds_toArray, List.set_cons_zero, List.set_cons_succ]
  refine wpAnyH_take (i := 1) (oi := { dst := some 33, op := Op.move (Operand.tmp 0), type := 23, pos := "packet.go:43", after := #[], guard := none }) (v := ?vv2) rfl (by kernel_rfl) (by kernel_rfl) (by kernel_rfl) (fun _ _ _ h => h) ?hy2 (by assumption) ?rest2
  case hy2 => (refine Or.inl ⟨by rfl, ?_⟩; intro W hSw; (try dsimp only at hSw); go_simp; (try with_reducible rfl))
  try simp only [Act.put, List.setIfInBounds_toArray, List.set_cons_zero, List.set_cons_succ]
  refine wpAnyH_take (i := 2) (oi := { dst := some 34, op := Op.nilCheck (Operand.tmp 33), type := 0, pos := "packet.go:43", after := #[{ on := 1, ground := Ground.data }], guard := none }) (v := ?vv3) rfl (by kernel_rfl) (by kernel_rfl) (by kernel_rfl) (fun _ _ _ h => h) ?hy3 (by assumption) ?rest3
  case hy3 => (refine Or.inl ⟨by rfl, ?_⟩; intro W hSw; (try dsimp only at hSw); go_simp; (try with_reducible rfl))
  try simp only [Act.put, List.setIfInBounds_toArray, List.set_cons_zero, List.set_cons_succ]
  refine wpAnyH_take (i := 3) (oi := { dst := some 35, op := Op.fieldAddr 100 (Operand.tmp 34) 1, type := 0, pos := "packet.go:43", after := #[{ on := 2, ground := Ground.data }], guard := none }) (v := ?vv4) rfl (by kernel_rfl) (by kernel_rfl) (by kernel_rfl) (fun _ _ _ h => h) ?hy4 (by assumption) ?rest4
  case hy4 => (refine Or.inl ⟨by rfl, ?_⟩; intro W hSw; (try dsimp only at hSw); go_simp; (try with_reducible rfl))
  try simp only [Act.put, List.setIfInBounds_toArray, List.set_cons_zero, List.set_cons_succ]
  refine wpAnyH_take (i := 5) (oi := { dst := some 37, op := Op.move (Operand.tmp 5), type := 120, pos := "packet.go:43", after := #[], guard := none }) (v := ?vv5) rfl (by kernel_rfl) (by kernel_rfl) (by kernel_rfl) (fun _ _ _ h => h) ?hy5 (by assumption) ?rest5
  case hy5 => (refine Or.inl ⟨by rfl, ?_⟩; intro W hSw; (try dsimp only at hSw); go_simp; (try with_reducible rfl))
  try simp only [Act.put, List.setIfInBounds_toArray, List.set_cons_zero, List.set_cons_succ]
  refine wpAnyH_take (i := 6) (oi := { dst := some 38, op := Op.nilCheck (Operand.tmp 37), type := 0, pos := "packet.go:43", after := #[{ on := 5, ground := Ground.data }], guard := none }) (v := ?vv6) rfl (by kernel_rfl) (by kernel_rfl) (by kernel_rfl) (fun _ _ _ h => h) ?hy6 (by assumption) ?rest6
  case hy6 => (refine Or.inl ⟨by rfl, ?_⟩; intro W hSw; (try dsimp only at hSw); go_simp; (try with_reducible rfl))
  try simp only [Act.put, List.setIfInBounds_toArray, List.set_cons_zero, List.set_cons_succ]
  refine wpAnyH_take (i := 7) (oi := { dst := some 39, op := Op.fieldAddr 125 (Operand.tmp 38) 0, type := 0, pos := "packet.go:43", after := #[{ on := 6, ground := Ground.data }], guard := none }) (v := ?vv7) rfl (by kernel_rfl) (by kernel_rfl) (by kernel_rfl) (fun _ _ _ h => h) ?hy7 (by assumption) ?rest7
  case hy7 => (refine Or.inl ⟨by rfl, ?_⟩; intro W hSw; (try dsimp only at hSw); go_simp; (try with_reducible rfl))
  try simp only [Act.put, List.setIfInBounds_toArray, List.set_cons_zero, List.set_cons_succ]
  refine wpAnyH_take (i := 8) (oi := { dst := some 40, op := Op.load 54 (Operand.tmp 39), type := 54, pos := "packet.go:43", after := #[{ on := 7, ground := Ground.data }], guard := none }) (v := ?vv8) rfl (by kernel_rfl) (by kernel_rfl) (by kernel_rfl) (fun _ _ _ h => h) ?hy8 (by assumption) ?rest8
  case hy8 => (refine Or.inl ⟨by rfl, ?_⟩; intro W hSw; (try dsimp only at hSw); go_simp; (try with_reducible rfl))
  try simp only [Act.put, List.setIfInBounds_toArray, List.set_cons_zero, List.set_cons_succ]
  refine wpAnyH_take (i := 10) (oi := { dst := some 42, op := Op.move (Operand.tmp 5), type := 120, pos := "packet.go:43", after := #[], guard := none }) (v := ?vv9) rfl (by kernel_rfl) (by kernel_rfl) (by kernel_rfl) (fun _ _ _ h => h) ?hy9 (by assumption) ?rest9
  case hy9 => (refine Or.inl ⟨by rfl, ?_⟩; intro W hSw; (try dsimp only at hSw); go_simp; (try with_reducible rfl))
  try simp only [Act.put, List.setIfInBounds_toArray, List.set_cons_zero, List.set_cons_succ]
  refine wpAnyH_take (i := 11) (oi := { dst := some 43, op := Op.nilCheck (Operand.tmp 42), type := 0, pos := "packet.go:43", after := #[{ on := 10, ground := Ground.data }], guard := none }) (v := ?vv10) rfl (by kernel_rfl) (by kernel_rfl) (by kernel_rfl) (fun _ _ _ h => h) ?hy10 (by assumption) ?rest10
  case hy10 => (refine Or.inl ⟨by rfl, ?_⟩; intro W hSw; (try dsimp only at hSw); go_simp; (try with_reducible rfl))
  try simp only [Act.put, List.setIfInBounds_toArray, List.set_cons_zero, List.set_cons_succ]
  refine wpAnyH_take (i := 12) (oi := { dst := some 44, op := Op.fieldAddr 125 (Operand.tmp 43) 1, type := 0, pos := "packet.go:43", after := #[{ on := 11, ground := Ground.data }], guard := none }) (v := ?vv11) rfl (by kernel_rfl) (by kernel_rfl) (by kernel_rfl) (fun _ _ _ h => h) ?hy11 (by assumption) ?rest11
  case hy11 => (refine Or.inl ⟨by rfl, ?_⟩; intro W hSw; (try dsimp only at hSw); go_simp; (try with_reducible rfl))
  try simp only [Act.put, List.setIfInBounds_toArray, List.set_cons_zero, List.set_cons_succ]
  refine wpAnyH_take (i := 13) (oi := { dst := some 45, op := Op.load 3 (Operand.tmp 44), type := 3, pos := "packet.go:43", after := #[{ on := 12, ground := Ground.data }], guard := none }) (v := ?vv12) rfl (by kernel_rfl) (by kernel_rfl) (by kernel_rfl) (fun _ _ _ h => h) ?hy12 (by assumption) ?rest12
  case hy12 => (refine Or.inl ⟨by rfl, ?_⟩; intro W hSw; (try dsimp only at hSw); go_simp; (try with_reducible rfl))
  try simp only [Act.put, List.setIfInBounds_toArray, List.set_cons_zero, List.set_cons_succ]
  have k0 := HCB.out _ (below_drew HB2.out)
  refine wpAnyH_ready (rs := [4, 9]) (by kernel_rfl) (by simp) ?_
  refine AllReadyH.cons (o := { dst := some 36, op := Op.load 98 (Operand.tmp 35), type := 98, pos := "packet.go:43", after := #[{ on := 3, ground := Ground.data }], guard := none }) rfl (fun K hK => ?step13) ?more13
  ((go_simp; go_wp2_with fail))
  refine hK.out _ _ ?hS13 (fun hHeld => ?rr13)
  case hS13 => (exact HCE.out _ (.of_below (below_drew HB2.out)))
  clear hK K
  try simp only [Act.put, List.setIfInBounds_toArray, List.set_cons_zero, List.set_cons_succ]
  · clear k0
    refine wpAnyH_ready (rs := [9]) (by kernel_rfl) (by simp) ?_
    refine AllReadyH.cons (o := { dst := some 41, op := Op.call { callee := Callee.value (Operand.func 65), args := #[Operand.tmp 40], argTypes := #[54] }, type := 54, pos := "packet.go:43", after := #[{ on := 8, ground := Ground.data }], guard := none }) rfl (fun K hK => ?step14) ?more14
    case more14 => exact AllReadyH.nil
    ((go_simp; go_at_call 65; refine (HCL.out _ (below_drew HB2.out)).mono ?_; rintro e w3 ⟨g3, c3, rfl, hc3, hb3⟩; go_wp2_with fail))
    refine hK.out _ _ ?hS14 (fun hHeld => ?rr14)
    case hS14 => (exact HCE.out _ (.of_below ((below_drew HB2.out).trans (hb3.mono (below_drew HB2.out).size))))
    clear hK K
    try simp only [Act.put, List.setIfInBounds_toArray, List.set_cons_zero, List.set_cons_succ]
    have hB3 : Below w1.heap.size w1 w3 := (below_drew HB2.out).trans (hb3.mono (below_drew HB2.out).size)
    obtain ⟨A6, n6, c6, w6, hr6, hc6, hf6, hnp, ht6⟩ := HAP.out w3 hB3 g3 c3 ⟨Nat.le_trans (below_drew HB2.out).size hc3.new, hc3.lt, hc3.le, hc3.max, hc3.holds, hc3.there⟩
    have HNP := Lib.hid hnp
    have HT6 := Lib.hid ht6
    have hb4 := below_new (w := w3) (.cells #[.slice (some ⟨g3, 0, none⟩) n c3, .int .i64 x.site, .int .i64 0] 125)
    have hb5 := below_new (w := w3.alloc (.cells #[.slice (some ⟨g3, 0, none⟩) n c3, .int .i64 x.site, .int .i64 0] 125)) (.cells #[.pointer (some ⟨w3.heap.size, 0, none⟩)] 120)
    have HB3 := Lib.hid hB3
    have HW5 := Lib.hid (And.intro (hB3.trans (hb4.mono hB3.size)) (hB3.trans ((hb4.trans (hb5.mono hb4.size)).mono hB3.size)))
    clear hb4 hb5 hnp ht6 hb3 hc3 hB3
    refine wpAnyH_take (i := 14) (oi := { dst := some 46, op := Op.build 125 #[(0, Operand.tmp 41), (1, Operand.tmp 45)], type := 125, pos := "packet.go:43", after := #[{ on := 9, ground := Ground.data }, { on := 13, ground := Ground.data }], guard := none }) (v := ?vv15) rfl (by kernel_rfl) (by kernel_rfl) (by kernel_rfl) (fun _ _ _ h => h) ?hy15 (by assumption) ?rest15
    case hy15 => (refine Or.inl ⟨by rfl, ?_⟩; intro W hSw; (try dsimp only at hSw); go_simp; (try with_reducible rfl))
    try simp only [Act.put, List.setIfInBounds_toArray, List.set_cons_zero, List.set_cons_succ]
    refine wpAnyH_ready (rs := [15]) (by kernel_rfl) (by simp) ?_
    refine AllReadyH.cons (o := { dst := some 47, op := Op.box 125 (Operand.tmp 46), type := 120, pos := "packet.go:43", after := #[{ on := 14, ground := Ground.data }], guard := none }) rfl (fun K hK => ?step16) ?more16
    case more16 => exact AllReadyH.nil
    ((go_simp; go_wp2_with fail))
    refine hK.out _ _ ?hS16 (fun hHeld => ?rr16)
    case hS16 => (exact HCE.out _ (.of_below HW5.out.1))
    clear hK K
    try simp only [Act.put, List.setIfInBounds_toArray, List.set_cons_zero, List.set_cons_succ]
    refine wpAnyH_ready (rs := [16]) (by kernel_rfl) (by simp) ?_
    refine AllReadyH.cons (o := { dst := some 48, op := Op.buildSlice 98 1 #[(0, Operand.tmp 47)], type := 98, pos := "packet.go:43", after := #[{ on := 15, ground := Ground.data }], guard := none }) rfl (fun K hK => ?step17) ?more17
    case more17 => exact AllReadyH.nil
    ((go_simp; go_wp2_with fail))
    refine hK.out _ _ ?hS17 (fun hHeld => ?rr17)
    case hS17 => (exact HCE.out _ (.of_below HW5.out.2))
    clear hK K
    try simp only [Act.put, List.setIfInBounds_toArray, List.set_cons_zero, List.set_cons_succ]
    refine wpAnyH_ready (rs := [17]) (by kernel_rfl) (by simp) ?_
    refine AllReadyH.cons (o := { dst := some 49, op := Op.call { callee := Callee.builtin Builtin.append, args := #[Operand.tmp 36, Operand.tmp 48], argTypes := #[98, 98] }, type := 98, pos := "packet.go:43", after := #[{ on := 4, ground := Ground.data }, { on := 16, ground := Ground.data }, { on := 9, ground := Ground.chain }], guard := none }) rfl (fun K hK => ?step18) ?more18
    case more18 => exact AllReadyH.nil
    (refine nstep_app_run hr6 rfl (.tmp 36) (.tmp 48) rfl rfl rfl ?_)
    refine hK.out _ _ ?hS18 (fun hHeld => ?rr18)
    case hS18 => (exact HCE.out _ (HT6.out.mono (fun k _ e => .inr e)))
    clear hK K
    try simp only [Act.put, List.setIfInBounds_toArray, List.set_cons_zero, List.set_cons_succ]
    refine wpAnyH_take (i := 18) (oi := { dst := some 50, op := Op.nilCheck (Operand.tmp 32), type := 0, pos := "packet.go:43", after := #[{ on := 0, ground := Ground.data }, { on := 0, ground := Ground.phase }, { on := 1, ground := Ground.phase }, { on := 2, ground := Ground.phase }, { on := 3, ground := Ground.phase }, { on := 4, ground := Ground.phase }, { on := 5, ground := Ground.phase }, { on := 6, ground := Ground.phase }, { on := 7, ground := Ground.phase }, { on := 8, ground := Ground.phase }, { on := 9, ground := Ground.phase }, { on := 10, ground := Ground.phase }, { on := 11, ground := Ground.phase }, { on := 12, ground := Ground.phase }, { on := 13, ground := Ground.phase }, { on := 14, ground := Ground.phase }, { on := 15, ground := Ground.phase }, { on := 16, ground := Ground.phase }, { on := 17, ground := Ground.phase }], guard := none }) (v := ?vv19) rfl (by kernel_rfl) (by kernel_rfl) (by kernel_rfl) (fun _ _ _ h => h) ?hy19 (by assumption) ?rest19
    case hy19 => (refine Or.inl ⟨by rfl, ?_⟩; intro W hSw; (try dsimp only at hSw); go_simp; (try with_reducible rfl))
    try simp only [Act.put, List.setIfInBounds_toArray, List.set_cons_zero, List.set_cons_succ]
    refine wpAnyH_take (i := 19) (oi := { dst := some 51, op := Op.fieldAddr 100 (Operand.tmp 50) 1, type := 0, pos := "packet.go:43", after := #[{ on := 18, ground := Ground.data }, { on := 0, ground := Ground.phase }, { on := 1, ground := Ground.phase }, { on := 2, ground := Ground.phase }, { on := 3, ground := Ground.phase }, { on := 4, ground := Ground.phase }, { on := 5, ground := Ground.phase }, { on := 6, ground := Ground.phase }, { on := 7, ground := Ground.phase }, { on := 8, ground := Ground.phase }, { on := 9, ground := Ground.phase }, { on := 10, ground := Ground.phase }, { on := 11, ground := Ground.phase }, { on := 12, ground := Ground.phase }, { on := 13, ground := Ground.phase }, { on := 14, ground := Ground.phase }, { on := 15, ground := Ground.phase }, { on := 16, ground := Ground.phase }, { on := 17, ground := Ground.phase }], guard := none }) (v := ?vv20) rfl (by kernel_rfl) (by kernel_rfl) (by kernel_rfl) (fun _ _ _ h => h) ?hy20 (by assumption) ?rest20
    case hy20 => (refine Or.inl ⟨by rfl, ?_⟩; intro W hSw; (try dsimp only at hSw); go_simp; (try with_reducible rfl))
    try simp only [Act.put, List.setIfInBounds_toArray, List.set_cons_zero, List.set_cons_succ]
    refine wpAnyH_ready (rs := [20]) (by kernel_rfl) (by simp) ?_
    refine AllReadyH.cons (o := { dst := none, op := Op.store 98 (Operand.tmp 51) (Operand.tmp 49), type := 0, pos := "packet.go:43", after := #[{ on := 19, ground := Ground.data }, { on := 17, ground := Ground.data }, { on := 17, ground := Ground.chain }, { on := 0, ground := Ground.phase }, { on := 1, ground := Ground.phase }, { on := 2, ground := Ground.phase }, { on := 3, ground := Ground.phase }, { on := 4, ground := Ground.phase }, { on := 5, ground := Ground.phase }, { on := 6, ground := Ground.phase }, { on := 7, ground := Ground.phase }, { on := 8, ground := Ground.phase }, { on := 9, ground := Ground.phase }, { on := 10, ground := Ground.phase }, { on := 11, ground := Ground.phase }, { on := 12, ground := Ground.phase }, { on := 13, ground := Ground.phase }, { on := 14, ground := Ground.phase }, { on := 15, ground := Ground.phase }, { on := 16, ground := Ground.phase }, { on := 17, ground := Ground.phase }], guard := none }) rfl (fun K hK => ?step21) ?more21
    case more21 => exact AllReadyH.nil
    ((go_simp; go_wp2_with fail))
    refine hK.out _ _ ?hS21 (fun hHeld => ?rr21)
    case hS21 => (exact HCE.out _ ((HT6.out.mono (fun k _ e => .inr e)).setCell ⟨b, 1, none⟩ (fun _ => .inl HRB.out) _))
    clear hK K
    try simp only [Act.put, List.setIfInBounds_toArray, List.set_cons_zero, List.set_cons_succ]
    refine wpAnyH_done (by kernel_rfl) ?_ _
    clear hHeld
    dsimp only [onlyN]
    go_wp2_with fail
    refine (HCD.out _ HNP.out).mono ?_
    rintro e w7 ⟨rfl, hb7⟩
    have HF7 := Lib.hid (HNP.out.after hb7)
    clear hb7
    go_wp2_with fail
    go_ret
    exact ⟨rfl, HF7.out⟩
  · clear k0
    refine AllReadyH.cons (o := { dst := some 41, op := Op.call { callee := Callee.value (Operand.func 65), args := #[Operand.tmp 40], argTypes := #[54] }, type := 54, pos := "packet.go:43", after := #[{ on := 8, ground := Ground.data }], guard := none }) rfl (fun K hK => ?step22) ?more22
    case more22 => exact AllReadyH.nil
    ((go_simp; go_at_call 65; refine (HCL.out _ (below_drew HB2.out)).mono ?_; rintro e w3 ⟨g3, c3, rfl, hc3, hb3⟩; go_wp2_with fail))
    refine hK.out _ _ ?hS22 (fun hHeld => ?rr22)
    case hS22 => (exact HCE.out _ (.of_below ((below_drew HB2.out).trans (hb3.mono (below_drew HB2.out).size))))
    clear hK K
    try simp only [Act.put, List.setIfInBounds_toArray, List.set_cons_zero, List.set_cons_succ]
    have hB3 : Below w1.heap.size w1 w3 := (below_drew HB2.out).trans (hb3.mono (below_drew HB2.out).size)
    obtain ⟨A6, n6, c6, w6, hr6, hc6, hf6, hnp, ht6⟩ := HAP.out w3 hB3 g3 c3 ⟨Nat.le_trans (below_drew HB2.out).size hc3.new, hc3.lt, hc3.le, hc3.max, hc3.holds, hc3.there⟩
    have HNP := Lib.hid hnp
    have HT6 := Lib.hid ht6
    have hb4 := below_new (w := w3) (.cells #[.slice (some ⟨g3, 0, none⟩) n c3, .int .i64 x.site, .int .i64 0] 125)
    have hb5 := below_new (w := w3.alloc (.cells #[.slice (some ⟨g3, 0, none⟩) n c3, .int .i64 x.site, .int .i64 0] 125)) (.cells #[.pointer (some ⟨w3.heap.size, 0, none⟩)] 120)
    have HB3 := Lib.hid hB3
    have HW5 := Lib.hid (And.intro (hB3.trans (hb4.mono hB3.size)) (hB3.trans ((hb4.trans (hb5.mono hb4.size)).mono hB3.size)))
    clear hb4 hb5 hnp ht6 hb3 hc3 hB3
    refine wpAnyH_take (i := 14) (oi := { dst := some 46, op := Op.build 125 #[(0, Operand.tmp 41), (1, Operand.tmp 45)], type := 125, pos := "packet.go:43", after := #[{ on := 9, ground := Ground.data }, { on := 13, ground := Ground.data }], guard := none }) (v := ?vv23) rfl (by kernel_rfl) (by kernel_rfl) (by kernel_rfl) (fun _ _ _ h => h) ?hy23 (by assumption) ?rest23
    case hy23 => (refine Or.inl ⟨by rfl, ?_⟩; intro W hSw; (try dsimp only at hSw); go_simp; (try with_reducible rfl))
    try simp only [Act.put, List.setIfInBounds_toArray, List.set_cons_zero, List.set_cons_succ]
    have k0 := HCB.out _ HB3.out
    refine wpAnyH_ready (rs := [4, 15]) (by kernel_rfl) (by simp) ?_
    refine AllReadyH.cons (o := { dst := some 36, op := Op.load 98 (Operand.tmp 35), type := 98, pos := "packet.go:43", after := #[{ on := 3, ground := Ground.data }], guard := none }) rfl (fun K hK => ?step24) ?more24
    ((go_simp; go_wp2_with fail))
    refine hK.out _ _ ?hS24 (fun hHeld => ?rr24)
    case hS24 => (exact HCE.out _ (.of_below HB3.out))
    clear hK K
    try simp only [Act.put, List.setIfInBounds_toArray, List.set_cons_zero, List.set_cons_succ]
    · clear k0
      refine wpAnyH_ready (rs := [15]) (by kernel_rfl) (by simp) ?_
      refine AllReadyH.cons (o := { dst := some 47, op := Op.box 125 (Operand.tmp 46), type := 120, pos := "packet.go:43", after := #[{ on := 14, ground := Ground.data }], guard := none }) rfl (fun K hK => ?step25) ?more25
      case more25 => exact AllReadyH.nil
      ((go_simp; go_wp2_with fail))
      refine hK.out _ _ ?hS25 (fun hHeld => ?rr25)
      case hS25 => (exact HCE.out _ (.of_below HW5.out.1))
      clear hK K
      try simp only [Act.put, List.setIfInBounds_toArray, List.set_cons_zero, List.set_cons_succ]
      refine wpAnyH_ready (rs := [16]) (by kernel_rfl) (by simp) ?_
      refine AllReadyH.cons (o := { dst := some 48, op := Op.buildSlice 98 1 #[(0, Operand.tmp 47)], type := 98, pos := "packet.go:43", after := #[{ on := 15, ground := Ground.data }], guard := none }) rfl (fun K hK => ?step26) ?more26
      case more26 => exact AllReadyH.nil
      ((go_simp; go_wp2_with fail))
      refine hK.out _ _ ?hS26 (fun hHeld => ?rr26)
      case hS26 => (exact HCE.out _ (.of_below HW5.out.2))
      clear hK K
      try simp only [Act.put, List.setIfInBounds_toArray, List.set_cons_zero, List.set_cons_succ]
      refine wpAnyH_ready (rs := [17]) (by kernel_rfl) (by simp) ?_
      refine AllReadyH.cons (o := { dst := some 49, op := Op.call { callee := Callee.builtin Builtin.append, args := #[Operand.tmp 36, Operand.tmp 48], argTypes := #[98, 98] }, type := 98, pos := "packet.go:43", after := #[{ on := 4, ground := Ground.data }, { on := 16, ground := Ground.data }, { on := 9, ground := Ground.chain }], guard := none }) rfl (fun K hK => ?step27) ?more27
      case more27 => exact AllReadyH.nil
      (refine nstep_app_run hr6 rfl (.tmp 36) (.tmp 48) rfl rfl rfl ?_)
      refine hK.out _ _ ?hS27 (fun hHeld => ?rr27)
      case hS27 => (exact HCE.out _ (HT6.out.mono (fun k _ e => .inr e)))
      clear hK K
      try simp only [Act.put, List.setIfInBounds_toArray, List.set_cons_zero, List.set_cons_succ]
      refine wpAnyH_take (i := 18) (oi := { dst := some 50, op := Op.nilCheck (Operand.tmp 32), type := 0, pos := "packet.go:43", after := #[{ on := 0, ground := Ground.data }, { on := 0, ground := Ground.phase }, { on := 1, ground := Ground.phase }, { on := 2, ground := Ground.phase }, { on := 3, ground := Ground.phase }, { on := 4, ground := Ground.phase }, { on := 5, ground := Ground.phase }, { on := 6, ground := Ground.phase }, { on := 7, ground := Ground.phase }, { on := 8, ground := Ground.phase }, { on := 9, ground := Ground.phase }, { on := 10, ground := Ground.phase }, { on := 11, ground := Ground.phase }, { on := 12, ground := Ground.phase }, { on := 13, ground := Ground.phase }, { on := 14, ground := Ground.phase }, { on := 15, ground := Ground.phase }, { on := 16, ground := Ground.phase }, { on := 17, ground := Ground.phase }], guard := none }) (v := ?vv28) rfl (by kernel_rfl) (by kernel_rfl) (by kernel_rfl) (fun _ _ _ h => h) ?hy28 (by assumption) ?rest28
      case hy28 => (refine Or.inl ⟨by rfl, ?_⟩; intro W hSw; (try dsimp only at hSw); go_simp; (try with_reducible rfl))
      try simp only [Act.put, List.setIfInBounds_toArray, List.set_cons_zero, List.set_cons_succ]
      refine wpAnyH_take (i := 19) (oi := { dst := some 51, op := Op.fieldAddr 100 (Operand.tmp 50) 1, type := 0, pos := "packet.go:43", after := #[{ on := 18, ground := Ground.data }, { on := 0, ground := Ground.phase }, { on := 1, ground := Ground.phase }, { on := 2, ground := Ground.phase }, { on := 3, ground := Ground.phase }, { on := 4, ground := Ground.phase }, { on := 5, ground := Ground.phase }, { on := 6, ground := Ground.phase }, { on := 7, ground := Ground.phase }, { on := 8, ground := Ground.phase }, { on := 9, ground := Ground.phase }, { on := 10, ground := Ground.phase }, { on := 11, ground := Ground.phase }, { on := 12, ground := Ground.phase }, { on := 13, ground := Ground.phase }, { on := 14, ground := Ground.phase }, { on := 15, ground := Ground.phase }, { on := 16, ground := Ground.phase }, { on := 17, ground := Ground.phase }], guard := none }) (v := ?vv29) rfl (by kernel_rfl) (by kernel_rfl) (by kernel_rfl) (fun _ _ _ h => h) ?hy29 (by assumption) ?rest29
      case hy29 => (refine Or.inl ⟨by rfl, ?_⟩; intro W hSw; (try dsimp only at hSw); go_simp; (try with_reducible rfl))
      try simp only [Act.put, List.setIfInBounds_toArray, List.set_cons_zero, List.set_cons_succ]
      refine wpAnyH_ready (rs := [20]) (by kernel_rfl) (by simp) ?_
      refine AllReadyH.cons (o := { dst := none, op := Op.store 98 (Operand.tmp 51) (Operand.tmp 49), type := 0, pos := "packet.go:43", after := #[{ on := 19, ground := Ground.data }, { on := 17, ground := Ground.data }, { on := 17, ground := Ground.chain }, { on := 0, ground := Ground.phase }, { on := 1, ground := Ground.phase }, { on := 2, ground := Ground.phase }, { on := 3, ground := Ground.phase }, { on := 4, ground := Ground.phase }, { on := 5, ground := Ground.phase }, { on := 6, ground := Ground.phase }, { on := 7, ground := Ground.phase }, { on := 8, ground := Ground.phase }, { on := 9, ground := Ground.phase }, { on := 10, ground := Ground.phase }, { on := 11, ground := Ground.phase }, { on := 12, ground := Ground.phase }, { on := 13, ground := Ground.phase }, { on := 14, ground := Ground.phase }, { on := 15, ground := Ground.phase }, { on := 16, ground := Ground.phase }, { on := 17, ground := Ground.phase }], guard := none }) rfl (fun K hK => ?step30) ?more30
      case more30 => exact AllReadyH.nil
      ((go_simp; go_wp2_with fail))
      refine hK.out _ _ ?hS30 (fun hHeld => ?rr30)
      case hS30 => (exact HCE.out _ ((HT6.out.mono (fun k _ e => .inr e)).setCell ⟨b, 1, none⟩ (fun _ => .inl HRB.out) _))
      clear hK K
      try simp only [Act.put, List.setIfInBounds_toArray, List.set_cons_zero, List.set_cons_succ]
      refine wpAnyH_done (by kernel_rfl) ?_ _
      clear hHeld
      dsimp only [onlyN]
      go_wp2_with fail
      refine (HCD.out _ HNP.out).mono ?_
      rintro e w7 ⟨rfl, hb7⟩
      have HF7 := Lib.hid (HNP.out.after hb7)
      clear hb7
      go_wp2_with fail
      go_ret
      exact ⟨rfl, HF7.out⟩
    · clear k0
      refine AllReadyH.cons (o := { dst := some 47, op := Op.box 125 (Operand.tmp 46), type := 120, pos := "packet.go:43", after := #[{ on := 14, ground := Ground.data }], guard := none }) rfl (fun K hK => ?step31) ?more31
      case more31 => exact AllReadyH.nil
      ((go_simp; go_wp2_with fail))
      refine hK.out _ _ ?hS31 (fun hHeld => ?rr31)
      case hS31 => (exact HCE.out _ (.of_below HW5.out.1))
      clear hK K
      try simp only [Act.put, List.setIfInBounds_toArray, List.set_cons_zero, List.set_cons_succ]
      have k0 := HCB.out _ HW5.out.1
      refine wpAnyH_ready (rs := [4, 16]) (by kernel_rfl) (by simp) ?_
      refine AllReadyH.cons (o := { dst := some 36, op := Op.load 98 (Operand.tmp 35), type := 98, pos := "packet.go:43", after := #[{ on := 3, ground := Ground.data }], guard := none }) rfl (fun K hK => ?step32) ?more32
      ((go_simp; go_wp2_with fail))
      refine hK.out _ _ ?hS32 (fun hHeld => ?rr32)
      case hS32 => (exact HCE.out _ (.of_below HW5.out.1))
      clear hK K
      try simp only [Act.put, List.setIfInBounds_toArray, List.set_cons_zero, List.set_cons_succ]
      · clear k0
        refine wpAnyH_ready (rs := [16]) (by kernel_rfl) (by simp) ?_
        refine AllReadyH.cons (o := { dst := some 48, op := Op.buildSlice 98 1 #[(0, Operand.tmp 47)], type := 98, pos := "packet.go:43", after := #[{ on := 15, ground := Ground.data }], guard := none }) rfl (fun K hK => ?step33) ?more33
        case more33 => exact AllReadyH.nil
        ((go_simp; go_wp2_with fail))
        refine hK.out _ _ ?hS33 (fun hHeld => ?rr33)
        case hS33 => (exact HCE.out _ (.of_below HW5.out.2))
        clear hK K
        try simp only [Act.put, List.setIfInBounds_toArray, List.set_cons_zero, List.set_cons_succ]
        refine wpAnyH_ready (rs := [17]) (by kernel_rfl) (by simp) ?_
        refine AllReadyH.cons (o := { dst := some 49, op := Op.call { callee := Callee.builtin Builtin.append, args := #[Operand.tmp 36, Operand.tmp 48], argTypes := #[98, 98] }, type := 98, pos := "packet.go:43", after := #[{ on := 4, ground := Ground.data }, { on := 16, ground := Ground.data }, { on := 9, ground := Ground.chain }], guard := none }) rfl (fun K hK => ?step34) ?more34
        case more34 => exact AllReadyH.nil
        (refine nstep_app_run hr6 rfl (.tmp 36) (.tmp 48) rfl rfl rfl ?_)
        refine hK.out _ _ ?hS34 (fun hHeld => ?rr34)
        case hS34 => (exact HCE.out _ (HT6.out.mono (fun k _ e => .inr e)))
        clear hK K
        try simp only [Act.put, List.setIfInBounds_toArray, List.set_cons_zero, List.set_cons_succ]
        refine wpAnyH_take (i := 18) (oi := { dst := some 50, op := Op.nilCheck (Operand.tmp 32), type := 0, pos := "packet.go:43", after := #[{ on := 0, ground := Ground.data }, { on := 0, ground := Ground.phase }, { on := 1, ground := Ground.phase }, { on := 2, ground := Ground.phase }, { on := 3, ground := Ground.phase }, { on := 4, ground := Ground.phase }, { on := 5, ground := Ground.phase }, { on := 6, ground := Ground.phase }, { on := 7, ground := Ground.phase }, { on := 8, ground := Ground.phase }, { on := 9, ground := Ground.phase }, { on := 10, ground := Ground.phase }, { on := 11, ground := Ground.phase }, { on := 12, ground := Ground.phase }, { on := 13, ground := Ground.phase }, { on := 14, ground := Ground.phase }, { on := 15, ground := Ground.phase }, { on := 16, ground := Ground.phase }, { on := 17, ground := Ground.phase }], guard := none }) (v := ?vv35) rfl (by kernel_rfl) (by kernel_rfl) (by kernel_rfl) (fun _ _ _ h => h) ?hy35 (by assumption) ?rest35
        case hy35 => (refine Or.inl ⟨by rfl, ?_⟩; intro W hSw; (try dsimp only at hSw); go_simp; (try with_reducible rfl))
        try simp only [Act.put, List.setIfInBounds_toArray, List.set_cons_zero, List.set_cons_succ]
        refine wpAnyH_take (i := 19) (oi := { dst := some 51, op := Op.fieldAddr 100 (Operand.tmp 50) 1, type := 0, pos := "packet.go:43", after := #[{ on := 18, ground := Ground.data }, { on := 0, ground := Ground.phase }, { on := 1, ground := Ground.phase }, { on := 2, ground := Ground.phase }, { on := 3, ground := Ground.phase }, { on := 4, ground := Ground.phase }, { on := 5, ground := Ground.phase }, { on := 6, ground := Ground.phase }, { on := 7, ground := Ground.phase }, { on := 8, ground := Ground.phase }, { on := 9, ground := Ground.phase }, { on := 10, ground := Ground.phase }, { on := 11, ground := Ground.phase }, { on := 12, ground := Ground.phase }, { on := 13, ground := Ground.phase }, { on := 14, ground := Ground.phase }, { on := 15, ground := Ground.phase }, { on := 16, ground := Ground.phase }, { on := 17, ground := Ground.phase }], guard := none }) (v := ?vv36) rfl (by kernel_rfl) (by kernel_rfl) (by kernel_rfl) (fun _ _ _ h => h) ?hy36 (by assumption) ?rest36
        case hy36 => (refine Or.inl ⟨by rfl, ?_⟩; intro W hSw; (try dsimp only at hSw); go_simp; (try with_reducible rfl))
        try simp only [Act.put, List.setIfInBounds_toArray, List.set_cons_zero, List.set_cons_succ]
        refine wpAnyH_ready (rs := [20]) (by kernel_rfl) (by simp) ?_
        refine AllReadyH.cons (o := { dst := none, op := Op.store 98 (Operand.tmp 51) (Operand.tmp 49), type := 0, pos := "packet.go:43", after := #[{ on := 19, ground := Ground.data }, { on := 17, ground := Ground.data }, { on := 17, ground := Ground.chain }, { on := 0, ground := Ground.phase }, { on := 1, ground := Ground.phase }, { on := 2, ground := Ground.phase }, { on := 3, ground := Ground.phase }, { on := 4, ground := Ground.phase }, { on := 5, ground := Ground.phase }, { on := 6, ground := Ground.phase }, { on := 7, ground := Ground.phase }, { on := 8, ground := Ground.phase }, { on := 9, ground := Ground.phase }, { on := 10, ground := Ground.phase }, { on := 11, ground := Ground.phase }, { on := 12, ground := Ground.phase }, { on := 13, ground := Ground.phase }, { on := 14, ground := Ground.phase }, { on := 15, ground := Ground.phase }, { on := 16, ground := Ground.phase }, { on := 17, ground := Ground.phase }], guard := none }) rfl (fun K hK => ?step37) ?more37
        case more37 => exact AllReadyH.nil
        ((go_simp; go_wp2_with fail))
        refine hK.out _ _ ?hS37 (fun hHeld => ?rr37)
        case hS37 => (exact HCE.out _ ((HT6.out.mono (fun k _ e => .inr e)).setCell ⟨b, 1, none⟩ (fun _ => .inl HRB.out) _))
        clear hK K
        try simp only [Act.put, List.setIfInBounds_toArray, List.set_cons_zero, List.set_cons_succ]
        refine wpAnyH_done (by kernel_rfl) ?_ _
        clear hHeld
        dsimp only [onlyN]
        go_wp2_with fail
        refine (HCD.out _ HNP.out).mono ?_
        rintro e w7 ⟨rfl, hb7⟩
        have HF7 := Lib.hid (HNP.out.after hb7)
        clear hb7
        go_wp2_with fail
        go_ret
        exact ⟨rfl, HF7.out⟩
      · clear k0
        refine AllReadyH.cons (o := { dst := some 48, op := Op.buildSlice 98 1 #[(0, Operand.tmp 47)], type := 98, pos := "packet.go:43", after := #[{ on := 15, ground := Ground.data }], guard := none }) rfl (fun K hK => ?step38) ?more38
        case more38 => exact AllReadyH.nil
        ((go_simp; go_wp2_with fail))
        refine hK.out _ _ ?hS38 (fun hHeld => ?rr38)
        case hS38 => (exact HCE.out _ (.of_below HW5.out.2))
        clear hK K
        try simp only [Act.put, List.setIfInBounds_toArray, List.set_cons_zero, List.set_cons_succ]
        have k0 := HCB.out _ HW5.out.2
        refine wpAnyH_ready (rs := [4]) (by kernel_rfl) (by simp) ?_
        refine AllReadyH.cons (o := { dst := some 36, op := Op.load 98 (Operand.tmp 35), type := 98, pos := "packet.go:43", after := #[{ on := 3, ground := Ground.data }], guard := none }) rfl (fun K hK => ?step39) ?more39
        case more39 => exact AllReadyH.nil
        ((go_simp; go_wp2_with fail))
        refine hK.out _ _ ?hS39 (fun hHeld => ?rr39)
        case hS39 => (exact HCE.out _ (.of_below HW5.out.2))
        clear hK K
        try simp only [Act.put, List.setIfInBounds_toArray, List.set_cons_zero, List.set_cons_succ]
        clear k0
        refine wpAnyH_ready (rs := [17]) (by kernel_rfl) (by simp) ?_
        refine AllReadyH.cons (o := { dst := some 49, op := Op.call { callee := Callee.builtin Builtin.append, args := #[Operand.tmp 36, Operand.tmp 48], argTypes := #[98, 98] }, type := 98, pos := "packet.go:43", after := #[{ on := 4, ground := Ground.data }, { on := 16, ground := Ground.data }, { on := 9, ground := Ground.chain }], guard := none }) rfl (fun K hK => ?step40) ?more40
        case more40 => exact AllReadyH.nil
        (refine nstep_app_run hr6 rfl (.tmp 36) (.tmp 48) rfl rfl rfl ?_)
        refine hK.out _ _ ?hS40 (fun hHeld => ?rr40)
        case hS40 => (exact HCE.out _ (HT6.out.mono (fun k _ e => .inr e)))
        clear hK K
        try simp only [Act.put, List.setIfInBounds_toArray, List.set_cons_zero, List.set_cons_succ]
        refine wpAnyH_take (i := 18) (oi := { dst := some 50, op := Op.nilCheck (Operand.tmp 32), type := 0, pos := "packet.go:43", after := #[{ on := 0, ground := Ground.data }, { on := 0, ground := Ground.phase }, { on := 1, ground := Ground.phase }, { on := 2, ground := Ground.phase }, { on := 3, ground := Ground.phase }, { on := 4, ground := Ground.phase }, { on := 5, ground := Ground.phase }, { on := 6, ground := Ground.phase }, { on := 7, ground := Ground.phase }, { on := 8, ground := Ground.phase }, { on := 9, ground := Ground.phase }, { on := 10, ground := Ground.phase }, { on := 11, ground := Ground.phase }, { on := 12, ground := Ground.phase }, { on := 13, ground := Ground.phase }, { on := 14, ground := Ground.phase }, { on := 15, ground := Ground.phase }, { on := 16, ground := Ground.phase }, { on := 17, ground := Ground.phase }], guard := none }) (v := ?vv41) rfl (by kernel_rfl) (by kernel_rfl) (by kernel_rfl) (fun _ _ _ h => h) ?hy41 (by assumption) ?rest41
        case hy41 => (refine Or.inl ⟨by rfl, ?_⟩; intro W hSw; (try dsimp only at hSw); go_simp; (try with_reducible rfl))
        try simp only [Act.put, List.setIfInBounds_toArray, List.set_cons_zero, List.set_cons_succ]
        refine wpAnyH_take (i := 19) (oi := { dst := some 51, op := Op.fieldAddr 100 (Operand.tmp 50) 1, type := 0, pos := "packet.go:43", after := #[{ on := 18, ground := Ground.data }, { on := 0, ground := Ground.phase }, { on := 1, ground := Ground.phase }, { on := 2, ground := Ground.phase }, { on := 3, ground := Ground.phase }, { on := 4, ground := Ground.phase }, { on := 5, ground := Ground.phase }, { on := 6, ground := Ground.phase }, { on := 7, ground := Ground.phase }, { on := 8, ground := Ground.phase }, { on := 9, ground := Ground.phase }, { on := 10, ground := Ground.phase }, { on := 11, ground := Ground.phase }, { on := 12, ground := Ground.phase }, { on := 13, ground := Ground.phase }, { on := 14, ground := Ground.phase }, { on := 15, ground := Ground.phase }, { on := 16, ground := Ground.phase }, { on := 17, ground := Ground.phase }], guard := none }) (v := ?vv42) rfl (by kernel_rfl) (by kernel_rfl) (by kernel_rfl) (fun _ _ _ h => h) ?hy42 (by assumption) ?rest42
        case hy42 => (refine Or.inl ⟨by rfl, ?_⟩; intro W hSw; (try dsimp only at hSw); go_simp; (try with_reducible rfl))
        try simp only [Act.put, List.setIfInBounds_toArray, List.set_cons_zero, List.set_cons_succ]
        refine wpAnyH_ready (rs := [20]) (by kernel_rfl) (by simp) ?_
        refine AllReadyH.cons (o := { dst := none, op := Op.store 98 (Operand.tmp 51) (Operand.tmp 49), type := 0, pos := "packet.go:43", after := #[{ on := 19, ground := Ground.data }, { on := 17, ground := Ground.data }, { on := 17, ground := Ground.chain }, { on := 0, ground := Ground.phase }, { on := 1, ground := Ground.phase }, { on := 2, ground := Ground.phase }, { on := 3, ground := Ground.phase }, { on := 4, ground := Ground.phase }, { on := 5, ground := Ground.phase }, { on := 6, ground := Ground.phase }, { on := 7, ground := Ground.phase }, { on := 8, ground := Ground.phase }, { on := 9, ground := Ground.phase }, { on := 10, ground := Ground.phase }, { on := 11, ground := Ground.phase }, { on := 12, ground := Ground.phase }, { on := 13, ground := Ground.phase }, { on := 14, ground := Ground.phase }, { on := 15, ground := Ground.phase }, { on := 16, ground := Ground.phase }, { on := 17, ground := Ground.phase }], guard := none }) rfl (fun K hK => ?step43) ?more43
        case more43 => exact AllReadyH.nil
        ((go_simp; go_wp2_with fail))
        refine hK.out _ _ ?hS43 (fun hHeld => ?rr43)
        case hS43 => (exact HCE.out _ ((HT6.out.mono (fun k _ e => .inr e)).setCell ⟨b, 1, none⟩ (fun _ => .inl HRB.out) _))
        clear hK K
        try simp only [Act.put, List.setIfInBounds_toArray, List.set_cons_zero, List.set_cons_succ]
        refine wpAnyH_done (by kernel_rfl) ?_ _
        clear hHeld
        dsimp only [onlyN]
        go_wp2_with fail
        refine (HCD.out _ HNP.out).mono ?_
        rintro e w7 ⟨rfl, hb7⟩
        have HF7 := Lib.hid (HNP.out.after hb7)
        clear hb7
        go_wp2_with fail
        go_ret
        exact ⟨rfl, HF7.out⟩
end
end Go.Proofs.YtfddlhcdlgdofaaGreatDoor
