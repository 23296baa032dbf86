/- mess.Decode: what it reads is its own: turning what was there before does not turn it. (Its walk is MeeD's.) -/
import Derived.Test.YtmbonngjkgcijaaGreatDoorZMeeB
set_option linter.unusedSimpArgs false
set_option linter.unusedVariables false
set_option linter.unnecessarySimpa false
namespace Go.Proofs.YtmbonngjkgcijaaGreatDoor
open Go.RowKit Go.Shelf
/-- What Decode answers: its lists are new. -/
def DecOwn (w : World) (o : Option MsgV) (e : Ending) (w' : World) : Prop :=
  Below w.heap.size w w' ∧ ((o = none ∧ e = .returned (.tuple #[zeroM, .int .i64 6])) ∨ ∃ m v, o = some m ∧ e = .returned (.tuple #[v, .int .i64 0]) ∧ ∀ W', Touch (fun k => k < w.heap.size) w' W' → MsgIs W' v m)
set_option maxRecDepth 100000 in
set_option maxHeartbeats 16000000 in
theorem Decode_own {w : World} {v : Value} {bs : List UInt8} (hG : Glob w) (hMv : Mov w) (h : BIs w v bs) :
    Calls Tryz.prog 20 #[v] w (DecOwn w (decM bs)) := by
  have hb0 := below_new (w := w) (.cells #[.int .i64 0, .int .i64 0, .int .i64 0, .int .i64 0, .int .i64 0, .int .i64 0, .int .i64 0, .int .i64 0, .int .i64 0, .slice none 0 0, .slice none 0 0] 50)
  have hat := alloc_at w (.cells #[.int .i64 0, .int .i64 0, .int .i64 0, .int .i64 0, .int .i64 0, .int .i64 0, .int .i64 0, .int .i64 0, .int .i64 0, .slice none 0 0, .slice none 0 0] 50)
  have HON := Lib.hid (One_any (hMv.below hb0) (h.below hb0))
  have HB0 := Lib.hid hb0
  have HAT := Lib.hid hat
  have HG := Lib.hid hG
  have hbl := bodyW_le bs
  obtain ⟨wb, hwb⟩ : ∃ b, wholeP bs = b := ⟨_, rfl⟩
  rw [hwb] at HON
  obtain ⟨B, hB⟩ : ∃ B, bodyW bs = B := ⟨_, rfl⟩
  rw [hB] at HON hbl
  have HWB := Lib.hid (And.intro hwb hB)
  obtain ⟨A0, cap0, rfl, _⟩ := h
  clear hG hMv hb0 hat hwb hB
  go_enter Tryz.func20, Tryz.ntmps20
  go_wp2_with fail
  refine (HON.out).mono ?_
  rintro e w1 ⟨x, rfl, hx, hb1⟩
  have HZ1 := Lib.hid ((hb1.block w.heap.size (by rw [asz]; omega)).trans HAT.out)
  have HB1 := Lib.hid (HB0.out.trans (hb1.mono HB0.out.size))
  have HOF := Lib.hid (of_any hx (by omega))
  obtain ⟨Ax, cx, rfl, _⟩ := hx
  clear hb1 HON
  go_wp2_with fail
  refine (HOF.out).mono ?_
  rintro e w2 ⟨g, A, cap, rfl, hgn, hR, hb2⟩
  have hR : RdS w2 g A cap B (some 0) := hR
  have HRE := Lib.hid (read_u hR)
  have hR0 : w.heap.size < g := Nat.lt_of_lt_of_le (heap_lt HZ1.out) hgn
  have HZ2 := Lib.hid ((hb2.block w.heap.size (heap_lt HZ1.out)).trans HZ1.out)
  have HB2 := Lib.hid (HB1.out.trans (hb2.mono HB1.out.size))
  obtain ⟨a, s1, ha⟩ : ∃ n s, hdS B 10 (some 0) = (n, s) := ⟨_, _, rfl⟩
  obtain ⟨ns, s2, hns⟩ : ∃ n s, hdS B (manyS a) s1 = (n, s) := ⟨_, _, rfl⟩
  obtain ⟨raw, s3, hraw⟩ : ∃ n s, strS 16384 B s2 = (n, s) := ⟨_, _, rfl⟩
  have hal : a.length = 10 := by have := hdS_len B 10 (some 0); rw [ha] at this; exact this
  have hrl : raw.size ≤ 16384 := by have := (strS_le : (strS 16384 B s2).1.size ≤ 16384); rw [hraw] at this; exact this
  rw [ha] at HRE
  simp only at HRE
  rw [hns] at HRE
  simp only at HRE
  have HHA := Lib.hid (And.intro ha (And.intro hns (And.intro hraw hal)))
  clear hR hb2 HOF ha hns hraw hal hgn
  go_wp2_with fail
  refine (HRE.out).mono ?_
  rintro e w3 ⟨tA, tc, Bt, hgB, _, rfl, hrow, hR3, hO3⟩
  obtain ⟨m0, hm0⟩ : ∃ m, msgOf a ns [] = m := ⟨_, rfl⟩
  rw [hm0]
  have HM0 := Lib.hid hm0
  have hb4 := below_new (w := w3) (.cells #[.int .i64 m0.kd, .int .i64 m0.fr, .int .i64 m0.tt, .int .i64 m0.g, .int .i64 m0.nd, .int .i64 m0.tr, .int .i64 m0.lw, .int .i64 m0.co, .int .i64 m0.ti, .slice tA ns.length tc, .slice none 0 0] 50)
  have hat4 := alloc_at w3 (.cells #[.int .i64 m0.kd, .int .i64 m0.fr, .int .i64 m0.tt, .int .i64 m0.g, .int .i64 m0.nd, .int .i64 m0.tr, .int .i64 m0.lw, .int .i64 m0.co, .int .i64 m0.ti, .slice tA ns.length tc, .slice none 0 0] 50)
  have HZ3 := Lib.hid (hO3.block' HZ2.out (by omega))
  have hb3 : Below w.heap.size w w3 := HB2.out.trans (hO3.touch.below (fun i e => by rw [e]; omega) HB2.out.size)
  have HB4 := Lib.hid (hb3.trans (hb4.mono hb3.size))
  have HST := Lib.hid (str_u (most := 16384) (by omega) (hR3.below hb4))
  rw [HHA.out.2.2.1] at HST
  simp only at HST
  have HAT4 := Lib.hid hat4
  have HRW := Lib.hid (And.intro hrow hgB)
  have HG3 := Lib.hid (hR3.lt)
  have HZ4 := Lib.hid ((hb4.block w.heap.size (heap_lt HZ3.out)).trans HZ3.out)
  clear hrow hR3 hO3 hb4 hat4 hb3 hm0 HRE hgB
  go_wp2_with fail
  refine (HST.out).mono ?_
  rintro e w5 ⟨rfl, hR5, hO5⟩
  have hM5 := hO5.block' HAT4.out (by have := HG3.out; omega)
  have HZ5a := Lib.hid (hO5.block' HZ4.out (by omega))
  have hb5 : Below w.heap.size w w5 := HB4.out.trans (hO5.touch.below (fun i e => by rw [e]; omega) HB4.out.size)
  have hrow5 : RowN w5 Bt 1 (.slice tA ns.length tc) ns.length (numC ns) := ⟨(HRW.out.1.1.below (below_new _)).touch hO5.touch (fun b e hb => by have := (HRW.out.1.2.1 b e).1; have := HRW.out.2; omega), HRW.out.1.2⟩
  have hcv := Lib.run_convert_string_bytes (P := Tryz.prog) w5 9 54 5 raw Tryz.underlying9 Tryz.underlying54 Tryz.underlying5
  have hbb := bytes_conv w5 raw (by omega)
  have hb6 := Lib.bytesWorld_below w5 5 raw
  have hsz6 : w5.heap.size ≤ (Lib.bytesWorld w5 5 raw).heap.size := hb6.size
  generalize Lib.bytesWorld w5 5 raw = w6 at *
  generalize grownCap w5 raw.size 0 5 = cap6 at *
  have hB6 := hb5.trans (hb6.mono hb5.size)
  have HOD := Lib.hid (opsdec_any (HG.out.below hB6) hbb (by rw [size_list]; omega))
  have HB6 := Lib.hid hB6
  have HM6 := Lib.hid ((hb6.block w3.heap.size (heap_lt hM5)).trans hM5)
  have HR6 := Lib.hid (hR5.below hb6)
  have HRW6 : Hid (RowN w6 Bt 1 (.slice tA ns.length tc) ns.length (numC ns)) := Lib.hid ⟨hrow5.1.below hb6, hrow5.2⟩
  have HZ6 := Lib.hid ((hb6.block w.heap.size (heap_lt HZ5a.out)).trans HZ5a.out)
  have hm5 := heap_lt hM5
  obtain ⟨od, hod⟩ : ∃ o, decO raw.data.toList = o := ⟨_, rfl⟩
  rw [hod] at HOD
  have HODE := Lib.hid hod
  clear hR5 hO5 hM5 hb5 hrow5 hbb hb6 hB6 hod HST
  go_wp2_with fail
  clear hcv
  refine (HOD.out).mono ?_
  rintro e w7 ⟨hb7, hcs⟩
  have HM7 := Lib.hid ((hb7.block w3.heap.size (heap_lt HM6.out)).trans HM6.out)
  have HZ7 := Lib.hid ((hb7.block w.heap.size (heap_lt HZ6.out)).trans HZ6.out)
  have HB7 := Lib.hid (HB6.out.trans (hb7.mono HB6.out.size))
  have HR7 := Lib.hid (HR6.out.below hb7)
  have HRW7 : Hid (RowN w7 Bt 1 (.slice tA ns.length tc) ns.length (numC ns)) := Lib.hid ⟨HRW6.out.1.below hb7, HRW6.out.2⟩
  have hsz7 : w6.heap.size ≤ w7.heap.size := hb7.size
  have hMR : w3.heap.size ≠ w.heap.size := by have := HG3.out; omega
  have hzM := HM7.out
  have d10 := cell_of hzM 10; have e10 := free0 hzM 10
  simp at d10
  clear hb7 HOD hzM
  rcases hcs with ⟨rfl, rfl⟩ | ⟨l, Ao, co, rfl, rfl, hro, hkl⟩
  · -- the operations can't be read
    have HZX := Lib.hid ((Below.heap_setCell w7 ⟨w3.heap.size, 10, none⟩ (.slice none 0 0) w.heap.size hMR.symm).trans HZ7.out)
    have HBX := Lib.hid (HB7.out.setCell (p := ⟨w3.heap.size, 10, none⟩) (by show w.heap.size ≤ w3.heap.size; have := HG3.out; omega) (.slice none 0 0))
    have HXN : Hid (wb = true → decM bs = none) := Lib.hid (fun h => by
      rw [decM_whole (HWB.out.1.trans h), HWB.out.2]
      exact decB_none HHA.out.1 HHA.out.2.1 HHA.out.2.2.1 HODE.out)
    cases wb with
    | false =>
      have hz := HZX.out
      have hzw := HZ7.out
      have c0 := cell_of hzw 0; have c1 := cell_of hzw 1; have c2 := cell_of hzw 2; have c3 := cell_of hzw 3; have c4 := cell_of hzw 4; have c5 := cell_of hzw 5; have c6 := cell_of hzw 6; have c7 := cell_of hzw 7; have c8 := cell_of hzw 8; have c9 := cell_of hzw 9; have c10 := cell_of hzw 10; have f0 := free0 hzw 0; have f1 := free0 hzw 1; have f2 := free0 hzw 2; have f3 := free0 hzw 3; have f4 := free0 hzw 4; have f5 := free0 hzw 5; have f6 := free0 hzw 6; have f7 := free0 hzw 7; have f8 := free0 hzw 8; have f9 := free0 hzw 9; have f10 := free0 hzw 10
      simp at c0 c1 c2 c3 c4 c5 c6 c7 c8 c9 c10
      have HZ5 := Lib.hid (setCells_at w.heap.size [.int .i64 0, .int .i64 0, .int .i64 0, .int .i64 0, .int .i64 0, .int .i64 0, .int .i64 0, .int .i64 0, .int .i64 0, .slice none 0 0, .slice none 0 0] [] [.int .i64 0, .int .i64 0, .int .i64 0, .int .i64 0, .int .i64 0, .int .i64 0, .int .i64 0, .int .i64 0, .int .i64 0, .slice none 0 0, .slice none 0 0] (w7.setCell ⟨w3.heap.size, 10, none⟩ (.slice none 0 0)) rfl hz)
      have HT5 := Lib.hid (setCells_touch (S := fun k => k = w.heap.size) (a := (w7.setCell ⟨w3.heap.size, 10, none⟩ (.slice none 0 0))) w.heap.size (fun _ => rfl) [.int .i64 0, .int .i64 0, .int .i64 0, .int .i64 0, .int .i64 0, .int .i64 0, .int .i64 0, .int .i64 0, .int .i64 0, .slice none 0 0, .slice none 0 0] 0 (w7.setCell ⟨w3.heap.size, 10, none⟩ (.slice none 0 0)) (Touch.refl _ _))
      have HBE := Lib.hid (HBX.out)
      have HNO : Hid (decM bs = none) := Lib.hid (decM_no HWB.out.1)
      clear hz hzw
      go_wp2_with fail
      change bodyPost _ _ _ _ _ (World.setCells _ w.heap.size 0 [.int .i64 0, .int .i64 0, .int .i64 0, .int .i64 0, .int .i64 0, .int .i64 0, .int .i64 0, .int .i64 0, .int .i64 0, .slice none 0 0, .slice none 0 0])
      simp only [List.length_nil, List.nil_append] at HZ5
      generalize World.setCells _ w.heap.size 0 [.int .i64 0, .int .i64 0, .int .i64 0, .int .i64 0, .int .i64 0, .int .i64 0, .int .i64 0, .int .i64 0, .int .i64 0, .slice none 0 0, .slice none 0 0] = W5 at *
      clear c0 c1 c2 c3 c4 c5 c6 c7 c8 c9 c10 f0 f1 f2 f3 f4 f5 f6 f7 f8 f9 f10
      have j0 := cell_of HZ5.out 0; have j1 := cell_of HZ5.out 1; have j2 := cell_of HZ5.out 2; have j3 := cell_of HZ5.out 3; have j4 := cell_of HZ5.out 4; have j5 := cell_of HZ5.out 5; have j6 := cell_of HZ5.out 6; have j7 := cell_of HZ5.out 7; have j8 := cell_of HZ5.out 8; have j9 := cell_of HZ5.out 9; have j10 := cell_of HZ5.out 10
      simp at j0 j1 j2 j3 j4 j5 j6 j7 j8 j9 j10
      refine bodyPost_ret (v := .tuple #[.agg #[.int .i64 0, .int .i64 0, .int .i64 0, .int .i64 0, .int .i64 0, .int .i64 0, .int .i64 0, .int .i64 0, .int .i64 0, .slice none 0 0, .slice none 0 0], .int .i64 6]) (by simp [results, Tryz.results20, go_sem, j0, j1, j2, j3, j4, j5, j6, j7, j8, j9, j10]) rfl ?_
      exact ⟨HBE.out.trans (HT5.out.below (fun i e => by rw [e]; exact Nat.le_refl _) HBE.out.size), .inl ⟨HNO.out, rfl⟩⟩
    | true =>
      have hz := HZX.out
      have hzw := HZ7.out
      have c0 := cell_of hzw 0; have c1 := cell_of hzw 1; have c2 := cell_of hzw 2; have c3 := cell_of hzw 3; have c4 := cell_of hzw 4; have c5 := cell_of hzw 5; have c6 := cell_of hzw 6; have c7 := cell_of hzw 7; have c8 := cell_of hzw 8; have c9 := cell_of hzw 9; have c10 := cell_of hzw 10; have f0 := free0 hzw 0; have f1 := free0 hzw 1; have f2 := free0 hzw 2; have f3 := free0 hzw 3; have f4 := free0 hzw 4; have f5 := free0 hzw 5; have f6 := free0 hzw 6; have f7 := free0 hzw 7; have f8 := free0 hzw 8; have f9 := free0 hzw 9; have f10 := free0 hzw 10
      simp at c0 c1 c2 c3 c4 c5 c6 c7 c8 c9 c10
      have HZ5 := Lib.hid (setCells_at w.heap.size [.int .i64 0, .int .i64 0, .int .i64 0, .int .i64 0, .int .i64 0, .int .i64 0, .int .i64 0, .int .i64 0, .int .i64 0, .slice none 0 0, .slice none 0 0] [] [.int .i64 0, .int .i64 0, .int .i64 0, .int .i64 0, .int .i64 0, .int .i64 0, .int .i64 0, .int .i64 0, .int .i64 0, .slice none 0 0, .slice none 0 0] (w7.setCell ⟨w3.heap.size, 10, none⟩ (.slice none 0 0)) rfl hz)
      have HT5 := Lib.hid (setCells_touch (S := fun k => k = w.heap.size) (a := (w7.setCell ⟨w3.heap.size, 10, none⟩ (.slice none 0 0))) w.heap.size (fun _ => rfl) [.int .i64 0, .int .i64 0, .int .i64 0, .int .i64 0, .int .i64 0, .int .i64 0, .int .i64 0, .int .i64 0, .int .i64 0, .slice none 0 0, .slice none 0 0] 0 (w7.setCell ⟨w3.heap.size, 10, none⟩ (.slice none 0 0)) (Touch.refl _ _))
      have HBE := Lib.hid (HBX.out)
      have HNO : Hid (decM bs = none) := Lib.hid (HXN.out rfl)
      clear hz hzw
      go_wp2_with fail
      change bodyPost _ _ _ _ _ (World.setCells _ w.heap.size 0 [.int .i64 0, .int .i64 0, .int .i64 0, .int .i64 0, .int .i64 0, .int .i64 0, .int .i64 0, .int .i64 0, .int .i64 0, .slice none 0 0, .slice none 0 0])
      simp only [List.length_nil, List.nil_append] at HZ5
      generalize World.setCells _ w.heap.size 0 [.int .i64 0, .int .i64 0, .int .i64 0, .int .i64 0, .int .i64 0, .int .i64 0, .int .i64 0, .int .i64 0, .int .i64 0, .slice none 0 0, .slice none 0 0] = W5 at *
      clear c0 c1 c2 c3 c4 c5 c6 c7 c8 c9 c10 f0 f1 f2 f3 f4 f5 f6 f7 f8 f9 f10
      have j0 := cell_of HZ5.out 0; have j1 := cell_of HZ5.out 1; have j2 := cell_of HZ5.out 2; have j3 := cell_of HZ5.out 3; have j4 := cell_of HZ5.out 4; have j5 := cell_of HZ5.out 5; have j6 := cell_of HZ5.out 6; have j7 := cell_of HZ5.out 7; have j8 := cell_of HZ5.out 8; have j9 := cell_of HZ5.out 9; have j10 := cell_of HZ5.out 10
      simp at j0 j1 j2 j3 j4 j5 j6 j7 j8 j9 j10
      refine bodyPost_ret (v := .tuple #[.agg #[.int .i64 0, .int .i64 0, .int .i64 0, .int .i64 0, .int .i64 0, .int .i64 0, .int .i64 0, .int .i64 0, .int .i64 0, .slice none 0 0, .slice none 0 0], .int .i64 6]) (by simp [results, Tryz.results20, go_sem, j0, j1, j2, j3, j4, j5, j6, j7, j8, j9, j10]) rfl ?_
      exact ⟨HBE.out.trans (HT5.out.below (fun i e => by rw [e]; exact Nat.le_refl _) HBE.out.size), .inl ⟨HNO.out, rfl⟩⟩
  · have HM1 := Lib.hid (msgOf_ops (a := a) (ns := ns) (l := l) HHA.out.2.2.2)
    rw [HM0.out] at HM1
    have HXS : Hid (wb = true → decM bs = finM B s3 { m0 with os := l }) := Lib.hid (fun h => by
      rw [decM_whole (HWB.out.1.trans h), HWB.out.2, decB_some HHA.out.1 HHA.out.2.1 HHA.out.2.2.1 HODE.out, HM1.out.1])
    have HZX := Lib.hid ((Below.heap_setCell w7 ⟨w3.heap.size, 10, none⟩ (.slice Ao l.length co) w.heap.size hMR.symm).trans HZ7.out)
    have hbx : Below w.heap.size w (w7.setCell ⟨w3.heap.size, 10, none⟩ (.slice Ao l.length co)) := HB7.out.setCell (p := ⟨w3.heap.size, 10, none⟩) (by show w.heap.size ≤ w3.heap.size; have := HG3.out; omega) (.slice Ao l.length co)
    have HBX := Lib.hid hbx
    cases wb with
    | false =>
      clear hro hkl hbx
      have hz := HZX.out
      have hzw := HZ7.out
      have c0 := cell_of hzw 0; have c1 := cell_of hzw 1; have c2 := cell_of hzw 2; have c3 := cell_of hzw 3; have c4 := cell_of hzw 4; have c5 := cell_of hzw 5; have c6 := cell_of hzw 6; have c7 := cell_of hzw 7; have c8 := cell_of hzw 8; have c9 := cell_of hzw 9; have c10 := cell_of hzw 10; have f0 := free0 hzw 0; have f1 := free0 hzw 1; have f2 := free0 hzw 2; have f3 := free0 hzw 3; have f4 := free0 hzw 4; have f5 := free0 hzw 5; have f6 := free0 hzw 6; have f7 := free0 hzw 7; have f8 := free0 hzw 8; have f9 := free0 hzw 9; have f10 := free0 hzw 10
      simp at c0 c1 c2 c3 c4 c5 c6 c7 c8 c9 c10
      have HZ5 := Lib.hid (setCells_at w.heap.size [.int .i64 0, .int .i64 0, .int .i64 0, .int .i64 0, .int .i64 0, .int .i64 0, .int .i64 0, .int .i64 0, .int .i64 0, .slice none 0 0, .slice none 0 0] [] [.int .i64 0, .int .i64 0, .int .i64 0, .int .i64 0, .int .i64 0, .int .i64 0, .int .i64 0, .int .i64 0, .int .i64 0, .slice none 0 0, .slice none 0 0] (w7.setCell ⟨w3.heap.size, 10, none⟩ (.slice Ao l.length co)) rfl hz)
      have HT5 := Lib.hid (setCells_touch (S := fun k => k = w.heap.size) (a := (w7.setCell ⟨w3.heap.size, 10, none⟩ (.slice Ao l.length co))) w.heap.size (fun _ => rfl) [.int .i64 0, .int .i64 0, .int .i64 0, .int .i64 0, .int .i64 0, .int .i64 0, .int .i64 0, .int .i64 0, .int .i64 0, .slice none 0 0, .slice none 0 0] 0 (w7.setCell ⟨w3.heap.size, 10, none⟩ (.slice Ao l.length co)) (Touch.refl _ _))
      have HBE := Lib.hid (HBX.out)
      have HNO : Hid (decM bs = none) := Lib.hid (decM_no HWB.out.1)
      clear hz hzw
      go_wp2_with fail
      change bodyPost _ _ _ _ _ (World.setCells _ w.heap.size 0 [.int .i64 0, .int .i64 0, .int .i64 0, .int .i64 0, .int .i64 0, .int .i64 0, .int .i64 0, .int .i64 0, .int .i64 0, .slice none 0 0, .slice none 0 0])
      simp only [List.length_nil, List.nil_append] at HZ5
      generalize World.setCells _ w.heap.size 0 [.int .i64 0, .int .i64 0, .int .i64 0, .int .i64 0, .int .i64 0, .int .i64 0, .int .i64 0, .int .i64 0, .int .i64 0, .slice none 0 0, .slice none 0 0] = W5 at *
      clear c0 c1 c2 c3 c4 c5 c6 c7 c8 c9 c10 f0 f1 f2 f3 f4 f5 f6 f7 f8 f9 f10
      have j0 := cell_of HZ5.out 0; have j1 := cell_of HZ5.out 1; have j2 := cell_of HZ5.out 2; have j3 := cell_of HZ5.out 3; have j4 := cell_of HZ5.out 4; have j5 := cell_of HZ5.out 5; have j6 := cell_of HZ5.out 6; have j7 := cell_of HZ5.out 7; have j8 := cell_of HZ5.out 8; have j9 := cell_of HZ5.out 9; have j10 := cell_of HZ5.out 10
      simp at j0 j1 j2 j3 j4 j5 j6 j7 j8 j9 j10
      refine bodyPost_ret (v := .tuple #[.agg #[.int .i64 0, .int .i64 0, .int .i64 0, .int .i64 0, .int .i64 0, .int .i64 0, .int .i64 0, .int .i64 0, .int .i64 0, .slice none 0 0, .slice none 0 0], .int .i64 6]) (by simp [results, Tryz.results20, go_sem, j0, j1, j2, j3, j4, j5, j6, j7, j8, j9, j10]) rfl ?_
      exact ⟨HBE.out.trans (HT5.out.below (fun i e => by rw [e]; exact Nat.le_refl _) HBE.out.size), .inl ⟨HNO.out, rfl⟩⟩
    | true =>
      have htx : Touch (fun k => k = w3.heap.size) w7 (w7.setCell ⟨w3.heap.size, 10, none⟩ (.slice Ao l.length co)) := (Touch.refl (fun k => k = w3.heap.size) w7).setCell ⟨w3.heap.size, 10, none⟩ (fun _ => rfl) _
      have hm0c := cell_of HM7.out 0
      simp at hm0c
      have hMX := set_at HM7.out 10 (.slice Ao l.length co)
      simp at hMX
      have hRX := HR7.out.apart hm0c htx
      have HRWX : Hid (RowN (w7.setCell ⟨w3.heap.size, 10, none⟩ (.slice Ao l.length co)) Bt 1 (.slice tA ns.length tc) ns.length (numC ns) ∧ RowN (w7.setCell ⟨w3.heap.size, 10, none⟩ (.slice Ao l.length co)) w6.heap.size 4 (.slice Ao l.length co) l.length (opC l)) := Lib.hid ⟨⟨HRW7.out.1.touch htx (fun b e hb => by
          have := HRW.out.1.1.lt b e
          omega), HRW7.out.2⟩, ⟨hro.1.touch htx (fun b e hb => by have := (hro.2.1 b e).1; omega), hro.2⟩⟩
      have HKL := Lib.hid hkl
      have HEN := Lib.hid (end_u (HG.out.below hbx) (by have := HG.out.lt; omega) hRX)
      have HMX := Lib.hid hMX
      have HGX := Lib.hid hRX.lt
      clear htx hm0c hMX hRX hro hkl hbx
      go_wp2_with fail
      refine (HEN.out).mono ?_
      rintro e w8 ⟨x, rfl, hx, hO8⟩
      have HZ8 := Lib.hid (hO8.block' HZX.out (by omega))
      have HM8 := Lib.hid (hO8.block' HMX.out (by have := HG3.out; omega))
      have HB8 := Lib.hid (HBX.out.trans (hO8.touch.below (fun i e => by rw [e]; omega) HBX.out.size))
      have HRW8 : Hid (RowN w8 Bt 1 (.slice tA ns.length tc) ns.length (numC ns) ∧ RowN w8 w6.heap.size 4 (.slice Ao l.length co) l.length (opC l)) := Lib.hid ⟨⟨HRWX.out.1.1.touch hO8.touch (fun b e hb => by have := (HRWX.out.1.2.1 b e).1; have := HRW.out.2; omega), HRWX.out.1.2⟩, ⟨HRWX.out.2.1.touch hO8.touch (fun b e hb => by have := (HRWX.out.2.2.1 b e).1; have := HG3.out; omega), HRWX.out.2.2⟩⟩
      by_cases hst : s3 = some B.length
      · obtain rfl : x = 0 := by simpa [hst] using hx
        have htl := HM1.out.2
        have htn : m0.tl.length = ns.length := by rw [htl, List.length_map]
        have hmsg : MsgIs w8 (.agg #[.int .i64 m0.kd, .int .i64 m0.fr, .int .i64 m0.tt, .int .i64 m0.g, .int .i64 m0.nd, .int .i64 m0.tr, .int .i64 m0.lw, .int .i64 m0.co, .int .i64 m0.ti, .slice tA ns.length tc, .slice Ao l.length co]) { m0 with os := l } := ⟨tA, tc, Ao, co, by simp only [htn], by
            show NumsAt w8 (.slice tA m0.tl.length tc) m0.tl
            rw [htn, htl]
            exact HRW8.out.1.nums rfl, HRW8.out.2.1.ops rfl, HKL.out⟩
        have HMY := Lib.hid (May_any (HG.out.below HB8.out) hmsg)
        obtain ⟨mb, hmb⟩ : ∃ b, mayM { m0 with os := l } = b := ⟨_, rfl⟩
        rw [hmb] at HMY
        have HMB := Lib.hid hmb
        have HST2 := Lib.hid hst
        have hzM := HM8.out
        have d0 := cell_of hzM 0; have d1 := cell_of hzM 1; have d2 := cell_of hzM 2; have d3 := cell_of hzM 3; have d4 := cell_of hzM 4; have d5 := cell_of hzM 5; have d6 := cell_of hzM 6; have d7 := cell_of hzM 7; have d8 := cell_of hzM 8; have d9 := cell_of hzM 9; have d10 := cell_of hzM 10
        simp at d0 d1 d2 d3 d4 d5 d6 d7 d8 d9 d10
        clear hx hO8 htl htn hmsg hmb hst hzM HEN
        go_wp2_with fail
        refine (HMY.out).mono ?_
        rintro e w9 ⟨rfl, hb9⟩
        have HZ9 := Lib.hid ((hb9.block w.heap.size (heap_lt HZ8.out)).trans HZ8.out)
        have HM9 := Lib.hid ((hb9.block w3.heap.size (heap_lt HM8.out)).trans HM8.out)
        have HB9 := Lib.hid (HB8.out.trans (hb9.mono HB8.out.size))
        have HRW9 : Hid (RowN w9 Bt 1 (.slice tA ns.length tc) ns.length (numC ns) ∧ RowN w9 w6.heap.size 4 (.slice Ao l.length co) l.length (opC l)) := Lib.hid ⟨⟨HRW8.out.1.1.below hb9, HRW8.out.1.2⟩, ⟨HRW8.out.2.1.below hb9, HRW8.out.2.2⟩⟩
        clear hb9 HMY d0 d1 d2 d3 d4 d5 d6 d7 d8 d9 d10 e10
        cases mb with
        | false =>
          have hz := HZ9.out
          have hzw := HZ9.out
          have c0 := cell_of hzw 0; have c1 := cell_of hzw 1; have c2 := cell_of hzw 2; have c3 := cell_of hzw 3; have c4 := cell_of hzw 4; have c5 := cell_of hzw 5; have c6 := cell_of hzw 6; have c7 := cell_of hzw 7; have c8 := cell_of hzw 8; have c9 := cell_of hzw 9; have c10 := cell_of hzw 10; have f0 := free0 hzw 0; have f1 := free0 hzw 1; have f2 := free0 hzw 2; have f3 := free0 hzw 3; have f4 := free0 hzw 4; have f5 := free0 hzw 5; have f6 := free0 hzw 6; have f7 := free0 hzw 7; have f8 := free0 hzw 8; have f9 := free0 hzw 9; have f10 := free0 hzw 10
          simp at c0 c1 c2 c3 c4 c5 c6 c7 c8 c9 c10
          have HZ5 := Lib.hid (setCells_at w.heap.size [.int .i64 0, .int .i64 0, .int .i64 0, .int .i64 0, .int .i64 0, .int .i64 0, .int .i64 0, .int .i64 0, .int .i64 0, .slice none 0 0, .slice none 0 0] [] [.int .i64 0, .int .i64 0, .int .i64 0, .int .i64 0, .int .i64 0, .int .i64 0, .int .i64 0, .int .i64 0, .int .i64 0, .slice none 0 0, .slice none 0 0] w9 rfl hz)
          have HT5 := Lib.hid (setCells_touch (S := fun k => k = w.heap.size) (a := w9) w.heap.size (fun _ => rfl) [.int .i64 0, .int .i64 0, .int .i64 0, .int .i64 0, .int .i64 0, .int .i64 0, .int .i64 0, .int .i64 0, .int .i64 0, .slice none 0 0, .slice none 0 0] 0 w9 (Touch.refl _ _))
          have HBE := Lib.hid (HB9.out)
          have HNO : Hid (decM bs = none) := Lib.hid (by rw [HXS.out (by first | rfl | trivial)]; unfold finM; rw [if_neg (fun h => by rw [HMB.out] at h; exact absurd h.2 (by decide))])
          clear hz hzw
          go_wp2_with fail
          change bodyPost _ _ _ _ _ (World.setCells _ w.heap.size 0 [.int .i64 0, .int .i64 0, .int .i64 0, .int .i64 0, .int .i64 0, .int .i64 0, .int .i64 0, .int .i64 0, .int .i64 0, .slice none 0 0, .slice none 0 0])
          simp only [List.length_nil, List.nil_append] at HZ5
          generalize World.setCells _ w.heap.size 0 [.int .i64 0, .int .i64 0, .int .i64 0, .int .i64 0, .int .i64 0, .int .i64 0, .int .i64 0, .int .i64 0, .int .i64 0, .slice none 0 0, .slice none 0 0] = W5 at *
          clear c0 c1 c2 c3 c4 c5 c6 c7 c8 c9 c10 f0 f1 f2 f3 f4 f5 f6 f7 f8 f9 f10
          have j0 := cell_of HZ5.out 0; have j1 := cell_of HZ5.out 1; have j2 := cell_of HZ5.out 2; have j3 := cell_of HZ5.out 3; have j4 := cell_of HZ5.out 4; have j5 := cell_of HZ5.out 5; have j6 := cell_of HZ5.out 6; have j7 := cell_of HZ5.out 7; have j8 := cell_of HZ5.out 8; have j9 := cell_of HZ5.out 9; have j10 := cell_of HZ5.out 10
          simp at j0 j1 j2 j3 j4 j5 j6 j7 j8 j9 j10
          refine bodyPost_ret (v := .tuple #[.agg #[.int .i64 0, .int .i64 0, .int .i64 0, .int .i64 0, .int .i64 0, .int .i64 0, .int .i64 0, .int .i64 0, .int .i64 0, .slice none 0 0, .slice none 0 0], .int .i64 6]) (by simp [results, Tryz.results20, go_sem, j0, j1, j2, j3, j4, j5, j6, j7, j8, j9, j10]) rfl ?_
          exact ⟨HBE.out.trans (HT5.out.below (fun i e => by rw [e]; exact Nat.le_refl _) HBE.out.size), .inl ⟨HNO.out, rfl⟩⟩
        | true =>
          have hzM := HM9.out
          have d0 := cell_of hzM 0; have d1 := cell_of hzM 1; have d2 := cell_of hzM 2; have d3 := cell_of hzM 3; have d4 := cell_of hzM 4; have d5 := cell_of hzM 5; have d6 := cell_of hzM 6; have d7 := cell_of hzM 7; have d8 := cell_of hzM 8; have d9 := cell_of hzM 9; have d10 := cell_of hzM 10
          simp at d0 d1 d2 d3 d4 d5 d6 d7 d8 d9 d10
          have hz := HZ9.out
          have c0 := cell_of hz 0; have c1 := cell_of hz 1; have c2 := cell_of hz 2; have c3 := cell_of hz 3; have c4 := cell_of hz 4; have c5 := cell_of hz 5; have c6 := cell_of hz 6; have c7 := cell_of hz 7; have c8 := cell_of hz 8; have c9 := cell_of hz 9; have c10 := cell_of hz 10; have f0 := free0 hz 0; have f1 := free0 hz 1; have f2 := free0 hz 2; have f3 := free0 hz 3; have f4 := free0 hz 4; have f5 := free0 hz 5; have f6 := free0 hz 6; have f7 := free0 hz 7; have f8 := free0 hz 8; have f9 := free0 hz 9; have f10 := free0 hz 10
          simp at c0 c1 c2 c3 c4 c5 c6 c7 c8 c9 c10
          have HZ5 := Lib.hid (setCells_at w.heap.size [.int .i64 m0.kd, .int .i64 m0.fr, .int .i64 m0.tt, .int .i64 m0.g, .int .i64 m0.nd, .int .i64 m0.tr, .int .i64 m0.lw, .int .i64 m0.co, .int .i64 m0.ti, .slice tA ns.length tc, .slice Ao l.length co] [] [.int .i64 0, .int .i64 0, .int .i64 0, .int .i64 0, .int .i64 0, .int .i64 0, .int .i64 0, .int .i64 0, .int .i64 0, .slice none 0 0, .slice none 0 0] w9 rfl hz)
          have HT5 := Lib.hid (setCells_touch (S := fun k => k = w.heap.size) (a := w9) w.heap.size (fun _ => rfl) [.int .i64 m0.kd, .int .i64 m0.fr, .int .i64 m0.tt, .int .i64 m0.g, .int .i64 m0.nd, .int .i64 m0.tr, .int .i64 m0.lw, .int .i64 m0.co, .int .i64 m0.ti, .slice tA ns.length tc, .slice Ao l.length co] 0 w9 (Touch.refl _ _))
          have HYES : Hid (decM bs = some { m0 with os := l }) := Lib.hid (by
            rw [HXS.out (by first | rfl | trivial)]
            unfold finM
            rw [if_pos ⟨HST2.out, HMB.out⟩])
          clear hz hzM
          go_wp2_with fail
          change bodyPost _ _ _ _ _ (World.setCells _ w.heap.size 0 [.int .i64 m0.kd, .int .i64 m0.fr, .int .i64 m0.tt, .int .i64 m0.g, .int .i64 m0.nd, .int .i64 m0.tr, .int .i64 m0.lw, .int .i64 m0.co, .int .i64 m0.ti, .slice tA ns.length tc, .slice Ao l.length co])
          simp only [List.length_nil, List.nil_append] at HZ5
          generalize World.setCells _ w.heap.size 0 [.int .i64 m0.kd, .int .i64 m0.fr, .int .i64 m0.tt, .int .i64 m0.g, .int .i64 m0.nd, .int .i64 m0.tr, .int .i64 m0.lw, .int .i64 m0.co, .int .i64 m0.ti, .slice tA ns.length tc, .slice Ao l.length co] = W5 at *
          clear c0 c1 c2 c3 c4 c5 c6 c7 c8 c9 c10 f0 f1 f2 f3 f4 f5 f6 f7 f8 f9 f10
          clear d0 d1 d2 d3 d4 d5 d6 d7 d8 d9 d10
          have j0 := cell_of HZ5.out 0; have j1 := cell_of HZ5.out 1; have j2 := cell_of HZ5.out 2; have j3 := cell_of HZ5.out 3; have j4 := cell_of HZ5.out 4; have j5 := cell_of HZ5.out 5; have j6 := cell_of HZ5.out 6; have j7 := cell_of HZ5.out 7; have j8 := cell_of HZ5.out 8; have j9 := cell_of HZ5.out 9; have j10 := cell_of HZ5.out 10
          simp at j0 j1 j2 j3 j4 j5 j6 j7 j8 j9 j10
          refine bodyPost_ret (v := .tuple #[.agg #[.int .i64 m0.kd, .int .i64 m0.fr, .int .i64 m0.tt, .int .i64 m0.g, .int .i64 m0.nd, .int .i64 m0.tr, .int .i64 m0.lw, .int .i64 m0.co, .int .i64 m0.ti, .slice tA ns.length tc, .slice Ao l.length co], .int .i64 0]) (by simp [results, Tryz.results20, go_sem, j0, j1, j2, j3, j4, j5, j6, j7, j8, j9, j10]) rfl ?_
          refine ⟨HB9.out.trans (HT5.out.below (fun i e => by rw [e]; exact Nat.le_refl _) HB9.out.size), .inr ⟨_, _, HYES.out, rfl, fun W' hT' => ?_⟩⟩
          have htl := HM1.out.2
          have htn : m0.tl.length = ns.length := by rw [htl, List.length_map]
          refine ⟨tA, tc, Ao, co, by simp only [htn], ?_, ?_, HKL.out⟩
          · show NumsAt W' (.slice tA m0.tl.length tc) m0.tl
            rw [htn, htl]
            exact RowN.nums (B := Bt) ⟨(HRW9.out.1.1.touch HT5.out (fun b e hb => by have := (HRW9.out.1.2.1 b e).1; have := HRW.out.2; omega)).touch hT' (fun b e hb => by have := (HRW9.out.1.2.1 b e).1; have := HRW.out.2; omega), HRW9.out.1.2⟩ rfl
          · exact RowIs.ops ((HRW9.out.2.1.touch HT5.out (fun b e hb => by have := (HRW9.out.2.2.1 b e).1; have := HG3.out; omega)).touch hT' (fun b e hb => by have := (HRW9.out.2.2.1 b e).1; have := HG3.out; omega)) rfl
      · have hx0 : (x == 0) = false := by simpa [hst] using hx
        have hx1 : ¬ x = 0 := by simpa using hx0
        have hx2 : (x != 0) = true := by simpa using hx1
        have HSN := Lib.hid hst
        clear hx hO8 hst HEN
        have hz := HZ8.out
        have hzw := HZ8.out
        have c0 := cell_of hzw 0; have c1 := cell_of hzw 1; have c2 := cell_of hzw 2; have c3 := cell_of hzw 3; have c4 := cell_of hzw 4; have c5 := cell_of hzw 5; have c6 := cell_of hzw 6; have c7 := cell_of hzw 7; have c8 := cell_of hzw 8; have c9 := cell_of hzw 9; have c10 := cell_of hzw 10; have f0 := free0 hzw 0; have f1 := free0 hzw 1; have f2 := free0 hzw 2; have f3 := free0 hzw 3; have f4 := free0 hzw 4; have f5 := free0 hzw 5; have f6 := free0 hzw 6; have f7 := free0 hzw 7; have f8 := free0 hzw 8; have f9 := free0 hzw 9; have f10 := free0 hzw 10
        simp at c0 c1 c2 c3 c4 c5 c6 c7 c8 c9 c10
        have HZ5 := Lib.hid (setCells_at w.heap.size [.int .i64 0, .int .i64 0, .int .i64 0, .int .i64 0, .int .i64 0, .int .i64 0, .int .i64 0, .int .i64 0, .int .i64 0, .slice none 0 0, .slice none 0 0] [] [.int .i64 0, .int .i64 0, .int .i64 0, .int .i64 0, .int .i64 0, .int .i64 0, .int .i64 0, .int .i64 0, .int .i64 0, .slice none 0 0, .slice none 0 0] w8 rfl hz)
        have HT5 := Lib.hid (setCells_touch (S := fun k => k = w.heap.size) (a := w8) w.heap.size (fun _ => rfl) [.int .i64 0, .int .i64 0, .int .i64 0, .int .i64 0, .int .i64 0, .int .i64 0, .int .i64 0, .int .i64 0, .int .i64 0, .slice none 0 0, .slice none 0 0] 0 w8 (Touch.refl _ _))
        have HBE := Lib.hid (HB8.out)
        have HNO : Hid (decM bs = none) := Lib.hid (by rw [HXS.out (by first | rfl | trivial)]; unfold finM; rw [if_neg (fun h => HSN.out h.1)])
        clear hz hzw
        go_wp2_with fail
        change bodyPost _ _ _ _ _ (World.setCells _ w.heap.size 0 [.int .i64 0, .int .i64 0, .int .i64 0, .int .i64 0, .int .i64 0, .int .i64 0, .int .i64 0, .int .i64 0, .int .i64 0, .slice none 0 0, .slice none 0 0])
        simp only [List.length_nil, List.nil_append] at HZ5
        generalize World.setCells _ w.heap.size 0 [.int .i64 0, .int .i64 0, .int .i64 0, .int .i64 0, .int .i64 0, .int .i64 0, .int .i64 0, .int .i64 0, .int .i64 0, .slice none 0 0, .slice none 0 0] = W5 at *
        clear c0 c1 c2 c3 c4 c5 c6 c7 c8 c9 c10 f0 f1 f2 f3 f4 f5 f6 f7 f8 f9 f10
        have j0 := cell_of HZ5.out 0; have j1 := cell_of HZ5.out 1; have j2 := cell_of HZ5.out 2; have j3 := cell_of HZ5.out 3; have j4 := cell_of HZ5.out 4; have j5 := cell_of HZ5.out 5; have j6 := cell_of HZ5.out 6; have j7 := cell_of HZ5.out 7; have j8 := cell_of HZ5.out 8; have j9 := cell_of HZ5.out 9; have j10 := cell_of HZ5.out 10
        simp at j0 j1 j2 j3 j4 j5 j6 j7 j8 j9 j10
        refine bodyPost_ret (v := .tuple #[.agg #[.int .i64 0, .int .i64 0, .int .i64 0, .int .i64 0, .int .i64 0, .int .i64 0, .int .i64 0, .int .i64 0, .int .i64 0, .slice none 0 0, .slice none 0 0], .int .i64 6]) (by simp [results, Tryz.results20, go_sem, j0, j1, j2, j3, j4, j5, j6, j7, j8, j9, j10]) rfl ?_
        exact ⟨HBE.out.trans (HT5.out.below (fun i e => by rw [e]; exact Nat.le_refl _) HBE.out.size), .inl ⟨HNO.out, rfl⟩⟩
end Go.Proofs.YtmbonngjkgcijaaGreatDoor
