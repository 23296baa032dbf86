/- The document's own May of messages, at any message. The document's own Encode of operations (genmehf.py wrote it.) The document's own Encode of messages. (genmehg.py wrote it.) -/
import Derived.Test.YtabfbnpbgdlinaaGreatDoorZMehDA
import Derived.Test.YtabfbnpbgdlinaaGreatDoorZMecD
import Derived.Test.YtabfbnpbgdlinaaGreatDoorZOmrB
import Derived.Test.YtabfbnpbgdlinaaGreatDoorZMecE
import Derived.Test.YtabfbnpbgdlinaaGreatDoorZRcsA
import Derived.Test.YtabfbnpbgdlinaaGreatDoorZCrcF
set_option linter.unusedSimpArgs false
set_option linter.unusedVariables false
set_option linter.unnecessarySimpa false
namespace Go.Proofs.YtabfbnpbgdlinaaGreatDoor
open Go.RowKit Go.Shelf

set_option maxRecDepth 100000 in
set_option maxHeartbeats 4000000 in
theorem rMay_none {w : World} {v : Value} {m : MsgV} (h : MsgIs w v m) (hg : ¬ ((1 ≤ m.kd ∧ m.kd ≤ 4) ∨ (11 ≤ m.kd ∧ m.kd ≤ 16))) :
    Calls Tryz.prog 78 #[v] w fun e w' => e = .returned (.bool (mayM m)) ∧ Below w.heap.size w w' := by
  obtain ⟨tA, tc, oA, oc, rfl, ht, ho, hk⟩ := h
  obtain ⟨kd, fr, tt, g, nd, tr, lw, co, ti, tl, os⟩ := m
  simp only at hg ⊢
  have HHS := Lib.hid (fun W => rHas_none hg W)
  have HE : Hid (mayM ⟨kd, fr, tt, g, nd, tr, lw, co, ti, tl, os⟩ = false) := Lib.hid (by
    unfold mayM
    simp only
    rw [(not_kind hg).1]
    rfl)
  have HB := Lib.hid (below_new (w := w) (.cells #[.int .i64 kd, .int .i64 fr, .int .i64 tt, .int .i64 g, .int .i64 nd, .int .i64 tr, .int .i64 lw, .int .i64 co, .int .i64 ti, .slice tA tl.length tc, .slice oA os.length oc] 37))
  clear hg ht ho hk
  go_enter Tryz.func78, Tryz.ntmps78
  go_wp2_with fail
  refine (HHS.out _).mono ?_
  rintro e w1 ⟨rfl, rfl⟩
  go_wp2_with fail
  go_ret
  exact ⟨ret_bool HE.out.symm, HB.out⟩
theorem rMay_any {w : World} {v : Value} {m : MsgV} (h : MsgIs w v m) (hti : m.ti ≤ 9223372036854775807) :
    Calls Tryz.prog 78 #[v] w fun e w' => e = .returned (.bool (mayM m)) ∧ Below w.heap.size w w' := by
  by_cases hg : (1 ≤ m.kd ∧ m.kd ≤ 4) ∨ (11 ≤ m.kd ∧ m.kd ≤ 16)
  · have hcs : (m.kd = 1 ∨ m.kd = 4) ∨ m.kd = 2 ∨ m.kd = 3 ∨ m.kd = 11 ∨ (m.kd = 12 ∨ m.kd = 14) ∨ (m.kd = 13 ∨ m.kd = 15 ∨ m.kd = 16) := by omega
    rcases hcs with hc | hc | hc | hc | hc | hc
    · exact rMay_A h (by simpa using hc) hti
    · exact rMay_B h (by simpa using hc) hti
    · exact rMay_C h (by simpa using hc) hti
    · exact rMay_D h (by simpa using hc) hti
    · exact rMay_E h (by simpa using hc) hti
    · exact rMay_F h (by simpa using hc) hti
  · exact rMay_none h hg
end Go.Proofs.YtabfbnpbgdlinaaGreatDoor

namespace Go.Proofs.YtabfbnpbgdlinaaGreatDoor
open Go.RowKit Go.Shelf

theorem OwnBy.ne_box {w : World} {b : Nat} {v : Value} {l : List UInt8} (h : OwnBy w b v l) (hl : l ≠ []) {k : Nat} {z : Int} (hc : w.cell? ⟨k, 0, none⟩ = some (.int .i64 z)) : ∀ g, v.ownBlock = some g → g ≠ k := fun g e e2 => by
  subst e2
  rcases h with ⟨rfl, _⟩ | ⟨g', cap, rfl, h⟩
  · cases e
  · cases e
    have h0 : 0 < l.length := List.length_pos_iff.2 hl
    have := h.holds 0 l[0] (List.getElem?_eq_getElem h0)
    rw [this] at hc
    cases hc
set_option maxRecDepth 100000 in
set_option maxHeartbeats 8000000 in
theorem ropsenc_any {w : World} {v : Value} {l : List OpV} (h : OpsAt w v l) (hx : OpsOk l) (hl : l.length ≤ 1000) :
    Calls Tryz.prog 127 #[v] w fun e w' => ∃ v', e = .returned v' ∧ OwnBy w' w.heap.size v' (opsB l) ∧ Below w.heap.size w w' := by
  obtain ⟨A, cap, rfl, hc1, hc2, hcell⟩ := h.form
  unfold maxLen at hc2
  have HC := Lib.hid hcell
  have HX := Lib.hid hx
  obtain ⟨m, hm⟩ : ∃ m, l.length = m := ⟨_, rfl⟩
  have HM := Lib.hid hm
  rw [hm] at hc1 hl ⊢
  have hmI : (m : Int) ≤ 1000 := by omega
  have hmw : IntKind.u64.wrap (m : Int) = (m : Int) := by rw [IntKind.wrap_u64]; omega
  have HNT := Lib.hid (fnat_any m (by omega) w)
  have HN9 := Lib.hid (natB_le m (by omega))
  clear hcell hx hm h
  go_enter Tryz.func127, Tryz.ntmps127
  go_wp2_with fail
  refine (HNT.out).mono ?_
  rintro e w1 ⟨v1, rfl, ho1, hb1⟩
  have HO1 := Lib.hid ho1
  have HB1 := Lib.hid hb1
  obtain ⟨A1, c1, rfl⟩ := ho1.len
  clear ho1 hb1 HNT hmw
  go_wp2_with fail
  go_loopw [3, 12] (fun bv iv wr => ∃ (i : Nat) (B : List UInt8), i ≤ m ∧ iv = .int .i64 i ∧ B = natB m ++ (l.take i).flatMap opB ∧ B.length ≤ 9 + i * 1100 ∧ OwnBy wr w.heap.size bv B ∧ Below w.heap.size w wr) (fun _ iv _ => m - (intOf iv).toNat)
  case atStart => exact ⟨0, _, Nat.zero_le _, rfl, by simp, by simpa using HN9.out, HO1.out, HB1.out⟩
  case round =>
    obtain ⟨i, B, hi, rfl, hB, hBl, ho, hbw⟩ := hrel
    by_cases hlt : i < m
    · obtain ⟨o, hoi⟩ : ∃ o, l[i]? = some o := ⟨_, List.getElem?_eq_getElem (by rw [HM.out]; exact hlt)⟩
      obtain ⟨a, rfl, q1, k0, k1, k2, k3⟩ := HC.out i o hoi
      have hblk : (a.add (i * 4)).block < w.heap.size := by rw [add_block]; exact q1
      replace k0 := (hbw.cell hblk).trans k0
      replace k1 := (hbw.cell (p := ⟨(a.add (i * 4)).block, (a.add (i * 4)).off + 1, none⟩) hblk).trans k1
      replace k2 := (hbw.cell (p := ⟨(a.add (i * 4)).block, (a.add (i * 4)).off + 2, none⟩) hblk).trans k2
      replace k3 := (hbw.cell (p := ⟨(a.add (i * 4)).block, (a.add (i * 4)).off + 3, none⟩) hblk).trans k3
      obtain ⟨g0, g1, g2⟩ := HX.out o (List.mem_of_getElem? hoi)
      have hol := opB_le' g1 g0 g2
      have HOL := Lib.hid (show B.length + (opB o).length ≤ 1073741824 ∧ natB m ++ (l.take (i + 1)).flatMap opB = B ++ opB o ∧ (B ++ opB o).length ≤ 9 + (i + 1) * 1100 from ⟨by omega, by rw [flat_snocM hoi, hB, List.append_assoc], by rw [List.length_append]; omega⟩)
      obtain ⟨kd, s, n, lo⟩ := o
      simp only at k0 k1 k2 k3 g0 g1
      obtain ⟨kn, rfl⟩ : ∃ kn : Nat, kd = kn := ⟨kd.toNat, by omega⟩
      have hkn : kn ≤ 9223372036854775807 := by have := g2.k.2; simp only at this; omega
      have HKW : IntKind.u64.wrap (kn : Int) = (kn : Int) := by rw [IntKind.wrap_u64]; omega
      have hW1 := below_new (w := wr) (.cells #[.int .i64 kn, .string s, .int .i64 n, .int .i64 lo] 153)
      have hat := alloc_at wr (.cells #[.int .i64 kn, .string s, .int .i64 n, .int .i64 lo] 153)
      have HBW := Lib.hid (hbw.trans (hW1.mono hbw.size))
      have HOW := Lib.hid (ho.below hW1)
      have HNK := Lib.hid (fun W => fnat_any kn (by omega) W)
      have HST := Lib.hid (fun W => fstr_any s (by omega) W)
      have HNU := Lib.hid (fun W => fnum_any n g2.n.1 g2.n.2 W)
      have HLO := Lib.hid (fun W => fnum_any lo g2.lo.1 g2.lo.2 W)
      have HEQ : Hid (B ++ opB ⟨kn, s, n, lo⟩ = (((B ++ natB kn) ++ strB s) ++ natB (numN n)) ++ natB (numN lo)) := Lib.hid (by unfold opB; simp only [Int.toNat_natCast, List.append_assoc])
      have HLE : Hid (B.length + (natB kn).length + (strB s).length + (natB (numN n)).length + (natB (numN lo)).length ≤ 1073741824) := Lib.hid (by
        have := HOL.out.1
        unfold opB at this
        simp only [List.length_append, Int.toNat_natCast] at this
        omega)
      obtain ⟨Ab, cb, rfl⟩ := ho.len
      have hiI : (i : Int) < (m : Int) := by omega
      have HLT := Lib.hid hlt
      have HBN : Hid (B ≠ []) := Lib.hid (by rw [hB]; unfold natB; simp)
      have HAT := Lib.hid hat
      clear hoi q1 hblk g0 g1 g2 hol hB hBl ho hbw hlt hi hW1 hat hkn
      go_wp2_with fail
      refine (HNK.out _).mono ?_
      rintro e wa1 ⟨va1, rfl, ho, hb⟩
      have HOL1 := Lib.hid (HOW.out.below hb)
      have HSR1 := Lib.hid (src_any ho)
      have HBa1 := Lib.hid (HBW.out.trans (hb.mono HBW.out.size))
      have HAa1 := Lib.hid ((hb.block wr.heap.size (heap_lt HAT.out)).trans HAT.out)
      obtain ⟨Aa1, ca1, rfl⟩ := ho.len
      have HLn1 : Hid (B.length + (natB kn).length ≤ 1073741824) := Lib.hid (by have := HLE.out; omega)
      clear ho hb k0 k1 k2 k3
      go_wp2_with (at_builtin; refine wpList_append_by _ rfl _ _ 54 rfl w.heap.size B (natB kn) _ _ rfl rfl HOL1.out HSR1.out HLn1.out HBa1.out.size ?_)
      intro vb1 wb1 ho hg
      obtain ⟨C1, hC⟩ : ∃ C, C = B ++ natB kn := ⟨_, rfl⟩
      rw [← hC] at ho
      have HC1 := Lib.hid hC
      clear hC
      have HOx1 := Lib.hid ho
      obtain ⟨Av1, cv1, rfl⟩ := ho.len
      have HBx1 := Lib.hid (HBa1.out.grown hg HBa1.out.size HOL1.out.rows)
      have hAx := (hg.block wr.heap.size (heap_lt HAa1.out) (fun e => HOL1.out.ne_box HBN.out (cell_of HAa1.out 0) _ e.symm rfl)).trans HAa1.out
      have HBN1 : Hid (C1 ≠ []) := Lib.hid (by rw [HC1.out]; simp [HBN.out])
      have HAx1 := Lib.hid hAx
      have z1 := cell_of hAx 1
      have z2 := cell_of hAx 2
      have z3 := cell_of hAx 3
      simp at z1 z2 z3
      clear hAx
      clear ho hg
      go_wp2_with fail
      refine (HST.out _).mono ?_
      rintro e wa2 ⟨va2, rfl, ho, hb⟩
      have HOL2 := Lib.hid (HOx1.out.below hb)
      have HSR2 := Lib.hid (src_any ho)
      have HBa2 := Lib.hid (HBx1.out.trans (hb.mono HBx1.out.size))
      have HAa2 := Lib.hid ((hb.block wr.heap.size (heap_lt HAx1.out)).trans HAx1.out)
      obtain ⟨Aa2, ca2, rfl⟩ := ho.len
      have HLn2 : Hid (C1.length + (strB s).length ≤ 1073741824) := Lib.hid (by have := HLE.out; rw [HC1.out]; simp only [List.length_append]; omega)
      clear ho hb z1 z2 z3
      go_wp2_with (at_builtin; refine wpList_append_by _ rfl _ _ 54 rfl w.heap.size C1 (strB s) _ _ rfl rfl HOL2.out HSR2.out HLn2.out HBa2.out.size ?_)
      intro vb2 wb2 ho hg
      obtain ⟨C2, hC⟩ : ∃ C, C = C1 ++ strB s := ⟨_, rfl⟩
      rw [← hC] at ho
      have HC2 := Lib.hid hC
      clear hC
      have HOx2 := Lib.hid ho
      obtain ⟨Av2, cv2, rfl⟩ := ho.len
      have HBx2 := Lib.hid (HBa2.out.grown hg HBa2.out.size HOL2.out.rows)
      have hAx := (hg.block wr.heap.size (heap_lt HAa2.out) (fun e => HOL2.out.ne_box HBN1.out (cell_of HAa2.out 0) _ e.symm rfl)).trans HAa2.out
      have HBN2 : Hid (C2 ≠ []) := Lib.hid (by rw [HC2.out]; simp [HBN1.out])
      have HAx2 := Lib.hid hAx
      have z1 := cell_of hAx 1
      have z2 := cell_of hAx 2
      have z3 := cell_of hAx 3
      simp at z1 z2 z3
      clear hAx
      clear ho hg
      go_wp2_with fail
      refine (HNU.out _).mono ?_
      rintro e wa3 ⟨va3, rfl, ho, hb⟩
      have HOL3 := Lib.hid (HOx2.out.below hb)
      have HSR3 := Lib.hid (src_any ho)
      have HBa3 := Lib.hid (HBx2.out.trans (hb.mono HBx2.out.size))
      have HAa3 := Lib.hid ((hb.block wr.heap.size (heap_lt HAx2.out)).trans HAx2.out)
      obtain ⟨Aa3, ca3, rfl⟩ := ho.len
      have HLn3 : Hid (C2.length + (natB (numN n)).length ≤ 1073741824) := Lib.hid (by have := HLE.out; rw [HC2.out, HC1.out]; simp only [List.length_append]; omega)
      clear ho hb z1 z2 z3
      go_wp2_with (at_builtin; refine wpList_append_by _ rfl _ _ 54 rfl w.heap.size C2 (natB (numN n)) _ _ rfl rfl HOL3.out HSR3.out HLn3.out HBa3.out.size ?_)
      intro vb3 wb3 ho hg
      obtain ⟨C3, hC⟩ : ∃ C, C = C2 ++ natB (numN n) := ⟨_, rfl⟩
      rw [← hC] at ho
      have HC3 := Lib.hid hC
      clear hC
      have HOx3 := Lib.hid ho
      obtain ⟨Av3, cv3, rfl⟩ := ho.len
      have HBx3 := Lib.hid (HBa3.out.grown hg HBa3.out.size HOL3.out.rows)
      have hAx := (hg.block wr.heap.size (heap_lt HAa3.out) (fun e => HOL3.out.ne_box HBN2.out (cell_of HAa3.out 0) _ e.symm rfl)).trans HAa3.out
      have HBN3 : Hid (C3 ≠ []) := Lib.hid (by rw [HC3.out]; simp [HBN2.out])
      have HAx3 := Lib.hid hAx
      have z1 := cell_of hAx 1
      have z2 := cell_of hAx 2
      have z3 := cell_of hAx 3
      simp at z1 z2 z3
      clear hAx
      clear ho hg
      go_wp2_with fail
      refine (HLO.out _).mono ?_
      rintro e wa4 ⟨va4, rfl, ho, hb⟩
      have HOL4 := Lib.hid (HOx3.out.below hb)
      have HSR4 := Lib.hid (src_any ho)
      have HBa4 := Lib.hid (HBx3.out.trans (hb.mono HBx3.out.size))
      have HAa4 := Lib.hid ((hb.block wr.heap.size (heap_lt HAx3.out)).trans HAx3.out)
      obtain ⟨Aa4, ca4, rfl⟩ := ho.len
      have HLn4 : Hid (C3.length + (natB (numN lo)).length ≤ 1073741824) := Lib.hid (by have := HLE.out; rw [HC3.out, HC2.out, HC1.out]; simp only [List.length_append]; omega)
      clear ho hb z1 z2 z3
      go_wp2_with (at_builtin; refine wpList_append_by _ rfl _ _ 54 rfl w.heap.size C3 (natB (numN lo)) _ _ rfl rfl HOL4.out HSR4.out HLn4.out HBa4.out.size ?_)
      intro vb4 wb4 ho hg
      obtain ⟨C4, hC⟩ : ∃ C, C = C3 ++ natB (numN lo) := ⟨_, rfl⟩
      rw [← hC] at ho
      have HC4 := Lib.hid hC
      clear hC
      have HOx4 := Lib.hid ho
      obtain ⟨Av4, cv4, rfl⟩ := ho.len
      have HBx4 := Lib.hid (HBa4.out.grown hg HBa4.out.size HOL4.out.rows)
      clear ho hg
      go_wp2_with fail
      go_roundw
      case rel => exact ⟨i + 1, _, HLT.out, by go_num, HOL.out.2.1.symm, HOL.out.2.2, by rw [HEQ.out, ← HC1.out, ← HC2.out, ← HC3.out, ← HC4.out]; exact HOx4.out, HBx4.out⟩
      case measure => have := HLT.out; simp [intOf]; omega
    · obtain rfl : i = m := by omega
      rw [List.take_of_length_le (by rw [HM.out]; omega)] at hB
      have en : natB i ++ l.flatMap opB = opsB l := by unfold opsB; rw [HM.out]
      rw [en] at hB
      subst hB
      have HO := Lib.hid ho
      have HB := Lib.hid hbw
      obtain ⟨Ab, cb, rfl⟩ := ho.len
      clear ho hBl hbw en
      go_wp2_with fail
      go_ret
      exact ⟨_, rfl, HO.out, HB.out⟩
end Go.Proofs.YtabfbnpbgdlinaaGreatDoor

namespace Go.Proofs.YtabfbnpbgdlinaaGreatDoor
open Go.RowKit Go.Shelf

set_option maxRecDepth 100000 in
set_option maxHeartbeats 4000000 in
theorem rEncode_not {w : World} {v : Value} {m : MsgV} (h : MsgIs w v m) (hti : m.ti ≤ 9223372036854775807) (hm : mayM m = false) :
    Calls Tryz.prog 89 #[v] w fun e w' => e = .returned (.slice none 0 0) ∧ Below w.heap.size w w' := by
  have HMY := Lib.hid (fun W (hW : Below w.heap.size w W) => rMay_any (h.below hW) hti)
  rw [hm] at HMY
  obtain ⟨tA, tc, oA, oc, rfl, _⟩ := h
  have HB := Lib.hid (below_new (w := w) (.cells (msgCells m tA tc oA oc) 37))
  unfold msgCells at HB
  clear hti hm
  obtain ⟨kd, fr, tt, g, nd, tr, lw, co, ti, tl, os⟩ := m
  simp only at HMY HB ⊢
  go_enter Tryz.func89, Tryz.ntmps89
  go_wp2_with fail
  refine (HMY.out _ HB.out).mono ?_
  rintro e w1 ⟨rfl, hb1⟩
  have HB1 := Lib.hid (HB.out.trans (hb1.mono HB.out.size))
  clear hb1
  go_wp2_with fail
  go_ret
  exact ⟨rfl, HB1.out⟩
set_option maxRecDepth 100000 in
set_option maxHeartbeats 8000000 in
theorem rEncode_yes {w : World} {v : Value} {m : MsgV} (h : MsgIs w v m) (hm : mayM m = true) (hi : MsgIn m) :
    Calls Tryz.prog 89 #[v] w fun e w' => ∃ v', e = .returned v' ∧ OwnBy w' w.heap.size v' (encM m) ∧ Below w.heap.size w w' := by
  have F := mayM_fits hm
  have HMY := Lib.hid (fun W (hW : Below w.heap.size w W) => rMay_any (h.below hW) F.ti.2)
  rw [hm] at HMY
  have HOK := mayM_ok hm hi
  have hlen := bodyM_le hm hi
  obtain ⟨tA, tc, oA, oc, rfl, ht, ho, hk⟩ := h
  obtain ⟨k0, k1, k2, k3, k4, k5, k6, k7, k8, k9, k10, k11⟩ := F
  have hob := opsB_le k10 (fun o h => ⟨k11 o h, hi.ops o h⟩)
  have hW0 := below_new (w := w) (.cells (msgCells m tA tc oA oc) 37)
  have hat := alloc_at w (.cells (msgCells m tA tc oA oc) 37)
  have HB0 := Lib.hid hW0
  have HSW := Lib.hid (fun W (hW : Below (w.alloc (.cells (msgCells m tA tc oA oc) 37)).heap.size (w.alloc (.cells (msgCells m tA tc oA oc) 37)) W) => boxM_of hat hW)
  unfold msgCells BoxM at HSW
  unfold msgCells at HB0
  obtain ⟨kd, fr, tt, g, nd, tr, lw, co, ti, tl, os⟩ := m
  simp only at k0 k1 k2 k3 k4 k5 k6 k7 k8 k9 k10 k11 ht ho hk HMY HSW HB0 hob HOK ⊢
  obtain ⟨tn, rfl⟩ : ∃ n : Nat, ti = n := ⟨ti.toNat, by omega⟩
  obtain ⟨tln, htln⟩ : ∃ n, tl.length = n := ⟨_, rfl⟩
  obtain ⟨osn, hosn⟩ : ∃ n, os.length = n := ⟨_, rfl⟩
  obtain ⟨A9, c9, e9, hle9, hmx9, hT9⟩ := ht
  injection e9 with e91 e92 e93
  subst e91 e93
  have HTC := Lib.hid hT9
  have HTI := Lib.hid hi.told
  have HTN := Lib.hid htln
  have htl8 : tln ≤ 8 := by omega
  have htc : tln ≤ tc := by rw [← htln]; exact hle9
  have HHD : Hid (∀ x ∈ [kd, fr, tt, g, nd, tr, lw, co], 0 ≤ x ∧ x ≤ 9223372036854775807) := Lib.hid (fun x hx => by simp only [List.mem_cons, List.not_mem_nil, or_false] at hx; omega)
  have HNT := Lib.hid (fun W => fnat_any tn (by omega) W)
  have HNL := Lib.hid (fun W => fnat_any tln (by omega) W)
  have HOE := Lib.hid (fun W (hW : Below w.heap.size w W) => ropsenc_any (ho.below hW) HOK (by omega))
  have HST := Lib.hid (fun W => fstr_any ⟨(opsB os).toArray⟩ (by rw [size_mk]; omega) W)
  have htn9 := natB_le tn (by omega)
  have hln9 := natB_le tln (by omega)
  have HL9 := Lib.hid (And.intro htn9 hln9)
  have HBD : Hid (bodyM ⟨kd, fr, tt, g, nd, tr, lw, co, tn, tl, os⟩ = (((natsB [kd, fr, tt, g, nd, tr, lw, co] ++ natB tn) ++ natB tln) ++ tl.flatMap fun x => natB (numN x)) ++ strB ⟨(opsB os).toArray⟩ ∧ (bodyM ⟨kd, fr, tt, g, nd, tr, lw, co, tn, tl, os⟩).length ≤ 1000) := Lib.hid (by
    refine ⟨?_, hlen⟩
    unfold bodyM numsB
    rw [htln]
    simp only [Int.toNat_natCast, List.append_assoc])
  have HS9 : Hid ((strB ⟨(opsB os).toArray⟩).length ≤ 1000) := Lib.hid (by
    have h1 := HBD.out.1
    have h2 := HBD.out.2
    rw [h1, List.length_append] at h2
    omega)
  have htw : IntKind.u64.wrap (tn : Int) = (tn : Int) := by rw [IntKind.wrap_u64]; omega
  have hlw : IntKind.u64.wrap (tln : Int) = (tln : Int) := by rw [IntKind.wrap_u64]; omega
  rw [htln] at HSW HMY HB0 ⊢
  rw [hosn] at HSW HMY HB0 HOE ⊢
  clear hm hi ho hk hlen hob HOK k0 k1 k2 k3 k4 k5 k6 k7 k8 k9 k10 k11 hW0 hat htln hosn hT9 hle9 hmx9 htn9 hln9 e92
  go_enter Tryz.func89, Tryz.ntmps89
  go_wp2_with fail
  refine (HMY.out _ HB0.out).mono ?_
  rintro e w1 ⟨rfl, hb1⟩
  have hb2 := below_new (w := w1) (.cells #[.int .i64 kd, .int .i64 fr, .int .i64 tt, .int .i64 g, .int .i64 nd, .int .i64 tr, .int .i64 lw, .int .i64 co] 3)
  have hat2 := alloc_at w1 (.cells #[.int .i64 kd, .int .i64 fr, .int .i64 tt, .int .i64 g, .int .i64 nd, .int .i64 tr, .int .i64 lw, .int .i64 co] 3)
  obtain ⟨w2, hw2⟩ : ∃ W, W = w1.alloc (.cells #[.int .i64 kd, .int .i64 fr, .int .i64 tt, .int .i64 g, .int .i64 nd, .int .i64 tr, .int .i64 lw, .int .i64 co] 3) := ⟨_, rfl⟩
  rw [← hw2] at hb2 hat2
  have HW2 := Lib.hid hw2
  obtain ⟨c0, c1, c2, c3, c4, c5, c6, c7, _, _, _⟩ := HSW.out w1 hb1
  have HBX := Lib.hid (fun W (hW : Below w2.heap.size w2 W) => HSW.out W (hb1.trans ((hb2.trans (hW.mono hb2.size)).mono hb1.size)))
  have HBB := Lib.hid (HB0.out.trans ((hb1.trans (hb2.mono hb1.size)).mono HB0.out.size))
  obtain ⟨hds, hhd⟩ : ∃ l, l = [kd, fr, tt, g, nd, tr, lw, co] := ⟨_, rfl⟩
  have HH8 : Hid (hds.length = 8) := Lib.hid (by rw [hhd]; rfl)
  have HLT8 := Lib.hid (heap_lt hat2)
  have HC : Hid (∀ (i : Nat) (x : Int), hds[i]? = some x → w2.cell? ⟨w1.heap.size, i, none⟩ = some (.int .i64 x)) := Lib.hid (fun i x hx => (cell_of hat2 i).trans (by
    have e : (#[.int .i64 kd, .int .i64 fr, .int .i64 tt, .int .i64 g, .int .i64 nd, .int .i64 tr, .int .i64 lw, .int .i64 co] : Array Value) = (hds.map fun x => Value.int .i64 x).toArray := by rw [hhd]; rfl
    rw [e]
    simp [hx]))
  rw [← hhd] at HHD HBD
  clear hb1 hb2 hat2 hw2 hhd HMY HB0
  go_wp2_with fail
  rw [← HW2.out]
  clear c0 c1 c2 c3 c4 c5 c6 c7
  go_loopw [3, 29] (fun bv iv wr => ∃ (i : Nat) (B : List UInt8), i ≤ 8 ∧ iv = .int .i64 i ∧ B = natsB (hds.take i) ∧ B.length ≤ i * 9 ∧ OwnBy wr w2.heap.size bv B ∧ Below w2.heap.size w2 wr) (fun _ iv _ => 8 - (intOf iv).toNat)
  case atStart => exact ⟨0, [], by omega, rfl, rfl, by simp, .inl ⟨rfl, rfl⟩, Below.refl _ _⟩
  case round =>
    obtain ⟨i, B, hi, rfl, hB, hBl, ho, hbw⟩ := hrel
    by_cases hlt : i < 8
    · obtain ⟨x, hx⟩ : ∃ x, hds[i]? = some x := ⟨_, List.getElem?_eq_getElem (by rw [HH8.out]; exact hlt)⟩
      have hx2 := HHD.out x (List.mem_of_getElem? hx)
      obtain ⟨xn, rfl⟩ : ∃ n : Nat, x = n := ⟨x.toNat, by omega⟩
      have k0 : wr.cell? ⟨w1.heap.size, i, none⟩ = some (.int .i64 (xn : Int)) := (hbw.cell (p := ⟨w1.heap.size, i, none⟩) HLT8.out).trans (HC.out i _ hx)
      have hxw : IntKind.u64.wrap (xn : Int) = (xn : Int) := by rw [IntKind.wrap_u64]; omega
      have HNX := Lib.hid (fun W => fnat_any xn (by omega) W)
      have hn9 := natB_le xn (by omega)
      have HTK : Hid (B ++ natB xn = natsB (hds.take (i + 1)) ∧ (B ++ natB xn).length ≤ (i + 1) * 9) := Lib.hid ⟨by unfold natsB at hB ⊢; rw [flat_snocM hx, hB, Int.toNat_natCast], by rw [List.length_append]; omega⟩
      have HLB : Hid (B.length + (natB xn).length ≤ 1073741824) := Lib.hid (by omega)
      have HO := Lib.hid ho
      have HB := Lib.hid hbw
      have HLT := Lib.hid hlt
      obtain ⟨Ab, cb, rfl⟩ := ho.len
      have hiI : (i : Int) < 8 := by omega
      clear hx hx2 hn9 hB hBl ho hbw hlt hi
      go_wp2_with fail
      refine (HNX.out _).mono ?_
      rintro e wa1 ⟨va1, rfl, ho, hb⟩
      have HOL1 := Lib.hid (HO.out.below hb)
      have HSR1 := Lib.hid (src_any ho)
      have HBa1 := Lib.hid (HB.out.trans (hb.mono HB.out.size))
      obtain ⟨Aa1, ca1, rfl⟩ := ho.len
      have HLn1 : Hid (B.length + (natB xn).length ≤ 1073741824) := Lib.hid (by exact HLB.out)
      clear ho hb k0
      go_wp2_with (at_builtin; refine wpList_append_by _ rfl _ _ 54 rfl w2.heap.size B (natB xn) _ _ rfl rfl HOL1.out HSR1.out HLn1.out HBa1.out.size ?_)
      intro vb1 wb1 ho hg
      obtain ⟨C1, hC⟩ : ∃ C, C = B ++ natB xn := ⟨_, rfl⟩
      rw [← hC] at ho
      have HC1 := Lib.hid hC
      clear hC
      have HOx1 := Lib.hid ho
      obtain ⟨Av1, cv1, rfl⟩ := ho.len
      have HBx1 := Lib.hid (HBa1.out.grown hg HBa1.out.size HOL1.out.rows)
      clear ho hg
      go_wp2_with fail
      go_roundw
      case rel => exact ⟨i + 1, C1, HLT.out, by go_num, by rw [HC1.out]; exact HTK.out.1, by rw [HC1.out]; exact HTK.out.2, HOx1.out, HBx1.out⟩
      case measure => have := HLT.out; simp [intOf]; omega
    · obtain rfl : i = 8 := by omega
      rw [List.take_of_length_le (by rw [HH8.out]; omega)] at hB
      have HEB := Lib.hid hB
      have HBL := Lib.hid hBl
      have HO := Lib.hid ho
      have HB := Lib.hid hbw
      obtain ⟨Ab, cb, rfl⟩ := ho.len
      obtain ⟨_, _, _, _, _, _, _, _, c8, c9, _⟩ := HBX.out _ hbw
      clear hB hBl ho hbw hlt hi
      go_wp2_with fail
      refine (HNT.out _).mono ?_
      rintro e wa2 ⟨va2, rfl, ho, hb⟩
      have HOL2 := Lib.hid (HO.out.below hb)
      have HSR2 := Lib.hid (src_any ho)
      have HBa2 := Lib.hid (HB.out.trans (hb.mono HB.out.size))
      obtain ⟨Aa2, ca2, rfl⟩ := ho.len
      have HLn2 : Hid (B.length + (natB tn).length ≤ 1073741824) := Lib.hid (by have := HBL.out; have := HL9.out.1; omega)
      clear ho hb c8 c9
      go_wp2_with (at_builtin; refine wpList_append_by _ rfl _ _ 54 rfl w2.heap.size B (natB tn) _ _ rfl rfl HOL2.out HSR2.out HLn2.out HBa2.out.size ?_)
      intro vb2 wb2 ho hg
      obtain ⟨C2, hC⟩ : ∃ C, C = B ++ natB tn := ⟨_, rfl⟩
      rw [← hC] at ho
      have HC2 := Lib.hid hC
      clear hC
      have HOx2 := Lib.hid ho
      obtain ⟨Av2, cv2, rfl⟩ := ho.len
      have HBx2 := Lib.hid (HBa2.out.grown hg HBa2.out.size HOL2.out.rows)
      clear ho hg
      obtain ⟨_, _, _, _, _, _, _, _, _, c9, _⟩ := HBX.out _ HBx2.out
      go_wp2_with fail
      refine (HNL.out _).mono ?_
      rintro e wa3 ⟨va3, rfl, ho, hb⟩
      have HOL3 := Lib.hid (HOx2.out.below hb)
      have HSR3 := Lib.hid (src_any ho)
      have HBa3 := Lib.hid (HBx2.out.trans (hb.mono HBx2.out.size))
      obtain ⟨Aa3, ca3, rfl⟩ := ho.len
      have HLn3 : Hid (C2.length + (natB tln).length ≤ 1073741824) := Lib.hid (by have := HBL.out; have := HL9.out; rw [HC2.out, List.length_append]; omega)
      clear ho hb c9
      go_wp2_with (at_builtin; refine wpList_append_by _ rfl _ _ 54 rfl w2.heap.size C2 (natB tln) _ _ rfl rfl HOL3.out HSR3.out HLn3.out HBa3.out.size ?_)
      intro vb3 wb3 ho hg
      obtain ⟨C3, hC⟩ : ∃ C, C = C2 ++ natB tln := ⟨_, rfl⟩
      rw [← hC] at ho
      have HC3 := Lib.hid hC
      clear hC
      have HOx3 := Lib.hid ho
      obtain ⟨Av3, cv3, rfl⟩ := ho.len
      have HBx3 := Lib.hid (HBa3.out.grown hg HBa3.out.size HOL3.out.rows)
      clear ho hg
      have HL3 : Hid (C3.length ≤ 90) := Lib.hid (by have := HBL.out; have := HL9.out; rw [HC3.out, HC2.out, List.length_append, List.length_append]; omega)
      obtain ⟨_, _, _, _, _, _, _, _, _, c9, _⟩ := HBX.out _ HBx3.out
      go_wp2_with fail
      go_loopw [3, 55] (fun bv iv wr => ∃ (i : Nat) (B : List UInt8), i ≤ tln ∧ iv = .int .i64 i ∧ B = C3 ++ (tl.take i).flatMap (fun x => natB (numN x)) ∧ B.length ≤ 90 + i * 9 ∧ OwnBy wr w2.heap.size bv B ∧ Below w2.heap.size w2 wr) (fun _ iv _ => tln - (intOf iv).toNat)
      case atStart => exact ⟨0, C3, Nat.zero_le _, rfl, by simp, by have := HL3.out; omega, HOx3.out, HBx3.out⟩
      case round =>
        obtain ⟨i, D, hi, rfl, hB, hBl, ho, hbw⟩ := hrel
        by_cases hlt : i < tln
        · obtain ⟨x, hx⟩ : ∃ x, tl[i]? = some x := ⟨_, List.getElem?_eq_getElem (by rw [HTN.out]; exact hlt)⟩
          have hx2 := HTI.out x (List.mem_of_getElem? hx)
          obtain ⟨a, rfl, q1, k0⟩ := HTC.out i x hx
          replace k0 := ((HBB.out.trans (hbw.mono HBB.out.size)).cell (p := a.add i) (by rw [add_block]; exact q1)).trans k0
          have HNX := Lib.hid (fun W => fnum_any x hx2.1 hx2.2 W)
          have hn9 := natB_le _ (numN_le' hx2.1 hx2.2)
          have HTK : Hid (D ++ natB (numN x) = C3 ++ (tl.take (i + 1)).flatMap (fun x => natB (numN x)) ∧ (D ++ natB (numN x)).length ≤ 90 + (i + 1) * 9) := Lib.hid ⟨by rw [flat_snocM hx, hB, List.append_assoc], by rw [List.length_append]; omega⟩
          have HLB : Hid (D.length + (natB (numN x)).length ≤ 1073741824) := Lib.hid (by omega)
          have HO := Lib.hid ho
          have HB := Lib.hid hbw
          have HLT := Lib.hid hlt
          obtain ⟨Ab, cb, rfl⟩ := ho.len
          have hiI : (i : Int) < (tln : Int) := by omega
          clear hx hx2 q1 hn9 hB hBl ho hbw hlt hi
          go_wp2_with fail
          refine (HNX.out _).mono ?_
          rintro e wa4 ⟨va4, rfl, ho, hb⟩
          have HOL4 := Lib.hid (HO.out.below hb)
          have HSR4 := Lib.hid (src_any ho)
          have HBa4 := Lib.hid (HB.out.trans (hb.mono HB.out.size))
          obtain ⟨Aa4, ca4, rfl⟩ := ho.len
          have HLn4 : Hid (D.length + (natB (numN x)).length ≤ 1073741824) := Lib.hid (by exact HLB.out)
          clear ho hb k0
          go_wp2_with (at_builtin; refine wpList_append_by _ rfl _ _ 54 rfl w2.heap.size D (natB (numN x)) _ _ rfl rfl HOL4.out HSR4.out HLn4.out HBa4.out.size ?_)
          intro vb4 wb4 ho hg
          obtain ⟨C4, hC⟩ : ∃ C, C = D ++ natB (numN x) := ⟨_, rfl⟩
          rw [← hC] at ho
          have HC4 := Lib.hid hC
          clear hC
          have HOx4 := Lib.hid ho
          obtain ⟨Av4, cv4, rfl⟩ := ho.len
          have HBx4 := Lib.hid (HBa4.out.grown hg HBa4.out.size HOL4.out.rows)
          clear ho hg
          go_wp2_with fail
          go_roundw
          case rel => exact ⟨i + 1, C4, HLT.out, by go_num, by rw [HC4.out]; exact HTK.out.1, by rw [HC4.out]; exact HTK.out.2, HOx4.out, HBx4.out⟩
          case measure => have := HLT.out; simp [intOf]; omega
        · obtain rfl : i = tln := by omega
          rw [List.take_of_length_le (by rw [HTN.out]; omega)] at hB
          have HED := Lib.hid hB
          have HDL := Lib.hid hBl
          have HO := Lib.hid ho
          have HB := Lib.hid hbw
          obtain ⟨Ab, cb, rfl⟩ := ho.len
          obtain ⟨_, _, _, _, _, _, _, _, _, _, c10⟩ := HBX.out _ hbw
          clear hB hBl ho hbw hlt hi
          go_wp2_with fail
          refine (HOE.out _ (HBB.out.trans (HB.out.mono HBB.out.size))).mono ?_
          rintro e w6 ⟨v6, rfl, ho6, hb6⟩
          have hcv := bis_string ho6.bis
          have HO6 := Lib.hid (HO.out.below hb6)
          have HB6 := Lib.hid (HB.out.trans (hb6.mono HB.out.size))
          obtain ⟨A6, c6, rfl⟩ := ho6.len
          clear ho6 hb6 c10
          go_wp2_with fail
          clear hcv
          refine (HST.out _).mono ?_
          rintro e wa5 ⟨va5, rfl, ho, hb⟩
          have HOL5 := Lib.hid (HO6.out.below hb)
          have HSR5 := Lib.hid (src_any ho)
          have HBa5 := Lib.hid (HB6.out.trans (hb.mono HB6.out.size))
          obtain ⟨Aa5, ca5, rfl⟩ := ho.len
          have HLn5 : Hid (D.length + (strB ⟨(opsB os).toArray⟩).length ≤ 1073741824) := Lib.hid (by have := HDL.out; have := HS9.out; omega)
          clear ho hb 
          go_wp2_with (at_builtin; refine wpList_append_by _ rfl _ _ 54 rfl w2.heap.size D (strB ⟨(opsB os).toArray⟩) _ _ rfl rfl HOL5.out HSR5.out HLn5.out HBa5.out.size ?_)
          intro vb5 wb5 ho hg
          obtain ⟨C5, hC⟩ : ∃ C, C = D ++ strB ⟨(opsB os).toArray⟩ := ⟨_, rfl⟩
          rw [← hC] at ho
          have HC5 := Lib.hid hC
          clear hC
          have HOx5 := Lib.hid ho
          obtain ⟨Av5, cv5, rfl⟩ := ho.len
          have HBx5 := Lib.hid (HBa5.out.grown hg HBa5.out.size HOL5.out.rows)
          clear ho hg
          have HEN : Hid (C5 = bodyM ⟨kd, fr, tt, g, nd, tr, lw, co, tn, tl, os⟩) := Lib.hid (by rw [HC5.out, HED.out, HC3.out, HC2.out, HEB.out, HBD.out.1])
          have HWR := Lib.hid (rwrap_any HOx5.out.bis (by rw [HEN.out]; have := HBD.out.2; omega))
          rw [HEN.out] at HWR
          go_wp2_with fail
          rw [HEN.out]
          refine (HWR.out).mono ?_
          rintro e w9 ⟨v9, rfl, ho9, hb9⟩
          have HO9 := Lib.hid ho9
          have HB9 := Lib.hid (HBx5.out.trans (hb9.mono HBx5.out.size))
          have HS9 := Lib.hid HBx5.out.size
          obtain ⟨A9, c9, rfl⟩ := ho9.len
          clear ho9 hb9
          go_wp2_with fail
          go_ret
          exact ⟨_, rfl, HO9.out.lower (Nat.le_trans HBB.out.size HS9.out), HBB.out.trans (HB9.out.mono HBB.out.size)⟩
end Go.Proofs.YtabfbnpbgdlinaaGreatDoor
