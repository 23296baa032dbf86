/- The document's own Encode of operations (genmehf.py wrote it.) -/
import Derived.Test.YtfaaeacgmlklhaaGreatDoorZMehE
import Derived.Test.YtfaaeacgmlklhaaGreatDoorZMecD
import Derived.Test.YtfaaeacgmlklhaaGreatDoorZOmrB
set_option linter.unusedSimpArgs false
set_option linter.unusedVariables false
set_option linter.unnecessarySimpa false
namespace Go.Proofs.YtfaaeacgmlklhaaGreatDoor
open Go.RowKit Go.Shelf

theorem OwnBy.ne_box {w : World} {b : Nat} {v : Value} {l : List UInt8} (h : OwnBy w b v l) (hl : l ≠ []) {k : Nat} {z : Int} (hc : w.cell? ⟨k, 0, none⟩ = some (.int .i64 z)) : ∀ g, v.ownBlock = some g → g ≠ k := fun g e e2 => by
  subst e2
  rcases h with ⟨rfl, _⟩ | ⟨g', cap, rfl, h⟩
  · cases e
  · cases e
    have h0 : 0 < l.length := List.length_pos_iff.2 hl
    have := h.holds 0 l[0] (List.getElem?_eq_getElem h0)
    rw [this] at hc
    cases hc
set_option maxRecDepth 100000 in
set_option maxHeartbeats 8000000 in
theorem ropsenc_any {w : World} {v : Value} {l : List OpV} (h : OpsAt w v l) (hx : OpsOk l) (hl : l.length ≤ 1000) :
    Calls Tryz.prog 37 #[v] w fun e w' => ∃ v', e = .returned v' ∧ OwnBy w' w.heap.size v' (opsB l) ∧ Below w.heap.size w w' := by
  obtain ⟨A, cap, rfl, hc1, hc2, hcell⟩ := h.form
  unfold maxLen at hc2
  have HC := Lib.hid hcell
  have HX := Lib.hid hx
  obtain ⟨m, hm⟩ : ∃ m, l.length = m := ⟨_, rfl⟩
  have HM := Lib.hid hm
  rw [hm] at hc1 hl ⊢
  have hmI : (m : Int) ≤ 1000 := by omega
  have hmw : IntKind.u64.wrap (m : Int) = (m : Int) := by rw [IntKind.wrap_u64]; omega
  have HNT := Lib.hid (fnat_any m (by omega) w)
  have HN9 := Lib.hid (natB_le m (by omega))
  clear hcell hx hm h
  go_enter Tryz.func37, Tryz.ntmps37
  go_wp2_with fail
  refine (HNT.out).mono ?_
  rintro e w1 ⟨v1, rfl, ho1, hb1⟩
  have HO1 := Lib.hid ho1
  have HB1 := Lib.hid hb1
  obtain ⟨A1, c1, rfl⟩ := ho1.len
  clear ho1 hb1 HNT hmw
  go_wp2_with fail
  go_loopw [3, 12] (fun bv iv wr => ∃ (i : Nat) (B : List UInt8), i ≤ m ∧ iv = .int .i64 i ∧ B = natB m ++ (l.take i).flatMap opB ∧ B.length ≤ 9 + i * 1100 ∧ OwnBy wr w.heap.size bv B ∧ Below w.heap.size w wr) (fun _ iv _ => m - (intOf iv).toNat)
  case atStart => exact ⟨0, _, Nat.zero_le _, rfl, by simp, by simpa using HN9.out, HO1.out, HB1.out⟩
  case round =>
    obtain ⟨i, B, hi, rfl, hB, hBl, ho, hbw⟩ := hrel
    by_cases hlt : i < m
    · obtain ⟨o, hoi⟩ : ∃ o, l[i]? = some o := ⟨_, List.getElem?_eq_getElem (by rw [HM.out]; exact hlt)⟩
      obtain ⟨a, rfl, q1, k0, k1, k2, k3⟩ := HC.out i o hoi
      have hblk : (a.add (i * 4)).block < w.heap.size := by rw [add_block]; exact q1
      replace k0 := (hbw.cell hblk).trans k0
      replace k1 := (hbw.cell (p := ⟨(a.add (i * 4)).block, (a.add (i * 4)).off + 1, none⟩) hblk).trans k1
      replace k2 := (hbw.cell (p := ⟨(a.add (i * 4)).block, (a.add (i * 4)).off + 2, none⟩) hblk).trans k2
      replace k3 := (hbw.cell (p := ⟨(a.add (i * 4)).block, (a.add (i * 4)).off + 3, none⟩) hblk).trans k3
      obtain ⟨g0, g1, g2⟩ := HX.out o (List.mem_of_getElem? hoi)
      have hol := opB_le' g1 g0 g2
      have HOL := Lib.hid (show B.length + (opB o).length ≤ 1073741824 ∧ natB m ++ (l.take (i + 1)).flatMap opB = B ++ opB o ∧ (B ++ opB o).length ≤ 9 + (i + 1) * 1100 from ⟨by omega, by rw [flat_snocM hoi, hB, List.append_assoc], by rw [List.length_append]; omega⟩)
      obtain ⟨kd, s, n, lo⟩ := o
      simp only at k0 k1 k2 k3 g0 g1
      obtain ⟨kn, rfl⟩ : ∃ kn : Nat, kd = kn := ⟨kd.toNat, by omega⟩
      have hkn : kn ≤ 9223372036854775807 := by have := g2.k.2; simp only at this; omega
      have HKW : IntKind.u64.wrap (kn : Int) = (kn : Int) := by rw [IntKind.wrap_u64]; omega
      have hW1 := below_new (w := wr) (.cells #[.int .i64 kn, .string s, .int .i64 n, .int .i64 lo] 73)
      have hat := alloc_at wr (.cells #[.int .i64 kn, .string s, .int .i64 n, .int .i64 lo] 73)
      have HBW := Lib.hid (hbw.trans (hW1.mono hbw.size))
      have HOW := Lib.hid (ho.below hW1)
      have HNK := Lib.hid (fun W => fnat_any kn (by omega) W)
      have HST := Lib.hid (fun W => fstr_any s (by omega) W)
      have HNU := Lib.hid (fun W => fnum_any n g2.n.1 g2.n.2 W)
      have HLO := Lib.hid (fun W => fnum_any lo g2.lo.1 g2.lo.2 W)
      have HEQ : Hid (B ++ opB ⟨kn, s, n, lo⟩ = (((B ++ natB kn) ++ strB s) ++ natB (numN n)) ++ natB (numN lo)) := Lib.hid (by unfold opB; simp only [Int.toNat_natCast, List.append_assoc])
      have HLE : Hid (B.length + (natB kn).length + (strB s).length + (natB (numN n)).length + (natB (numN lo)).length ≤ 1073741824) := Lib.hid (by
        have := HOL.out.1
        unfold opB at this
        simp only [List.length_append, Int.toNat_natCast] at this
        omega)
      obtain ⟨Ab, cb, rfl⟩ := ho.len
      have hiI : (i : Int) < (m : Int) := by omega
      have HLT := Lib.hid hlt
      have HBN : Hid (B ≠ []) := Lib.hid (by rw [hB]; unfold natB; simp)
      have HAT := Lib.hid hat
      clear hoi q1 hblk g0 g1 g2 hol hB hBl ho hbw hlt hi hW1 hat hkn
      go_wp2_with fail
      refine (HNK.out _).mono ?_
      rintro e wa1 ⟨va1, rfl, ho, hb⟩
      have HOL1 := Lib.hid (HOW.out.below hb)
      have HSR1 := Lib.hid (src_any ho)
      have HBa1 := Lib.hid (HBW.out.trans (hb.mono HBW.out.size))
      have HAa1 := Lib.hid ((hb.block wr.heap.size (heap_lt HAT.out)).trans HAT.out)
      obtain ⟨Aa1, ca1, rfl⟩ := ho.len
      have HLn1 : Hid (B.length + (natB kn).length ≤ 1073741824) := Lib.hid (by have := HLE.out; omega)
      clear ho hb k0 k1 k2 k3
      go_wp2_with (at_builtin; refine wpList_append_by _ rfl _ _ 28 rfl w.heap.size B (natB kn) _ _ rfl rfl HOL1.out HSR1.out HLn1.out HBa1.out.size ?_)
      intro vb1 wb1 ho hg
      obtain ⟨C1, hC⟩ : ∃ C, C = B ++ natB kn := ⟨_, rfl⟩
      rw [← hC] at ho
      have HC1 := Lib.hid hC
      clear hC
      have HOx1 := Lib.hid ho
      obtain ⟨Av1, cv1, rfl⟩ := ho.len
      have HBx1 := Lib.hid (HBa1.out.grown hg HBa1.out.size HOL1.out.rows)
      have hAx := (hg.block wr.heap.size (heap_lt HAa1.out) (fun e => HOL1.out.ne_box HBN.out (cell_of HAa1.out 0) _ e.symm rfl)).trans HAa1.out
      have HBN1 : Hid (C1 ≠ []) := Lib.hid (by rw [HC1.out]; simp [HBN.out])
      have HAx1 := Lib.hid hAx
      have z1 := cell_of hAx 1
      have z2 := cell_of hAx 2
      have z3 := cell_of hAx 3
      simp at z1 z2 z3
      clear hAx
      clear ho hg
      go_wp2_with fail
      refine (HST.out _).mono ?_
      rintro e wa2 ⟨va2, rfl, ho, hb⟩
      have HOL2 := Lib.hid (HOx1.out.below hb)
      have HSR2 := Lib.hid (src_any ho)
      have HBa2 := Lib.hid (HBx1.out.trans (hb.mono HBx1.out.size))
      have HAa2 := Lib.hid ((hb.block wr.heap.size (heap_lt HAx1.out)).trans HAx1.out)
      obtain ⟨Aa2, ca2, rfl⟩ := ho.len
      have HLn2 : Hid (C1.length + (strB s).length ≤ 1073741824) := Lib.hid (by have := HLE.out; rw [HC1.out]; simp only [List.length_append]; omega)
      clear ho hb z1 z2 z3
      go_wp2_with (at_builtin; refine wpList_append_by _ rfl _ _ 28 rfl w.heap.size C1 (strB s) _ _ rfl rfl HOL2.out HSR2.out HLn2.out HBa2.out.size ?_)
      intro vb2 wb2 ho hg
      obtain ⟨C2, hC⟩ : ∃ C, C = C1 ++ strB s := ⟨_, rfl⟩
      rw [← hC] at ho
      have HC2 := Lib.hid hC
      clear hC
      have HOx2 := Lib.hid ho
      obtain ⟨Av2, cv2, rfl⟩ := ho.len
      have HBx2 := Lib.hid (HBa2.out.grown hg HBa2.out.size HOL2.out.rows)
      have hAx := (hg.block wr.heap.size (heap_lt HAa2.out) (fun e => HOL2.out.ne_box HBN1.out (cell_of HAa2.out 0) _ e.symm rfl)).trans HAa2.out
      have HBN2 : Hid (C2 ≠ []) := Lib.hid (by rw [HC2.out]; simp [HBN1.out])
      have HAx2 := Lib.hid hAx
      have z1 := cell_of hAx 1
      have z2 := cell_of hAx 2
      have z3 := cell_of hAx 3
      simp at z1 z2 z3
      clear hAx
      clear ho hg
      go_wp2_with fail
      refine (HNU.out _).mono ?_
      rintro e wa3 ⟨va3, rfl, ho, hb⟩
      have HOL3 := Lib.hid (HOx2.out.below hb)
      have HSR3 := Lib.hid (src_any ho)
      have HBa3 := Lib.hid (HBx2.out.trans (hb.mono HBx2.out.size))
      have HAa3 := Lib.hid ((hb.block wr.heap.size (heap_lt HAx2.out)).trans HAx2.out)
      obtain ⟨Aa3, ca3, rfl⟩ := ho.len
      have HLn3 : Hid (C2.length + (natB (numN n)).length ≤ 1073741824) := Lib.hid (by have := HLE.out; rw [HC2.out, HC1.out]; simp only [List.length_append]; omega)
      clear ho hb z1 z2 z3
      go_wp2_with (at_builtin; refine wpList_append_by _ rfl _ _ 28 rfl w.heap.size C2 (natB (numN n)) _ _ rfl rfl HOL3.out HSR3.out HLn3.out HBa3.out.size ?_)
      intro vb3 wb3 ho hg
      obtain ⟨C3, hC⟩ : ∃ C, C = C2 ++ natB (numN n) := ⟨_, rfl⟩
      rw [← hC] at ho
      have HC3 := Lib.hid hC
      clear hC
      have HOx3 := Lib.hid ho
      obtain ⟨Av3, cv3, rfl⟩ := ho.len
      have HBx3 := Lib.hid (HBa3.out.grown hg HBa3.out.size HOL3.out.rows)
      have hAx := (hg.block wr.heap.size (heap_lt HAa3.out) (fun e => HOL3.out.ne_box HBN2.out (cell_of HAa3.out 0) _ e.symm rfl)).trans HAa3.out
      have HBN3 : Hid (C3 ≠ []) := Lib.hid (by rw [HC3.out]; simp [HBN2.out])
      have HAx3 := Lib.hid hAx
      have z1 := cell_of hAx 1
      have z2 := cell_of hAx 2
      have z3 := cell_of hAx 3
      simp at z1 z2 z3
      clear hAx
      clear ho hg
      go_wp2_with fail
      refine (HLO.out _).mono ?_
      rintro e wa4 ⟨va4, rfl, ho, hb⟩
      have HOL4 := Lib.hid (HOx3.out.below hb)
      have HSR4 := Lib.hid (src_any ho)
      have HBa4 := Lib.hid (HBx3.out.trans (hb.mono HBx3.out.size))
      have HAa4 := Lib.hid ((hb.block wr.heap.size (heap_lt HAx3.out)).trans HAx3.out)
      obtain ⟨Aa4, ca4, rfl⟩ := ho.len
      have HLn4 : Hid (C3.length + (natB (numN lo)).length ≤ 1073741824) := Lib.hid (by have := HLE.out; rw [HC3.out, HC2.out, HC1.out]; simp only [List.length_append]; omega)
      clear ho hb z1 z2 z3
      go_wp2_with (at_builtin; refine wpList_append_by _ rfl _ _ 28 rfl w.heap.size C3 (natB (numN lo)) _ _ rfl rfl HOL4.out HSR4.out HLn4.out HBa4.out.size ?_)
      intro vb4 wb4 ho hg
      obtain ⟨C4, hC⟩ : ∃ C, C = C3 ++ natB (numN lo) := ⟨_, rfl⟩
      rw [← hC] at ho
      have HC4 := Lib.hid hC
      clear hC
      have HOx4 := Lib.hid ho
      obtain ⟨Av4, cv4, rfl⟩ := ho.len
      have HBx4 := Lib.hid (HBa4.out.grown hg HBa4.out.size HOL4.out.rows)
      clear ho hg
      go_wp2_with fail
      go_roundw
      case rel => exact ⟨i + 1, _, HLT.out, by go_num, HOL.out.2.1.symm, HOL.out.2.2, by rw [HEQ.out, ← HC1.out, ← HC2.out, ← HC3.out, ← HC4.out]; exact HOx4.out, HBx4.out⟩
      case measure => have := HLT.out; simp [intOf]; omega
    · obtain rfl : i = m := by omega
      rw [List.take_of_length_le (by rw [HM.out]; omega)] at hB
      have en : natB i ++ l.flatMap opB = opsB l := by unfold opsB; rw [HM.out]
      rw [en] at hB
      subst hB
      have HO := Lib.hid ho
      have HB := Lib.hid hbw
      obtain ⟨Ab, cb, rfl⟩ := ho.len
      clear ho hBl hbw en
      go_wp2_with fail
      go_ret
      exact ⟨_, rfl, HO.out, HB.out⟩
end Go.Proofs.YtfaaeacgmlklhaaGreatDoor
