/- The reference's Sum; crc.word. The document's own Encode of messages. (genmehg.py wrote it.) -/
import Derived.Test.YtmbonngjkgcijaaGreatDoorZCrcE
import Derived.Laws.IdiomStrings
import Derived.Test.YtmbonngjkgcijaaGreatDoorZMehDE
import Derived.Test.YtmbonngjkgcijaaGreatDoorZMecE
set_option linter.unusedSimpArgs false
set_option linter.unusedVariables false
set_option linter.unnecessarySimpa false
namespace Go.Proofs.YtmbonngjkgcijaaGreatDoor
open Go.RowKit

theorem bs_bitc (S β : Nat) (hβ : β ≤ 1) : bs (S ^^^ β) = if β = S % 2 then S / 2 else S / 2 ^^^ pol := by
  have h1 : bs 1 = pol := by decide
  rcases Nat.lt_or_ge 0 β with h | h
  · obtain rfl : β = 1 := by omega
    rw [bs_xor, h1]
    unfold bs
    by_cases hs : S % 2 = 1
    · rw [if_pos hs, if_pos hs.symm, Nat.xor_assoc, Nat.xor_self, Nat.xor_zero]
    · rw [if_neg hs, if_neg (fun h => hs h.symm)]
  · obtain rfl : β = 0 := by omega
    rw [Nat.xor_zero]
    unfold bs
    by_cases hs : S % 2 = 1
    · rw [if_pos hs, if_neg (by omega)]
    · rw [if_neg hs, if_pos (by omega)]

set_option maxRecDepth 100000 in
set_option maxHeartbeats 1000000 in
theorem rsum_any {w : World} {v : Value} {l : List UInt8} (h : BIs w v l) (hl : l.length ≤ 1000000) :
    Calls Tryz.prog 163 #[v] w fun e w' => e = .returned (.int .u32 (sumB l : Nat)) ∧ w = w' := by
  obtain ⟨A, cap, rfl, h1, h2, h3⟩ := h
  unfold maxLen at h2
  have H3 := Lib.hid h3
  have hl' : (l.length : Int) ≤ 1000000 := by omega
  clear h3
  go_enter Tryz.func163, Tryz.ntmps163
  go_wp2_with fail
  go_loopw [3, 4] (fun s i wr => ∃ k : Nat, k ≤ 8 * l.length ∧ i = .int .i64 k ∧ s = .int .u32 (refS l k : Nat) ∧ w = wr) (fun _ i _ => 8 * l.length - (intOf i).toNat)
  case atStart => exact ⟨0, by omega, rfl, rfl, rfl⟩
  case round =>
    obtain ⟨k, hk, rfl, rfl, rfl⟩ := hrel
    by_cases hlt : k < 8 * l.length
    · obtain ⟨c, rfl, hcb, hc⟩ := H3.out (k / 8) l[k / 8] (List.getElem?_eq_getElem (by omega))
      have hs0 := refS_lt l k
      have hk8 : (k : Int) < 8 * (l.length : Int) := by omega
      have hx' : l[k / 8]? = some l[k / 8] := List.getElem?_eq_getElem (by omega)
      have hS1 : refS l (k + 1) = bs (refS l k ^^^ bitAt l k) := rfl
      have hb1 : bitAt l k = l[k / 8].toNat / 2 ^ (k % 8) % 2 := by unfold bitAt; rw [hx']; rfl
      have hbl := bitAt_le l k
      rw [bs_bitc _ _ hbl] at hS1
      rw [hb1] at hS1
      clear hx' hb1 hbl
      generalize refS l k = S at *
      generalize l[k / 8] = x at *
      have hx8 : (x.toNat : Int) < 256 := by have := UInt8.toNat_lt x; omega
      by_cases hb : x.toNat / 2 ^ (k % 8) % 2 = S % 2
      · rw [if_pos hb] at hS1
        have hb' : ((x.toNat : Int) / 2 ^ (k % 8) % 2 != (S : Int) % 2) = false := by
          rw [bne_eq_false_iff_eq]
          exact_mod_cast hb
        have HS := Lib.hid hS1
        clear hb hS1
        go_wp2_with fail
        all_goals (go_roundw)
        case rel => exact ⟨k + 1, by omega, by go_num, by rw [HS.out]; rfl, by first | rfl | trivial⟩
        case measure => simp [intOf]; omega
      · rw [if_neg hb] at hS1
        have hb' : ((x.toNat : Int) / 2 ^ (k % 8) % 2 != (S : Int) % 2) = true := by
          rw [bne_iff_ne]
          exact_mod_cast hb
        have hxor := u32_xor_nat (S / 2) pol (by omega) (by decide)
        rw [← hS1, show ((S / 2 : Nat) : Int) = (S : Int) / 2 from rfl, show ((pol : Nat) : Int) = 2197175160 from rfl] at hxor
        clear hb hS1
        go_wp2_with fail
        go_roundw
        case rel => exact ⟨k + 1, by omega, by go_num, rfl, by first | rfl | trivial⟩
        case measure => simp [intOf]; omega
    · obtain rfl : k = 8 * l.length := by omega
      have hN : Hid ((4294967295 - (refS l (8 * l.length) : Nat) : Int) = (sumB l : Nat)) := by
        show _ = _
        have h1 := refS_lt l (8 * l.length)
        have h2 := refS_crc l l.length (Nat.le_refl _)
        rw [List.take_length] at h2
        rw [sumB_eq, ← h2]; omega
      have hlt' := refS_lt l (8 * l.length)
      go_wp2_with fail
      go_ret
      refine ⟨?_, rfl⟩
      rw [← hN.out]
      rfl
set_option maxRecDepth 100000 in
set_option maxHeartbeats 2000000 in
theorem rwrap_any {w : World} {v : Value} {l : List UInt8} (h : BIs w v l) (hl : l.length ≤ 16384) :
    Calls Tryz.prog 131 #[v] w fun e w' => ∃ x, e = .returned x ∧ OwnBy w' w.heap.size x (frameB l) ∧ Below w.heap.size w w' := by
  have HBI := Lib.hid h
  obtain ⟨A, cap, rfl, _, _, h3⟩ := h
  have HPL : Hid ((preB l).length = l.length + 3) := preB_len l
  have HLEN : Hid (frameB l = preB l ++ be4 (sumB (preB l))) := rfl
  have HPRE : Hid (preB l = headB l.length ++ l) := rfl
  have hT : (l.length : Int) ≤ 16384 := by omega
  clear h3
  generalize hTT : l.length = T at *
  have HTT := Lib.hid hTT
  have hcells : (bc (headB T)).toArray = #[.int .u8 167, .int .u8 ((T : Int) / 256), .int .u8 ((T : Int) % 256)] := by
    have e1 : (((T / 256).toUInt8.toNat : Nat) : Int) = (T : Int) / 256 := by rw [u8_mod]; omega
    have e2 : ((T.toUInt8.toNat : Nat) : Int) = (T : Int) % 256 := by rw [u8_mod]; omega
    simp only [bc, headB, List.map_cons, List.map_nil, e1, e2]
    rfl
  have hW : Below w.heap.size w (w.alloc (.cells #[.int .u8 167, .int .u8 ((T : Int) / 256), .int .u8 ((T : Int) % 256)] 5)) := (Below.refl _ _).alloc (Nat.le_refl _) _
  have own0 : Hid (OwnBy (w.alloc (.cells #[.int .u8 167, .int .u8 ((T : Int) / 256), .int .u8 ((T : Int) % 256)] 5)) w.heap.size (.slice (some ⟨w.heap.size, 0, none⟩) 3 3) (headB T)) := by
    have := new_own w (headB T) (by simp [headB])
    rw [hcells] at this
    exact this
  have src : Hid (Src Tryz.prog 1 54 (.slice A T cap) l.length (bc l) (w.alloc (.cells #[.int .u8 167, .int .u8 ((T : Int) / 256), .int .u8 ((T : Int) % 256)] 5))) := (HBI.out.below hW).src
  rw [hTT] at src
  have HW := Lib.hid hW
  have q1 : ¬ (16384 : Int) < (T : Int) := by omega
  clear hcells hW hTT hl
  go_enter Tryz.func131, Tryz.ntmps131
  go_wp2_with (at_builtin; refine wpList_append_by _ rfl _ _ 54 rfl w.heap.size (headB T) l _ _ rfl rfl own0.out (by rw [HTT.out]; exact src.out) ?_ ?_ ?_)
  · have : (headB T).length = 3 := rfl
    have := HTT.out
    omega
  intro v' w1 hown hg
  rw [← HPRE.out] at hown
  have HO := Lib.hid hown
  have HB := Lib.hid (HW.out.grown hg HW.out.size own0.out.rows)
  have HSUM := Lib.hid (rsum_any hown.bis (by rw [HPL.out]; omega))
  generalize preB l = F at *
  obtain ⟨A6, c6, rfl, g1, g2, g3⟩ := hown.bis
  have hS := sumB_lt F
  generalize sumB F = S at *
  have hS' : (S : Int) < 4294967296 := by omega
  have HS := Lib.hid hS
  clear hown hg g3 hS
  go_wp2_with fail
  refine (HSUM.out).mono ?_
  rintro e w2 ⟨rfl, rfl⟩
  have SRC := Lib.hid (new_word w1 S HS.out)
  have hA2 : Below w1.heap.size w1 (w1.alloc (.cells #[.int .u8 ((S : Int) / 16777216), .int .u8 ((S : Int) / 65536 % 256), .int .u8 ((S : Int) / 256 % 256), .int .u8 ((S : Int) % 256)] 5)) := (Below.refl _ _).alloc (Nat.le_refl _) _
  have HOB := Lib.hid (HO.out.below hA2)
  have HAB := Lib.hid (HB.out.trans (hA2.mono HB.out.size))
  clear hA2
  go_wp2_with (at_builtin; refine wpList_append_by _ rfl _ _ 54 rfl w.heap.size F (be4 S) _ _ rfl rfl HOB.out SRC.out ?_ HAB.out.size ?_)
  · rw [HPL.out]
    have : (be4 S).length = 4 := rfl
    omega
  intro v' w' hown hg
  have HO' := Lib.hid hown
  have HB' := Lib.hid (HAB.out.grown hg HAB.out.size HOB.out.rows)
  clear hown hg
  go_wp2
  go_ret
  exact ⟨_, rfl, by rw [HLEN.out]; exact HO'.out, HB'.out⟩
end Go.Proofs.YtmbonngjkgcijaaGreatDoor

namespace Go.Proofs.YtmbonngjkgcijaaGreatDoor
open Go.RowKit Go.Shelf

set_option maxRecDepth 100000 in
set_option maxHeartbeats 4000000 in
theorem rEncode_not {w : World} {v : Value} {m : MsgV} (h : MsgIs w v m) (hti : m.ti ≤ 9223372036854775807) (hm : mayM m = false) :
    Calls Tryz.prog 95 #[v] w fun e w' => e = .returned (.slice none 0 0) ∧ Below w.heap.size w w' := by
  have HMY := Lib.hid (fun W (hW : Below w.heap.size w W) => rMay_any (h.below hW) hti)
  rw [hm] at HMY
  obtain ⟨tA, tc, oA, oc, rfl, _⟩ := h
  have HB := Lib.hid (below_new (w := w) (.cells (msgCells m tA tc oA oc) 37))
  unfold msgCells at HB
  clear hti hm
  obtain ⟨kd, fr, tt, g, nd, tr, lw, co, ti, tl, os⟩ := m
  simp only at HMY HB ⊢
  go_enter Tryz.func95, Tryz.ntmps95
  go_wp2_with fail
  refine (HMY.out _ HB.out).mono ?_
  rintro e w1 ⟨rfl, hb1⟩
  have HB1 := Lib.hid (HB.out.trans (hb1.mono HB.out.size))
  clear hb1
  go_wp2_with fail
  go_ret
  exact ⟨rfl, HB1.out⟩
set_option maxRecDepth 100000 in
set_option maxHeartbeats 8000000 in
theorem rEncode_yes {w : World} {v : Value} {m : MsgV} (h : MsgIs w v m) (hm : mayM m = true) (hi : MsgIn m) :
    Calls Tryz.prog 95 #[v] w fun e w' => ∃ v', e = .returned v' ∧ OwnBy w' w.heap.size v' (encM m) ∧ Below w.heap.size w w' := by
  have F := mayM_fits hm
  have HMY := Lib.hid (fun W (hW : Below w.heap.size w W) => rMay_any (h.below hW) F.ti.2)
  rw [hm] at HMY
  have HOK := mayM_ok hm hi
  have hlen := bodyM_le hm hi
  obtain ⟨tA, tc, oA, oc, rfl, ht, ho, hk⟩ := h
  obtain ⟨k0, k1, k2, k3, k4, k5, k6, k7, k8, k9, k10, k11⟩ := F
  have hob := opsB_le k10 (fun o h => ⟨k11 o h, hi.ops o h⟩)
  have hW0 := below_new (w := w) (.cells (msgCells m tA tc oA oc) 37)
  have hat := alloc_at w (.cells (msgCells m tA tc oA oc) 37)
  have HB0 := Lib.hid hW0
  have HSW := Lib.hid (fun W (hW : Below (w.alloc (.cells (msgCells m tA tc oA oc) 37)).heap.size (w.alloc (.cells (msgCells m tA tc oA oc) 37)) W) => boxM_of hat hW)
  unfold msgCells BoxM at HSW
  unfold msgCells at HB0
  obtain ⟨kd, fr, tt, g, nd, tr, lw, co, ti, tl, os⟩ := m
  simp only at k0 k1 k2 k3 k4 k5 k6 k7 k8 k9 k10 k11 ht ho hk HMY HSW HB0 hob HOK ⊢
  obtain ⟨tn, rfl⟩ : ∃ n : Nat, ti = n := ⟨ti.toNat, by omega⟩
  obtain ⟨tln, htln⟩ : ∃ n, tl.length = n := ⟨_, rfl⟩
  obtain ⟨osn, hosn⟩ : ∃ n, os.length = n := ⟨_, rfl⟩
  obtain ⟨A9, c9, e9, hle9, hmx9, hT9⟩ := ht
  injection e9 with e91 e92 e93
  subst e91 e93
  have HTC := Lib.hid hT9
  have HTI := Lib.hid hi.told
  have HTN := Lib.hid htln
  have htl8 : tln ≤ 8 := by omega
  have htc : tln ≤ tc := by rw [← htln]; exact hle9
  have HHD : Hid (∀ x ∈ [kd, fr, tt, g, nd, tr, lw, co], 0 ≤ x ∧ x ≤ 9223372036854775807) := Lib.hid (fun x hx => by simp only [List.mem_cons, List.not_mem_nil, or_false] at hx; omega)
  have HNT := Lib.hid (fun W => fnat_any tn (by omega) W)
  have HNL := Lib.hid (fun W => fnat_any tln (by omega) W)
  have HOE := Lib.hid (fun W (hW : Below w.heap.size w W) => ropsenc_any (ho.below hW) HOK (by omega))
  have HST := Lib.hid (fun W => fstr_any ⟨(opsB os).toArray⟩ (by rw [size_mk]; omega) W)
  have htn9 := natB_le tn (by omega)
  have hln9 := natB_le tln (by omega)
  have HL9 := Lib.hid (And.intro htn9 hln9)
  have HBD : Hid (bodyM ⟨kd, fr, tt, g, nd, tr, lw, co, tn, tl, os⟩ = (((natsB [kd, fr, tt, g, nd, tr, lw, co] ++ natB tn) ++ natB tln) ++ tl.flatMap fun x => natB (numN x)) ++ strB ⟨(opsB os).toArray⟩ ∧ (bodyM ⟨kd, fr, tt, g, nd, tr, lw, co, tn, tl, os⟩).length ≤ 1000) := Lib.hid (by
    refine ⟨?_, hlen⟩
    unfold bodyM numsB
    rw [htln]
    simp only [Int.toNat_natCast, List.append_assoc])
  have HS9 : Hid ((strB ⟨(opsB os).toArray⟩).length ≤ 1000) := Lib.hid (by
    have h1 := HBD.out.1
    have h2 := HBD.out.2
    rw [h1, List.length_append] at h2
    omega)
  have htw : IntKind.u64.wrap (tn : Int) = (tn : Int) := by rw [IntKind.wrap_u64]; omega
  have hlw : IntKind.u64.wrap (tln : Int) = (tln : Int) := by rw [IntKind.wrap_u64]; omega
  rw [htln] at HSW HMY HB0 ⊢
  rw [hosn] at HSW HMY HB0 HOE ⊢
  clear hm hi ho hk hlen hob HOK k0 k1 k2 k3 k4 k5 k6 k7 k8 k9 k10 k11 hW0 hat htln hosn hT9 hle9 hmx9 htn9 hln9 e92
  go_enter Tryz.func95, Tryz.ntmps95
  go_wp2_with fail
  refine (HMY.out _ HB0.out).mono ?_
  rintro e w1 ⟨rfl, hb1⟩
  have hb2 := below_new (w := w1) (.cells #[.int .i64 kd, .int .i64 fr, .int .i64 tt, .int .i64 g, .int .i64 nd, .int .i64 tr, .int .i64 lw, .int .i64 co] 3)
  have hat2 := alloc_at w1 (.cells #[.int .i64 kd, .int .i64 fr, .int .i64 tt, .int .i64 g, .int .i64 nd, .int .i64 tr, .int .i64 lw, .int .i64 co] 3)
  obtain ⟨w2, hw2⟩ : ∃ W, W = w1.alloc (.cells #[.int .i64 kd, .int .i64 fr, .int .i64 tt, .int .i64 g, .int .i64 nd, .int .i64 tr, .int .i64 lw, .int .i64 co] 3) := ⟨_, rfl⟩
  rw [← hw2] at hb2 hat2
  have HW2 := Lib.hid hw2
  obtain ⟨c0, c1, c2, c3, c4, c5, c6, c7, _, _, _⟩ := HSW.out w1 hb1
  have HBX := Lib.hid (fun W (hW : Below w2.heap.size w2 W) => HSW.out W (hb1.trans ((hb2.trans (hW.mono hb2.size)).mono hb1.size)))
  have HBB := Lib.hid (HB0.out.trans ((hb1.trans (hb2.mono hb1.size)).mono HB0.out.size))
  obtain ⟨hds, hhd⟩ : ∃ l, l = [kd, fr, tt, g, nd, tr, lw, co] := ⟨_, rfl⟩
  have HH8 : Hid (hds.length = 8) := Lib.hid (by rw [hhd]; rfl)
  have HLT8 := Lib.hid (heap_lt hat2)
  have HC : Hid (∀ (i : Nat) (x : Int), hds[i]? = some x → w2.cell? ⟨w1.heap.size, i, none⟩ = some (.int .i64 x)) := Lib.hid (fun i x hx => (cell_of hat2 i).trans (by
    have e : (#[.int .i64 kd, .int .i64 fr, .int .i64 tt, .int .i64 g, .int .i64 nd, .int .i64 tr, .int .i64 lw, .int .i64 co] : Array Value) = (hds.map fun x => Value.int .i64 x).toArray := by rw [hhd]; rfl
    rw [e]
    simp [hx]))
  rw [← hhd] at HHD HBD
  clear hb1 hb2 hat2 hw2 hhd HMY HB0
  go_wp2_with fail
  rw [← HW2.out]
  clear c0 c1 c2 c3 c4 c5 c6 c7
  go_loopw [3, 29] (fun bv iv wr => ∃ (i : Nat) (B : List UInt8), i ≤ 8 ∧ iv = .int .i64 i ∧ B = natsB (hds.take i) ∧ B.length ≤ i * 9 ∧ OwnBy wr w2.heap.size bv B ∧ Below w2.heap.size w2 wr) (fun _ iv _ => 8 - (intOf iv).toNat)
  case atStart => exact ⟨0, [], by omega, rfl, rfl, by simp, .inl ⟨rfl, rfl⟩, Below.refl _ _⟩
  case round =>
    obtain ⟨i, B, hi, rfl, hB, hBl, ho, hbw⟩ := hrel
    by_cases hlt : i < 8
    · obtain ⟨x, hx⟩ : ∃ x, hds[i]? = some x := ⟨_, List.getElem?_eq_getElem (by rw [HH8.out]; exact hlt)⟩
      have hx2 := HHD.out x (List.mem_of_getElem? hx)
      obtain ⟨xn, rfl⟩ : ∃ n : Nat, x = n := ⟨x.toNat, by omega⟩
      have k0 : wr.cell? ⟨w1.heap.size, i, none⟩ = some (.int .i64 (xn : Int)) := (hbw.cell (p := ⟨w1.heap.size, i, none⟩) HLT8.out).trans (HC.out i _ hx)
      have hxw : IntKind.u64.wrap (xn : Int) = (xn : Int) := by rw [IntKind.wrap_u64]; omega
      have HNX := Lib.hid (fun W => fnat_any xn (by omega) W)
      have hn9 := natB_le xn (by omega)
      have HTK : Hid (B ++ natB xn = natsB (hds.take (i + 1)) ∧ (B ++ natB xn).length ≤ (i + 1) * 9) := Lib.hid ⟨by unfold natsB at hB ⊢; rw [flat_snocM hx, hB, Int.toNat_natCast], by rw [List.length_append]; omega⟩
      have HLB : Hid (B.length + (natB xn).length ≤ 1073741824) := Lib.hid (by omega)
      have HO := Lib.hid ho
      have HB := Lib.hid hbw
      have HLT := Lib.hid hlt
      obtain ⟨Ab, cb, rfl⟩ := ho.len
      have hiI : (i : Int) < 8 := by omega
      clear hx hx2 hn9 hB hBl ho hbw hlt hi
      go_wp2_with fail
      refine (HNX.out _).mono ?_
      rintro e wa1 ⟨va1, rfl, ho, hb⟩
      have HOL1 := Lib.hid (HO.out.below hb)
      have HSR1 := Lib.hid (src_any ho)
      have HBa1 := Lib.hid (HB.out.trans (hb.mono HB.out.size))
      obtain ⟨Aa1, ca1, rfl⟩ := ho.len
      have HLn1 : Hid (B.length + (natB xn).length ≤ 1073741824) := Lib.hid (by exact HLB.out)
      clear ho hb k0
      go_wp2_with (at_builtin; refine wpList_append_by _ rfl _ _ 54 rfl w2.heap.size B (natB xn) _ _ rfl rfl HOL1.out HSR1.out HLn1.out HBa1.out.size ?_)
      intro vb1 wb1 ho hg
      obtain ⟨C1, hC⟩ : ∃ C, C = B ++ natB xn := ⟨_, rfl⟩
      rw [← hC] at ho
      have HC1 := Lib.hid hC
      clear hC
      have HOx1 := Lib.hid ho
      obtain ⟨Av1, cv1, rfl⟩ := ho.len
      have HBx1 := Lib.hid (HBa1.out.grown hg HBa1.out.size HOL1.out.rows)
      clear ho hg
      go_wp2_with fail
      go_roundw
      case rel => exact ⟨i + 1, C1, HLT.out, by go_num, by rw [HC1.out]; exact HTK.out.1, by rw [HC1.out]; exact HTK.out.2, HOx1.out, HBx1.out⟩
      case measure => have := HLT.out; simp [intOf]; omega
    · obtain rfl : i = 8 := by omega
      rw [List.take_of_length_le (by rw [HH8.out]; omega)] at hB
      have HEB := Lib.hid hB
      have HBL := Lib.hid hBl
      have HO := Lib.hid ho
      have HB := Lib.hid hbw
      obtain ⟨Ab, cb, rfl⟩ := ho.len
      obtain ⟨_, _, _, _, _, _, _, _, c8, c9, _⟩ := HBX.out _ hbw
      clear hB hBl ho hbw hlt hi
      go_wp2_with fail
      refine (HNT.out _).mono ?_
      rintro e wa2 ⟨va2, rfl, ho, hb⟩
      have HOL2 := Lib.hid (HO.out.below hb)
      have HSR2 := Lib.hid (src_any ho)
      have HBa2 := Lib.hid (HB.out.trans (hb.mono HB.out.size))
      obtain ⟨Aa2, ca2, rfl⟩ := ho.len
      have HLn2 : Hid (B.length + (natB tn).length ≤ 1073741824) := Lib.hid (by have := HBL.out; have := HL9.out.1; omega)
      clear ho hb c8 c9
      go_wp2_with (at_builtin; refine wpList_append_by _ rfl _ _ 54 rfl w2.heap.size B (natB tn) _ _ rfl rfl HOL2.out HSR2.out HLn2.out HBa2.out.size ?_)
      intro vb2 wb2 ho hg
      obtain ⟨C2, hC⟩ : ∃ C, C = B ++ natB tn := ⟨_, rfl⟩
      rw [← hC] at ho
      have HC2 := Lib.hid hC
      clear hC
      have HOx2 := Lib.hid ho
      obtain ⟨Av2, cv2, rfl⟩ := ho.len
      have HBx2 := Lib.hid (HBa2.out.grown hg HBa2.out.size HOL2.out.rows)
      clear ho hg
      obtain ⟨_, _, _, _, _, _, _, _, _, c9, _⟩ := HBX.out _ HBx2.out
      go_wp2_with fail
      refine (HNL.out _).mono ?_
      rintro e wa3 ⟨va3, rfl, ho, hb⟩
      have HOL3 := Lib.hid (HOx2.out.below hb)
      have HSR3 := Lib.hid (src_any ho)
      have HBa3 := Lib.hid (HBx2.out.trans (hb.mono HBx2.out.size))
      obtain ⟨Aa3, ca3, rfl⟩ := ho.len
      have HLn3 : Hid (C2.length + (natB tln).length ≤ 1073741824) := Lib.hid (by have := HBL.out; have := HL9.out; rw [HC2.out, List.length_append]; omega)
      clear ho hb c9
      go_wp2_with (at_builtin; refine wpList_append_by _ rfl _ _ 54 rfl w2.heap.size C2 (natB tln) _ _ rfl rfl HOL3.out HSR3.out HLn3.out HBa3.out.size ?_)
      intro vb3 wb3 ho hg
      obtain ⟨C3, hC⟩ : ∃ C, C = C2 ++ natB tln := ⟨_, rfl⟩
      rw [← hC] at ho
      have HC3 := Lib.hid hC
      clear hC
      have HOx3 := Lib.hid ho
      obtain ⟨Av3, cv3, rfl⟩ := ho.len
      have HBx3 := Lib.hid (HBa3.out.grown hg HBa3.out.size HOL3.out.rows)
      clear ho hg
      have HL3 : Hid (C3.length ≤ 90) := Lib.hid (by have := HBL.out; have := HL9.out; rw [HC3.out, HC2.out, List.length_append, List.length_append]; omega)
      obtain ⟨_, _, _, _, _, _, _, _, _, c9, _⟩ := HBX.out _ HBx3.out
      go_wp2_with fail
      go_loopw [3, 55] (fun bv iv wr => ∃ (i : Nat) (B : List UInt8), i ≤ tln ∧ iv = .int .i64 i ∧ B = C3 ++ (tl.take i).flatMap (fun x => natB (numN x)) ∧ B.length ≤ 90 + i * 9 ∧ OwnBy wr w2.heap.size bv B ∧ Below w2.heap.size w2 wr) (fun _ iv _ => tln - (intOf iv).toNat)
      case atStart => exact ⟨0, C3, Nat.zero_le _, rfl, by simp, by have := HL3.out; omega, HOx3.out, HBx3.out⟩
      case round =>
        obtain ⟨i, D, hi, rfl, hB, hBl, ho, hbw⟩ := hrel
        by_cases hlt : i < tln
        · obtain ⟨x, hx⟩ : ∃ x, tl[i]? = some x := ⟨_, List.getElem?_eq_getElem (by rw [HTN.out]; exact hlt)⟩
          have hx2 := HTI.out x (List.mem_of_getElem? hx)
          obtain ⟨a, rfl, q1, k0⟩ := HTC.out i x hx
          replace k0 := ((HBB.out.trans (hbw.mono HBB.out.size)).cell (p := a.add i) (by rw [add_block]; exact q1)).trans k0
          have HNX := Lib.hid (fun W => fnum_any x hx2.1 hx2.2 W)
          have hn9 := natB_le _ (numN_le' hx2.1 hx2.2)
          have HTK : Hid (D ++ natB (numN x) = C3 ++ (tl.take (i + 1)).flatMap (fun x => natB (numN x)) ∧ (D ++ natB (numN x)).length ≤ 90 + (i + 1) * 9) := Lib.hid ⟨by rw [flat_snocM hx, hB, List.append_assoc], by rw [List.length_append]; omega⟩
          have HLB : Hid (D.length + (natB (numN x)).length ≤ 1073741824) := Lib.hid (by omega)
          have HO := Lib.hid ho
          have HB := Lib.hid hbw
          have HLT := Lib.hid hlt
          obtain ⟨Ab, cb, rfl⟩ := ho.len
          have hiI : (i : Int) < (tln : Int) := by omega
          clear hx hx2 q1 hn9 hB hBl ho hbw hlt hi
          go_wp2_with fail
          refine (HNX.out _).mono ?_
          rintro e wa4 ⟨va4, rfl, ho, hb⟩
          have HOL4 := Lib.hid (HO.out.below hb)
          have HSR4 := Lib.hid (src_any ho)
          have HBa4 := Lib.hid (HB.out.trans (hb.mono HB.out.size))
          obtain ⟨Aa4, ca4, rfl⟩ := ho.len
          have HLn4 : Hid (D.length + (natB (numN x)).length ≤ 1073741824) := Lib.hid (by exact HLB.out)
          clear ho hb k0
          go_wp2_with (at_builtin; refine wpList_append_by _ rfl _ _ 54 rfl w2.heap.size D (natB (numN x)) _ _ rfl rfl HOL4.out HSR4.out HLn4.out HBa4.out.size ?_)
          intro vb4 wb4 ho hg
          obtain ⟨C4, hC⟩ : ∃ C, C = D ++ natB (numN x) := ⟨_, rfl⟩
          rw [← hC] at ho
          have HC4 := Lib.hid hC
          clear hC
          have HOx4 := Lib.hid ho
          obtain ⟨Av4, cv4, rfl⟩ := ho.len
          have HBx4 := Lib.hid (HBa4.out.grown hg HBa4.out.size HOL4.out.rows)
          clear ho hg
          go_wp2_with fail
          go_roundw
          case rel => exact ⟨i + 1, C4, HLT.out, by go_num, by rw [HC4.out]; exact HTK.out.1, by rw [HC4.out]; exact HTK.out.2, HOx4.out, HBx4.out⟩
          case measure => have := HLT.out; simp [intOf]; omega
        · obtain rfl : i = tln := by omega
          rw [List.take_of_length_le (by rw [HTN.out]; omega)] at hB
          have HED := Lib.hid hB
          have HDL := Lib.hid hBl
          have HO := Lib.hid ho
          have HB := Lib.hid hbw
          obtain ⟨Ab, cb, rfl⟩ := ho.len
          obtain ⟨_, _, _, _, _, _, _, _, _, _, c10⟩ := HBX.out _ hbw
          clear hB hBl ho hbw hlt hi
          go_wp2_with fail
          refine (HOE.out _ (HBB.out.trans (HB.out.mono HBB.out.size))).mono ?_
          rintro e w6 ⟨v6, rfl, ho6, hb6⟩
          have hcv := bis_string ho6.bis
          have HO6 := Lib.hid (HO.out.below hb6)
          have HB6 := Lib.hid (HB.out.trans (hb6.mono HB.out.size))
          obtain ⟨A6, c6, rfl⟩ := ho6.len
          clear ho6 hb6 c10
          go_wp2_with fail
          clear hcv
          refine (HST.out _).mono ?_
          rintro e wa5 ⟨va5, rfl, ho, hb⟩
          have HOL5 := Lib.hid (HO6.out.below hb)
          have HSR5 := Lib.hid (src_any ho)
          have HBa5 := Lib.hid (HB6.out.trans (hb.mono HB6.out.size))
          obtain ⟨Aa5, ca5, rfl⟩ := ho.len
          have HLn5 : Hid (D.length + (strB ⟨(opsB os).toArray⟩).length ≤ 1073741824) := Lib.hid (by have := HDL.out; have := HS9.out; omega)
          clear ho hb 
          go_wp2_with (at_builtin; refine wpList_append_by _ rfl _ _ 54 rfl w2.heap.size D (strB ⟨(opsB os).toArray⟩) _ _ rfl rfl HOL5.out HSR5.out HLn5.out HBa5.out.size ?_)
          intro vb5 wb5 ho hg
          obtain ⟨C5, hC⟩ : ∃ C, C = D ++ strB ⟨(opsB os).toArray⟩ := ⟨_, rfl⟩
          rw [← hC] at ho
          have HC5 := Lib.hid hC
          clear hC
          have HOx5 := Lib.hid ho
          obtain ⟨Av5, cv5, rfl⟩ := ho.len
          have HBx5 := Lib.hid (HBa5.out.grown hg HBa5.out.size HOL5.out.rows)
          clear ho hg
          have HEN : Hid (C5 = bodyM ⟨kd, fr, tt, g, nd, tr, lw, co, tn, tl, os⟩) := Lib.hid (by rw [HC5.out, HED.out, HC3.out, HC2.out, HEB.out, HBD.out.1])
          have HWR := Lib.hid (rwrap_any HOx5.out.bis (by rw [HEN.out]; have := HBD.out.2; omega))
          rw [HEN.out] at HWR
          go_wp2_with fail
          rw [HEN.out]
          refine (HWR.out).mono ?_
          rintro e w9 ⟨v9, rfl, ho9, hb9⟩
          have HO9 := Lib.hid ho9
          have HB9 := Lib.hid (HBx5.out.trans (hb9.mono HBx5.out.size))
          have HS9 := Lib.hid HBx5.out.size
          obtain ⟨A9, c9, rfl⟩ := ho9.len
          clear ho9 hb9
          go_wp2_with fail
          go_ret
          exact ⟨_, rfl, HO9.out.lower (Nat.le_trans HBB.out.size HS9.out), HBB.out.trans (HB9.out.mono HBB.out.size)⟩
end Go.Proofs.YtmbonngjkgcijaaGreatDoor
