/- TapeKeeps: the law's walk. -/
import Derived.Test.YtkdcknkgfgkoaaaGreatDoorZLawR
import Derived.Test.YtkdcknkgfgkoaaaGreatDoorZTapQ
set_option linter.unusedSimpArgs false
set_option linter.unusedVariables false
set_option linter.unnecessarySimpa false
namespace Go.Proofs.YtkdcknkgfgkoaaaGreatDoor
open Go.RowKit

set_option maxRecDepth 100000 in
set_option maxHeartbeats 4000000 in
theorem law_keeps {w : World} (hG : Glob w) {ov kv : Value} {m : Nat} {ks : List Int} (ho : OpsIs w ov m) (hk : IIs w kv ks) (hkr : ∀ k ∈ ks, inR k) : Calls Tryz.prog 3 #[ov, kv] w fun e w' => e = .returned (.bool true) ∧ Below w.heap.size w w' := by
  have HN := Lib.hid (new_ok (w := w) (n := 5000) (by omega))
  have HRN := Lib.hid (fun (V : World) => rnew_any (w := V) 5000)
  obtain ⟨A, cap, rfl, ho1, ho2, ho3⟩ := ho
  have HO3 := Lib.hid ho3
  have HKS := Lib.hid hk
  have HG := Lib.hid hG
  have HKR := Lib.hid hkr
  unfold maxLen at ho2
  clear ho3 hk hG hkr
  go_enter Tryz.func3, Tryz.ntmps3
  go_wp2_with fail
  refine (HN.out).mono ?_
  rintro e w1 ⟨rfl, hT, hb1⟩
  have HT := Lib.hid hT
  have HB1 := Lib.hid hb1
  clear hT hb1
  go_wp2_with fail
  refine (HRN.out _).mono ?_
  rintro e w2 ⟨rfl, hR, hb2⟩
  have HS := Lib.hid (start_TR HG.out (Nat.le_refl _) HT.out HB1.out rfl hR hb2)
  clear hR hb2
  go_upto_block 0 with fail
  go_cut [5, 7, 8, 9] from 26 to 49 (fun tv rv gv i wx => ∃ (t r : Nat) (T : Tp) (R : RTp), tv = .pointer (some ⟨t, 0, none⟩) ∧ rv = .pointer (some ⟨r, 0, none⟩) ∧ gv = .bool true ∧ TR w wx t r T R)
  case first =>
    go_wp2_with fail
    go_loopw [5, 7, 8, 9] (fun tv rv gv i wx => ∃ (t r k : Nat) (T : Tp) (R : RTp), k ≤ m ∧ tv = .pointer (some ⟨t, 0, none⟩) ∧ rv = .pointer (some ⟨r, 0, none⟩) ∧ gv = .bool true ∧ i = .int .i64 k ∧ TR w wx t r T R) (fun _ _ _ i _ => m - (intOf i).toNat)
    case atStart => exact ⟨_, _, 0, _, _, by omega, rfl, rfl, rfl, rfl, HS.out⟩
    case round =>
      obtain ⟨t, r, k, T, R, hkm, rfl, rfl, rfl, rfl, hTR⟩ := hrel
      have HTR := Lib.hid hTR
      clear hTR
      by_cases hlt : k < m ∧ k < 40
      · obtain ⟨a, kd, n, x, bv, kw, b, ks', rfl, hab, k0, k1, k2, k3, k4, hop⟩ := HO3.out k hlt.1
        have HOP := Lib.hid hop
        have l1 : (k : Int) < (m : Int) := by omega
        have l2 : (k : Int) < 40 := by omega
        have HB := Lib.hid HTR.out.below
        replace k0 := (HB.out.cell (p := a.add (k * 5)) (by rw [add_block]; exact hab)).trans k0
        replace k1 : wr.cell? ⟨(a.add (k * 5)).block, (a.add (k * 5)).off + 1, none⟩ = some (.int .i64 n) := (HB.out.cell (p := (a.add (k * 5)).add 1) (by rw [add_block, add_block]; exact hab)).trans k1
        replace k2 : wr.cell? ⟨(a.add (k * 5)).block, (a.add (k * 5)).off + 2, none⟩ = some (.int .i64 x) := (HB.out.cell (p := (a.add (k * 5)).add 2) (by rw [add_block, add_block]; exact hab)).trans k2
        replace k3 : wr.cell? ⟨(a.add (k * 5)).block, (a.add (k * 5)).off + 3, none⟩ = some bv := (HB.out.cell (p := (a.add (k * 5)).add 3) (by rw [add_block, add_block]; exact hab)).trans k3
        replace k4 : wr.cell? ⟨(a.add (k * 5)).block, (a.add (k * 5)).off + 4, none⟩ = some kw := (HB.out.cell (p := (a.add (k * 5)).add 4) (by rw [add_block, add_block]; exact hab)).trans k4
        clear hop
        go_wp2_with fail
        refine (step_any HTR.out HOP.out).mono ?_
        rintro e w3 ⟨t', r', T', R', rfl, hT'⟩
        have HT' := Lib.hid hT'
        clear hT' k0 k1 k2 k3 k4
        go_wp2_with fail
        go_roundw
        case rel => exact ⟨t', r', k + 1, T', R', by omega, rfl, rfl, rfl, by go_num, HT'.out⟩
        case measure => simp [intOf]; omega
      · by_cases hkm2 : k < m
        · have l1 : (k : Int) < (m : Int) := by omega
          have l2 : ¬ (k : Int) < 40 := by omega
          go_wp2_with fail
          go_meet
          exact ⟨t, r, T, R, rfl, rfl, rfl, HTR.out⟩
        · have l1 : ¬ (k : Int) < (m : Int) := by omega
          go_wp2_with fail
          go_meet
          exact ⟨t, r, T, R, rfl, rfl, rfl, HTR.out⟩
  case rest =>
    obtain ⟨t, r, T, R, rfl, rfl, rfl, hTR⟩ := hcut
    have HTR := Lib.hid hTR
    clear hTR HT HS HN HRN HB1
    obtain ⟨Ak, ck, rfl, hk1, hk2, _⟩ := HKS.out
    unfold maxLen at hk2
    go_upto_if 54 with fail
    go_cut [1] from 55 to 56 (fun v wx => ∃ ks', IIs w v ks' ∧ (∀ k ∈ ks', inR k) ∧ TR w wx t r T R)
    case first =>
      by_cases g2 : 20 < ks.length
      · have q3 : (20 : Int) < (ks.length : Int) := by omega
        have q4 : 20 ≤ ck := by omega
        go_wp2_with fail
        go_meet
        exact ⟨ks.take 20, HKS.out.upto 20 (by omega), fun k hk => HKR.out k (List.mem_of_mem_take hk), HTR.out⟩
      · have q3 : ¬ (20 : Int) < (ks.length : Int) := by omega
        go_wp2_with fail
        go_meet
        exact ⟨ks, HKS.out, HKR.out, HTR.out⟩
    case rest =>
      obtain ⟨ks2, hks2, hkr2, hTR⟩ := hcut
      have HCC := Lib.hid (crT_any hTR.tape (hks2.below hTR.below) hkr2)
      have HTR2 := Lib.hid hTR
      clear hTR hks2 hkr2
      go_wp2_with fail
      refine (HCC.out).mono ?_
      rintro x w5 ⟨c, rfl, hc, hb5⟩
      obtain ⟨TC, hCr⟩ := cr_of HTR2.out hc hb5
      have HCR := Lib.hid hCr
      clear hc hCr
      have HSG := Lib.hid (segs_any HCR.out.c)
      go_wp2_with fail
      refine (HSG.out).mono ?_
      rintro x w6 ⟨v6, ns, rfl, hrow, hperm, _, hown, hb6⟩
      have HC6 := Lib.hid (HCR.out.keep hb6)
      have HROW := Lib.hid hrow
      have HP := Lib.hid hperm
      obtain ⟨Al, cl, rfl, hl1, hl2, _⟩ := hrow.form
      unfold maxLen at hl2
      clear hrow hperm hown hb6
      go_wp2_with fail
      go_loopw [63] (fun i wx => ∃ k : Nat, k ≤ ns.length ∧ i = .int .i64 k ∧ Below w6.heap.size w6 wx) (fun i _ => ns.length - (intOf i).toNat)
      case atStart => exact ⟨0, by omega, rfl, Below.refl _ _⟩
      case round =>
        obtain ⟨k, hk, rfl, hb⟩ := hrel
        have HB6 := Lib.hid hb
        by_cases hlt : k < ns.length
        · obtain ⟨g, u, rfl, hg, _, hu, hcell⟩ := row_at (HROW.out.below hb) hlt
          obtain ⟨s, hs, rfl⟩ : ∃ s, ns[k]? = some s ∧ u = .int .i64 s := by
            rw [List.getElem?_map, List.getElem?_eq_getElem hlt] at hu
            exact ⟨_, List.getElem?_eq_getElem hlt, (Option.some.inj hu).symm⟩
          obtain ⟨lt, lc, hle, hpos, hmx, hcalls⟩ := HC6.out.hit HP.out hs
          have HCL := Lib.hid hcalls
          have q1 : ¬ (lt : Int) < (lc : Int) := by omega
          have q2 : ¬ (lc : Int) = 0 := by omega
          have q2' : lc ≠ 0 := by omega
          have q3 : ((lc : Int) == 0) = false := by rw [beq_eq_false_iff_ne]; omega
          have q4 : (lc == 0) = false := by rw [beq_eq_false_iff_ne]; omega
          have HLT := Lib.hid hlt
          replace hlt : (k : Int) < (ns.length : Int) := by omega
          clear hb hcalls hu hs
          go_wp2_with fail
          refine ((HCL.out _ HB6.out).1).mono ?_
          rintro y w7 ⟨rfl, rfl⟩
          go_wp2_with fail
          refine ((HCL.out _ HB6.out).2).mono ?_
          rintro y w7 ⟨rfl, rfl⟩
          go_wp2_with fail
          refine ((HCL.out _ HB6.out).2).mono ?_
          rintro y w7 ⟨rfl, rfl⟩
          go_wp2_with fail
          go_roundw
          case rel => exact ⟨k + 1, HLT.out, by go_num, HB6.out⟩
          case measure => simp [intOf]; omega
        · obtain rfl : k = ns.length := by omega
          go_wp2_with fail
          have HC7 := Lib.hid (HC6.out.keep HB6.out)
          refine (segs_any HC7.out.t).mono ?_
          rintro x w8 ⟨v8, ms, rfl, hrow8, hperm8, _, hown8, hb8⟩
          have HC8 := Lib.hid (HC7.out.keep hb8)
          have HG8 := Lib.hid (HG.out.below HC8.out.below)
          have HROW8 := Lib.hid hrow8
          have HP8 := Lib.hid hperm8
          obtain ⟨Am, cm, rfl, hm1, hm2, _⟩ := hrow8.form
          unfold maxLen at hm2
          clear hrow8 hperm8 hown8 hb8 hb
          go_wp2_with fail
          go_loopw [84] (fun i wx => ∃ k : Nat, k ≤ ms.length ∧ i = .int .i64 k ∧ Below w8.heap.size w8 wx) (fun i _ => ms.length - (intOf i).toNat)
          case atStart => exact ⟨0, by omega, rfl, Below.refl _ _⟩
          case round =>
            obtain ⟨k, hk, rfl, hb⟩ := hrel
            have HB8 := Lib.hid hb
            by_cases hlt : k < ms.length
            · obtain ⟨g, u, rfl, hg, _, hu, hcell⟩ := row_at (HROW8.out.below hb) hlt
              obtain ⟨s, hs, rfl⟩ : ∃ s, ms[k]? = some s ∧ u = .int .i64 s := by
                rw [List.getElem?_map, List.getElem?_eq_getElem hlt] at hu
                exact ⟨_, List.getElem?_eq_getElem hlt, (Option.some.inj hu).symm⟩
              obtain ⟨bb, got, sy, er, hsy, hgb, htk, hmx, hcalls⟩ := HC8.out.hit3 HG8.out HP8.out hs
              have HCL := Lib.hid hcalls
              have HLT := Lib.hid hlt
              have HTK := Lib.hid htk
              have HSY := Lib.hid hsy
              have HGB := Lib.hid hgb
              replace hlt : (k : Int) < (ms.length : Int) := by omega
              clear hb hcalls hu hs htk
              go_wp2_with fail
              refine ((HCL.out _ HB8.out).1).mono ?_
              rintro y w9 ⟨vb, rfl, hbb, hb9⟩
              have HB9 := Lib.hid (HB8.out.trans (hb9.mono HB8.out.size))
              have HBB := Lib.hid hbb
              obtain ⟨Ab, cb, rfl, hbl1, hbl2, _⟩ := hbb
              clear hb9
              go_wp2_with fail
              refine ((HCL.out _ HB9.out).2.1).mono ?_
              rintro y w10 ⟨vg, rfl, hgg, hb10⟩
              have HB10 := Lib.hid (HB9.out.trans (hb10.mono HB9.out.size))
              have HGG := Lib.hid hgg
              have HBB2 : Hid (BIs w10 (.slice Ab got.length cb) got) := by
                have := bis_upto (HBB.out.below hb10) got.length hgb
                rw [HTK.out] at this
                exact this
              obtain ⟨Ag, cg, rfl, hgl1, hgl2, _⟩ := hgg
              have CV := Lib.hid (fun (W : World) (hW : Below w10.heap.size w10 W) => And.intro (bis_string (HGG.out.below hW)) (bis_string (HBB2.out.below hW)))
              unfold maxLen at hbl2 hgl2
              have q1 : ¬ (got.length : Int) < (sy : Int) := by omega
              have q2 : ¬ (bb.length : Int) < (got.length : Int) := by omega
              have q3 : got.length ≤ cb := by omega
              clear hb10
              go_wp2_with fail
              have e1 : (got.length < sy) = False := eq_false (by have := HSY.out; omega)
              have e2 : (bb.length < got.length) = False := eq_false (by have := HGB.out; omega)
              have e3 : ((got.length : Int) < (sy : Int)) = False := eq_false (by have := HSY.out; omega)
              have e4 : ((bb.length : Int) < (got.length : Int)) = False := eq_false (by have := HGB.out; omega)
              go_region_held (fun W => (convert 32 9 (.slice Ag got.length cg)).run Tryz.prog W = .ok (.string ⟨got.toArray⟩) W ∧ (convert 32 9 (.slice Ab got.length cb)).run Tryz.prog W = .ok (.string ⟨got.toArray⟩) W) ((first | go_keep | assumption | exact CV.out _ (Below.refl _ _) | exact CV.out _ (below_drew (Below.refl _ _)))) (first | (go_at_call_of 16 t; refine ((HCL.out _ (below_drew HB10.out)).2.2.1).mono ?_; rintro y w11 ⟨rfl, hb11⟩; have HB11 : Hid (Below w10.heap.size w10 w11) := Lib.hid ((below_drew (Below.refl _ _)).trans hb11); have hcv := CV.out _ HB11.out) | (go_at_call_of 16 c; refine ((HCL.out _ (HB10.out.trans (HB11.out.mono HB10.out.size))).2.2.2).mono ?_; rintro y w12 ⟨rfl, hb12⟩; have HB12 : Hid (Below w10.heap.size w10 w12) := Lib.hid (HB11.out.trans (hb12.mono HB11.out.size)); have hcv2 := CV.out _ HB12.out))
              go_wp2_with fail
              exact ⟨⟨k + 1, HLT.out, by go_num, HB10.out.trans (HB12.out.mono HB10.out.size)⟩, by have := HLT.out; simp [intOf]; omega⟩
            · obtain rfl : k = ms.length := by omega
              go_wp2_with fail
              have HC9 := Lib.hid (HC8.out.keep HB8.out)
              refine (down_any HC9.out.c).mono ?_
              rintro y w9 ⟨rfl, nn, rfl⟩
              rw [HC9.out.up]
              have HB9 := Lib.hid (below_drewN HC9.out.below nn)
              have HA9 := Lib.hid (awake4 (HG.out.below HB9.out))
              go_wp2_with fail
              refine (HA9.out).mono ?_
              rintro y w10 ⟨rfl, hb10⟩
              have HB10 := Lib.hid (HB9.out.trans (hb10.mono HB9.out.size))
              clear hb10
              go_wp2_with fail
              go_ret
              exact ⟨rfl, HB10.out⟩
end Go.Proofs.YtkdcknkgfgkoaaaGreatDoor
