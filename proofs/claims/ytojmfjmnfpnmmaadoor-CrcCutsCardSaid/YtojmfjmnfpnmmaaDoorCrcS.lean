/- The law CrcCuts. -/
import Derived.Test.YtojmfjmnfpnmmaaDoorCrcT
set_option linter.unusedSimpArgs false
set_option linter.unusedVariables false
set_option linter.unnecessarySimpa false
namespace Go.Proofs.YtojmfjmnfpnmmaaDoor
open Go.RowKit

theorem info3 : (Tryd.prog.info? 3).map (fun i => (i.zero, i.size, i.bytes)) = some (some (.int .i64 0), 1, 8) := by kernel_rfl
theorem take_five {ls : List (List UInt8)} {k : Nat} (h5 : k < 5) (hk : k < ls.length) : (ls.take (min (k + 1) 5)).map shortL = (ls.take (min k 5)).map shortL ++ [shortL ls[k]] := by
  rw [show min (k + 1) 5 = k + 1 from by omega, show min k 5 = k from by omega, List.take_succ_eq_append_getElem hk, List.map_append]; rfl
theorem five_le (ls : List (List UInt8)) (k : Nat) : ((ls.take (min k 5)).map shortL).length ≤ 5 ∧ ∀ m ∈ (ls.take (min k 5)).map shortL, m.length ≤ 200 := by
  refine ⟨by rw [List.length_map, List.length_take]; omega, fun m hm => ?_⟩
  obtain ⟨l, _, rfl⟩ := List.mem_map.1 hm
  exact shortL_le l
theorem src_int {w : World} (x : Int) : Src Tryd.prog 1 24 (.slice (some ⟨w.heap.size, 0, none⟩) 1 1) 1 [.int .i64 x] (w.alloc (.cells #[.int .i64 x] 3)) :=
  Src.ofSlice _ Tryd.underlying24 ⟨w.heap.size, 0, none⟩ 1 1 [.int .i64 x] rfl (one_new _ _ rfl _ _) (by simp [Value.oneCell'])

set_option maxRecDepth 100000 in
set_option maxHeartbeats 4000000 in
theorem law_cuts {w : World} {v0 : Value} {ls0 : List (List UInt8)} {c : Int} (hM : Mov w) (h : PIs w v0 ls0) (hc0 : -9223372036854775808 ≤ c) (hc1 : c ≤ 9223372036854775807) :
    Calls Tryd.prog 3 #[v0, .int .i64 c] w fun e w' => e = .returned (.bool true) ∧ Below w.heap.size w w' := by
  have HM := Lib.hid hM
  have HP := Lib.hid h
  obtain ⟨A0, cap0, rfl, g1, g2, g3⟩ := h
  unfold maxLen at g2
  have G3 := Lib.hid g3
  have hl0 : ls0.length ≤ 9223372036854775807 := by omega
  clear g3 hM
  go_enter Tryd.func3, Tryd.ntmps3
  go_wp2_with fail
  go_loopw [5, 6, 18] (fun b es i wr => ∃ (k : Nat) (ms : List (List UInt8)), k ≤ ls0.length ∧ i = .int .i64 k ∧ ms = (ls0.take (min k 5)).map shortL ∧ Two wr w.heap.size b (frs ms).length (bc (frs ms)) es ms.length (endsV ms) ∧ Below w.heap.size w wr) (fun _ _ i _ => ls0.length - (intOf i).toNat)
  case atStart => exact ⟨0, [], by omega, rfl, rfl, ⟨.nil _ _, .nil _ _, (fun g h => by cases h), (fun g h => by cases h), (fun g h => by cases h)⟩, Below.refl _ _⟩
  case round =>
    obtain ⟨k, ms, hk, rfl, hms, htwo, hb⟩ := hrel
    have hfl := five_le ls0 k
    rw [← hms] at hfl
    have hEl := endP_le ms hfl.2
    unfold endP at hEl
    have HT := Lib.hid htwo
    have HBw := Lib.hid hb
    have HMS := Lib.hid hms
    have HFL := Lib.hid hfl
    by_cases hlt : k < ls0.length
    · obtain ⟨a, x, rfl, hab, hcx, hB⟩ := G3.out k ls0[k] (List.getElem?_eq_getElem hlt)
      have hcx2 := (hb.cell (by rw [add_block]; exact hab)).trans hcx
      have HS := Lib.hid (short_any (hB.below hb))
      have hsl := shortL_le ls0[k]
      have H5 : k < 5 → Hid ((ls0.take (min (k + 1) 5)).map shortL = ms ++ [shortL ls0[k]]) := fun h5 => by show _ = _; rw [hms]; exact take_five h5 hlt
      have HN : ¬ k < 5 → Hid (ms = (ls0.take (min (k + 1) 5)).map shortL) := fun h5 => by show _ = _; rw [hms, show min (k + 1) 5 = min k 5 from by omega]
      obtain ⟨Ax, cx, rfl, _, _, hx3⟩ := hB
      obtain ⟨Ab, cb, rfl, _, _, _, _, hb3⟩ := htwo.left.form
      obtain ⟨Ae, ce, rfl, _, _, _, _, he3⟩ := htwo.right.form
      clear hx3 htwo hb hcx hms hb3 he3
      generalize shortL ls0[k] = sl at *
      by_cases h5 : (k : Int) < 5
      · have H5' := H5 (by omega)
        clear H5 HN
        go_wp2_with fail
        refine (HS.out).mono ?_
        rintro e w' ⟨x2, rfl, hx2, rfl⟩
        have HA := Lib.hid (Below.new (w := wr) (.cells #[x2] 23))
        have HW := Lib.hid (wrap_any (HM.out.below (HBw.out.trans (HA.out.mono HBw.out.size))) (pis_one hx2) (by simp; omega))
        rw [List.flatten_cons, List.flatten_nil, List.append_nil] at HW
        obtain ⟨A2, c2, rfl, _, _, h23⟩ := hx2
        clear h23
        go_wp2_with fail
        refine (HW.out).mono ?_
        rintro e w2 ⟨f, rfl, -, hf, hb2⟩
        have hf := hf (by omega)
        have HT2 := Lib.hid ((HT.out.below HA.out).below hb2)
        have HB2 := Lib.hid ((HBw.out.trans (HA.out.mono HBw.out.size)).trans (hb2.mono (by rw [asz]; have := HBw.out.size; omega)))
        have src := Lib.hid hf.bis.src
        have hfl2 := Lib.hid (frameB_len sl)
        obtain ⟨A3, c3, rfl, _, _, h33⟩ := hf.bis
        clear hf hb2 h33
        have hlen : Hid ((frs ms).length + (frameB sl).length ≤ 16777216) := by show _ ≤ _; have := HFL.out.1; have := hfl2.out; omega
        go_wp2_with (at_builtin; refine wpList_append_row _ _ Tryd.underlying23 info5 rfl (by decide) (by decide) _ rfl _ _ 23 rfl (frs ms).length (frameB sl).length (bc (frs ms)) (bc (frameB sl)) _ _ rfl rfl HT2.out.left src.out hlen.out ?_)
        intro v' w3 hrow hg hu
        have hT3 := HT2.out.grow hrow hg hu HB2.out.size
        rw [← List.length_append, ← bc_append, ← frs_snoc] at hT3
        have HB3 := Lib.hid (HB2.out.grown hg HB2.out.size HT2.out.ownL)
        have HFE : Hid (((frs (ms ++ [sl])).length : Int) ≤ 10000) := by show _ ≤ _; rw [frs_snoc, List.length_append, hfl2.out]; have := HFL.out.1; omega
        have HT3 := Lib.hid hT3
        obtain ⟨Av, cv, rfl, _, _, _, _, hv3⟩ := hT3.left.form
        clear hrow hg hu hT3 hv3 hfl2 hlen
        have src2 := Lib.hid (src_int (w := w3) ((frs (ms ++ [sl])).length : Nat))
        have HA3 := Lib.hid (Below.new (w := w3) (.cells #[.int .i64 ((frs (ms ++ [sl])).length : Nat)] 3))
        have HT4 := Lib.hid (HT3.out.below HA3.out)
        have HB4 := Lib.hid (HB3.out.trans (HA3.out.mono HB3.out.size))
        go_wp2_with (at_builtin; refine wpList_append_row _ _ Tryd.underlying24 info3 rfl (by decide) (by decide) _ rfl _ _ 24 rfl ms.length 1 (endsV ms) [.int .i64 ((frs (ms ++ [sl])).length : Nat)] _ _ rfl rfl HT4.out.right src2.out ?_ ?_)
        · have := HFL.out.1; omega
        intro v2 w4 hrow hg hu
        have hT5 := (HT4.out.symm.grow hrow hg (by rw [asz]; exact hu) HB4.out.size).symm
        have e1 : endsV ms ++ [.int .i64 ((frs (ms ++ [sl])).length : Nat)] = endsV (ms ++ [sl]) := (endsV_snoc ms sl).symm
        have e2 : ms.length + 1 = (ms ++ [sl]).length := by simp
        rw [e1, e2] at hT5
        have HT5 := Lib.hid hT5
        have HB5 := Lib.hid (HB4.out.grown hg HB4.out.size HT4.out.ownR)
        clear hrow hg hu hT5 e1 e2
        go_wp2
        go_roundw
        case rel => exact ⟨k + 1, ms ++ [sl], by omega, by go_num, H5'.out.symm, HT5.out, HB5.out⟩
        case measure => simp [intOf]; omega
      · have HN' := HN (by omega)
        clear H5 HN
        go_wp2_with fail
        go_roundw
        case rel => exact ⟨k + 1, ms, by omega, by go_num, HN'.out, HT.out, HBw.out⟩
        case measure => simp [intOf]; omega
    · obtain rfl : k = ls0.length := by omega
      have HMS2 : Hid (ms = (ls0.take 5).map shortL) := by
        show _ = _
        rw [hms, List.take_eq_take_iff.2 (by omega : min (min ls0.length 5) ls0.length = min 5 ls0.length)]
      have hb1000 : ((frs ms).length : Int) ≤ 1035 := by have := HFL.out.1; omega
      have hbN : (frs ms).length ≤ 1035 := by have := HFL.out.1; omega
      have hm5 : (ms.length : Int) ≤ 5 := by have := HFL.out.1; omega
      obtain ⟨i, hi, hcs⟩ := cut_cases c (frs ms).length
      have hbis := htwo.left.bis
      obtain ⟨Ab, cb, rfl, hcb, hmb, _, _, hb3⟩ := htwo.left.form
      obtain ⟨Ae, ce, rfl, _, hme, _, _, he3⟩ := htwo.right.form
      have HALL := Lib.hid (all_any (HM.out.below hb) (hbis.upto i hi) (by rw [List.length_take]; omega))
      have HEC : Hid (∀ j, j < ms.length → ∃ g, Ae = some ⟨g, 0, none⟩ ∧ g < wr.heap.size ∧ wr.cell? ⟨g, j, none⟩ = some (.int .i64 (endP (ms.take (j + 1)) : Nat))) := fun j hj => by
        obtain ⟨g, e, hc⟩ := he3 j _ (endsV_at hj)
        exact ⟨g, e, htwo.right.lt g (by rw [e]; rfl), hc⟩
      have hi1 : (i : Int) ≤ (cb : Int) := by omega
      have hi2 : i ≤ cb := by omega
      unfold maxLen at hmb hme
      clear htwo hb hbis hb3 he3 hms HMS hEl hfl
      go_upto_if 43 with fail
      go_cut [1] (fun s1 wx => s1 = .int .i64 (i : Int) ∧ wr = wx)
      case first =>
        rcases hcs with hcs | ⟨hi0, hcs⟩
        · go_wp2_with fail
          go_meet
          exact ⟨by first | rfl | rw [hcs], rfl⟩
        · go_wp2_with fail
          go_meet
          exact ⟨by first | rfl | rw [hcs], rfl⟩
      case rest =>
        obtain ⟨rfl, rfl⟩ := hcut
        clear hcs
        go_wp2_with fail
        refine (HALL.out).mono ?_
        rintro e w5 ⟨x9, xs, ls, rfl, hown, hbo, hbe, hf0, hb5⟩
        obtain ⟨J, hJ, hls, hJi, hJn⟩ := cut_parse ls ms i (fun m hm => Nat.le_trans (HFL.out.2 m hm) (by omega)) (by unfold endP; exact hi) hbe hf0
        obtain ⟨A9, c9, rfl, hx9⟩ : ∃ A c, x9 = .slice A ls.length c ∧ ∀ (k : Nat) (x : Value), xs[k]? = some x → ∃ a : Addr, A = some a ∧ a.block < w5.heap.size ∧ w5.cell? (a.add k) = some x := by
          rcases hown with ⟨h, h2⟩ | ⟨g, c, h, hV⟩
          · exact ⟨none, 0, by rw [h, ← hbo.1, h2]; rfl, fun k x hx => by rw [h2] at hx; simp at hx⟩
          · exact ⟨_, c, by rw [h, hbo.1], fun k x hx => ⟨_, rfl, hV.lt, by rw [add0]; exact hV.holds k x hx⟩⟩
        have HX9 := Lib.hid hx9
        have HBO := Lib.hid hbo
        have HLS := Lib.hid hls
        have HJ2 := Lib.hid (And.intro hJi hJn)
        have HB5 := Lib.hid (HBw.out.trans (hb5.mono HBw.out.size))
        have HEC5 : Hid (∀ j, j < ms.length → ∃ g, Ae = some ⟨g, 0, none⟩ ∧ w5.cell? ⟨g, j, none⟩ = some (.int .i64 (endP (ms.take (j + 1)) : Nat))) := fun j hj => by
          obtain ⟨g, e, hlt, hc⟩ := HEC.out j hj
          exact ⟨g, e, (hb5.cell (p := ⟨g, j, none⟩) hlt).trans hc⟩
        have hlsl : ls.length = J := by rw [hls, List.length_take]; omega
        have HEP : Hid (endP ls = endP (ms.take J)) := by show _ = _; rw [hls]
        have hep : endP ls ≤ 1035 := by rw [hls]; exact Nat.le_trans (endP_take_le ms hJ) (by rw [List.take_length]; unfold endP; exact hbN)
        have HLL := Lib.hid hlsl
        have hep' : (endP ls : Int) ≤ 1035 := by omega
        have hJ5 : (J : Int) ≤ 5 := by omega
        rw [hlsl]
        clear hown hx9 hbo hbe hf0 hb5 hls hJi hJn HALL HEC hlsl hep
        go_wp2_with fail
        go_loopw [11, 12, 55] (fun wh la i wx => ∃ k : Nat, k ≤ ms.length ∧ i = .int .i64 k ∧ wh = .int .i64 ((min k J : Nat) : Int) ∧ la = .int .i64 (endP (ms.take (min k J)) : Nat) ∧ w5 = wx) (fun _ _ i _ => ms.length - (intOf i).toNat)
        case atStart => exact ⟨0, by omega, rfl, by simp, by simp [endP, frs], rfl⟩
        case round =>
          obtain ⟨k, hk2, rfl, rfl, rfl, rfl⟩ := hrel
          by_cases hlt2 : k < ms.length
          · obtain ⟨g, rfl, hcg⟩ := HEC5.out k hlt2
            have hkJ : (min k J : Nat) ≤ 5 := by omega
            by_cases hkj : k < J
            · have q1 : (endP (ms.take (k + 1)) : Int) ≤ (i : Int) := by have := endP_take_le ms (show k + 1 ≤ J by omega); have := HJ2.out.1; omega
              have HM1 : Hid (min (k + 1) J = k + 1) := by show _ = _; omega
              rw [show min k J = k from by omega]
              go_wp2_with fail
              go_roundw
              case rel => exact ⟨k + 1, by omega, by go_num, by rw [HM1.out]; go_num, by rw [HM1.out], by first | rfl | trivial⟩
              case measure => simp [intOf]; omega
            · have q1 : ¬ (endP (ms.take (k + 1)) : Int) ≤ (i : Int) := by have := endP_take_le ms (show J + 1 ≤ k + 1 by omega); have := HJ2.out.2 (by omega); omega
              have HM1 : Hid (min (k + 1) J = min k J) := by show _ = _; omega
              go_wp2_with fail
              go_roundw
              case rel => exact ⟨k + 1, by omega, by go_num, by rw [HM1.out], by rw [HM1.out], by first | rfl | trivial⟩
              case measure => simp [intOf]; omega
          · obtain rfl : k = ms.length := by omega
            rw [show min ms.length J = J from by omega, ← HEP.out]
            go_wp2_with fail
            go_loopw [77] (fun i wx => ∃ k : Nat, k ≤ J ∧ i = .int .i64 k ∧ Below w5.heap.size w5 wx) (fun i _ => J - (intOf i).toNat)
            case atStart => exact ⟨0, by omega, rfl, Below.refl _ _⟩
            case round =>
              obtain ⟨k, hk3, rfl, hb⟩ := hrel
              have HBX := Lib.hid hb
              by_cases hlt3 : k < J
              · have hml : ms.length = min 5 ls0.length := by rw [HMS2.out, List.length_map, List.length_take]
                have hkl : k < ls0.length := by omega
                have hk5 : k < 5 := by omega
                have hmk : ls[k]? = some (shortL ls0[k]) := by
                  rw [HLS.out, List.getElem?_take, if_pos hlt3, HMS2.out, List.getElem?_map, List.getElem?_take, if_pos hk5, List.getElem?_eq_getElem hkl]; rfl
                obtain ⟨x, hx⟩ : ∃ x, xs[k]? = some x := by
                  have h1 := HBO.out.1
                  have h2 := HLL.out
                  exact ⟨_, List.getElem?_eq_getElem (by omega)⟩
                obtain ⟨a9, rfl, hlt9, hc9⟩ := HX9.out k x hx
                have hc9' := (hb.cell (p := a9.add k) (by rw [add_block]; exact hlt9)).trans hc9
                obtain ⟨hB1, _⟩ := HBO.out.2 k x _ hx hmk
                obtain ⟨a, y, rfl, hab, hcx, hBy⟩ := G3.out k ls0[k] (List.getElem?_eq_getElem hkl)
                have hbw := HB5.out.trans (hb.mono HB5.out.size)
                have hcy := (hbw.cell (p := a.add k) (by rw [add_block]; exact hab)).trans hcx
                have hByx := hBy.below hbw
                obtain ⟨Ay, cy, rfl, hy1, hy2, hy3⟩ := hBy
                have hB2 : BIs wr (.slice Ay (min ls0[k].length 200) cy) (shortL ls0[k]) := by
                  have := hByx.upto (min ls0[k].length 200) (by omega)
                  have e : ls0[k].take (min ls0[k].length 200) = shortL ls0[k] := List.take_eq_take_iff.2 (by omega)
                  rwa [e] at this
                have SH := Lib.hid (fun W => (short_lit (w := W) (A := Ay) hy1 hy2).mono fun e w' (h : e = .returned (.slice Ay (min ls0[k].length 200) cy) ∧ W = w') => (⟨h.1, h.2.symm⟩ : e = .returned (.slice Ay (min ls0[k].length 200) cy) ∧ w' = W))
                generalize shortL ls0[k] = sl at *
                generalize min ls0[k].length 200 = nn at *
                generalize ls0[k].length = n0 at *
                have cv1 := fun m => bis_string (hB1.below (below_drewN hb m))
                have cv2 := fun m => bis_string (hB2.below (below_drewN (Below.refl _ _) m))
                have hkJ : (k : Int) < (J : Int) := by omega
                have hkl' : (k : Int) < (ls0.length : Int) := by omega
                clear hb hbw hx hmk hml hc9 hcx hB1 hB2 hByx hy1 hy2 hy3
                go_wp2_with fail
                go_quiet ((go_at_call 7; exact Calls.quiet_of_same (SH.out _)))
                go_wp2_with fail
                go_roundw
                case rel => exact ⟨k + 1, by omega, by go_num, below_drewN HBX.out _⟩
                case measure => simp [intOf]; omega
              · obtain rfl : k = J := by omega
                have hbw := HB5.out.trans (hb.mono HB5.out.size)
                have HAW := Lib.hid (awake3 (HM.out.below hbw))
                have HBW := Lib.hid hbw
                clear hb hbw
                go_wp2_with fail
                refine (HAW.out).mono ?_
                rintro e w6 ⟨rfl, hb6⟩
                have HB6 := Lib.hid (HBW.out.trans (hb6.mono HBW.out.size))
                clear hb6
                go_wp2
                go_ret
                exact ⟨rfl, HB6.out⟩
end Go.Proofs.YtojmfjmnfpnmmaaDoor
