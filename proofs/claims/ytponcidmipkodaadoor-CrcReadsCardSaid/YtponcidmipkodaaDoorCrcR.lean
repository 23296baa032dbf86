/- The law CrcReads. -/
import Derived.Test.YtponcidmipkodaaDoorCrcK
set_option linter.unusedSimpArgs false
set_option linter.unusedVariables false
set_option linter.unnecessarySimpa false
namespace Go.Proofs.YtponcidmipkodaaDoor
open Go.RowKit

theorem xor_any (x y : UInt8) : ∃ z : UInt8, bits .xor .u8 (x.toNat : Int) (y.toNat : Int) = (z.toNat : Int) := by
  have hx := UInt8.toNat_lt x
  have hy := UInt8.toNat_lt y
  have hlt : x.toNat ^^^ y.toNat < 256 := Nat.xor_lt_two_pow (n := 8) hx hy
  refine ⟨UInt8.ofNat (x.toNat ^^^ y.toNat), ?_⟩
  rw [u8_xor_nat _ _ hx hy, UInt8.toNat_ofNat', Nat.mod_eq_of_lt hlt]

theorem body_frame_rest {l : List UInt8} (hl : l.length ≤ 16384) (rest : List UInt8) : bodyP (frameB l ++ rest) = l := by
  unfold bodyP
  rw [szP_frame hl rest]
  have e : frameB l ++ rest = headB l.length ++ (l ++ (be4 (sumB (preB l)) ++ rest)) := by unfold frameB preB; simp only [List.append_assoc]
  have e3 : (headB l.length).length = 3 := rfl
  rw [e, ← e3, List.drop_left, List.take_left]
theorem Begins.at {l : List UInt8} {ls : List (List UInt8)} (h : Begins l ls) {k : Nat} (hk : k < ls.length) :
    firstP (l.drop (endP (ls.take k))) = ls[k].length + 7 ∧ bodyP (l.drop (endP (ls.take k))) = ls[k] ∧ endP (ls.take (k + 1)) = endP (ls.take k) + (ls[k].length + 7) ∧ endP (ls.take (k + 1)) ≤ l.length ∧ ls[k].length ≤ 16384 := by
  have hle := h.le ls[k] (List.getElem_mem hk)
  have e1 : ls.take (k + 1) = ls.take k ++ [ls[k]] := List.take_succ_eq_append_getElem hk
  have e2 : frs ls = frs (ls.take k) ++ (frameB ls[k] ++ frs (ls.drop (k + 1))) := by
    have : ls = ls.take (k + 1) ++ ls.drop (k + 1) := (List.take_append_drop _ _).symm
    conv => lhs; rw [this]
    unfold frs
    rw [List.flatMap_append, e1, List.flatMap_append]
    simp
  have e3 : l.drop (endP (ls.take k)) = frameB ls[k] ++ (frs (ls.drop (k + 1)) ++ l.drop (endP ls)) := by
    conv => lhs; rw [h.eq, e2]
    unfold endP
    rw [List.append_assoc, List.drop_left, List.append_assoc]
  refine ⟨by rw [e3, firstP_frame hle], by rw [e3, body_frame_rest hle], by rw [e1, endP_snoc], ?_, hle⟩
  have h1 := h.end_le
  have h2 : endP ls = endP (ls.take (k + 1)) + (frs (ls.drop (k + 1))).length := by
    unfold endP
    rw [e1, frs_snoc, e2]
    simp only [List.length_append]
    omega
  omega
theorem len_le_endP (ls : List (List UInt8)) : ls.length ≤ endP ls := by
  induction ls with
  | nil => simp [endP, frs]
  | cons m r ih =>
    have : endP (m :: r) = (m.length + 7) + endP r := by unfold endP frs; rw [List.flatMap_cons, List.length_append, frameB_len]
    rw [this, List.length_cons]; omega

set_option maxRecDepth 100000 in
set_option maxHeartbeats 16000000 in
theorem law_reads {w : World} {v0 v1 : Value} {ls0 : List (List UInt8)} {l1 : List UInt8} {c : Int} {y : UInt8} (hM : Mov w) (h : PIs w v0 ls0) (h1 : BIs w v1 l1) (hc0 : -9223372036854775808 ≤ c) (hc1 : c ≤ 9223372036854775807) :
    Calls Tryd.prog 5 #[v0, v1, .int .i64 c, .int .u8 (y.toNat : Int)] w fun e w' => e = .returned (.bool true) ∧ Below w.heap.size w w' := by
  have HM := Lib.hid hM
  have HT := Lib.hid (fun W (hW : Below w.heap.size w W) => short_any (h1.below hW))
  have HP := Lib.hid h
  have htl := shortL_le l1
  obtain ⟨A1, cap1, rfl, _, _, h13⟩ := h1
  obtain ⟨A0, cap0, rfl, g1, g2, g3⟩ := h
  unfold maxLen at g2
  have G3 := Lib.hid g3
  have hy8 : (y.toNat : Int) < 256 := by have := UInt8.toNat_lt y; omega
  have hl0 : ls0.length ≤ 9223372036854775807 := by omega
  clear h13 g3 hM
  generalize shortL l1 = tl at *
  go_enter Tryd.func5, Tryd.ntmps5
  go_wp2_with fail
  go_loopw [9, 30] (fun b i wr => ∃ (k : Nat) (lb : List UInt8), k ≤ ls0.length ∧ i = .int .i64 k ∧ OwnBy wr w.heap.size b lb ∧ lb.length ≤ 207 * (min k 5) ∧ Below w.heap.size w wr) (fun _ i _ => ls0.length - (intOf i).toNat)
  case atStart => exact ⟨0, [], by omega, rfl, .inl ⟨rfl, rfl⟩, by simp, Below.refl _ _⟩
  case round =>
    obtain ⟨k, lb, hk, rfl, hown, hlb, hb⟩ := hrel
    by_cases hlt : k < ls0.length
    · obtain ⟨a, x, rfl, hab, hcx, hB⟩ := G3.out k ls0[k] (List.getElem?_eq_getElem hlt)
      have hcx2 := (hb.cell (by rw [add_block]; exact hab)).trans hcx
      have HO := Lib.hid hown
      have HBw := Lib.hid hb
      have HLB := Lib.hid hlb
      have HS := Lib.hid (short_any (hB.below hb))
      have hsl := shortL_le ls0[k]
      obtain ⟨Ax, cx, rfl, _, _, hx3⟩ := hB
      clear hx3 hown hb hlb hcx
      generalize shortL ls0[k] = sl at *
      by_cases h5 : (k : Int) < 5
      · go_wp2_with fail
        refine (HS.out).mono ?_
        rintro e w' ⟨x2, rfl, hx2, rfl⟩
        have HRW := Lib.hid (rwrap_any hx2 (by omega))
        obtain ⟨A2, c2, rfl, _, _, h23⟩ := hx2
        clear h23
        go_wp2_with fail
        refine (HRW.out).mono ?_
        rintro e w2 ⟨f, rfl, hf, hb2⟩
        have HO2 := Lib.hid (HO.out.below hb2)
        have HB2 := Lib.hid (HBw.out.trans (hb2.mono HBw.out.size))
        have src := Lib.hid hf.bis.src
        have hfl := frameB_len sl
        obtain ⟨A3, c3, rfl, _, _, h33⟩ := hf.bis
        clear hf hb2 h33
        have hlen : Hid (lb.length + (frameB sl).length ≤ 1073741824) := by have := HLB.out; show _ ≤ _; omega
        have HFL := Lib.hid hfl
        clear hfl
        go_wp2_with (at_builtin; refine wpList_append_by _ rfl _ _ 22 rfl w.heap.size lb (frameB sl) _ _ rfl rfl HO2.out src.out hlen.out HB2.out.size ?_)
        intro v' w' hown hg
        have HO' := Lib.hid hown
        have HB' := Lib.hid (HB2.out.grown hg HB2.out.size HO2.out.rows)
        clear hown hg
        go_wp2
        go_roundw
        case rel => exact ⟨k + 1, lb ++ frameB sl, by omega, by go_num, HO'.out, by have := HLB.out; rw [List.length_append, HFL.out]; omega, HB'.out⟩
        case measure => simp [intOf]; omega
      · go_wp2_with fail
        go_roundw
        case rel => exact ⟨k + 1, lb, by omega, by go_num, HO.out, by have := HLB.out; omega, HBw.out⟩
        case measure => simp [intOf]; omega
    · obtain rfl : k = ls0.length := by omega
      have HO := Lib.hid hown
      have HBw := Lib.hid hb
      have hlb5 : lb.length ≤ 1035 := by omega
      have HS := Lib.hid (HT.out wr hb)
      clear hown hb hlb
      obtain ⟨Ab, cb, rfl, _, _, hb3⟩ := HO.out.bis
      clear hb3
      go_wp2_with fail
      refine (HS.out).mono ?_
      rintro e w' ⟨x2, rfl, hx2, rfl⟩
      have src := Lib.hid hx2.src
      obtain ⟨A2, c2, rfl, _, _, h23⟩ := hx2
      have hlen : Hid (lb.length + tl.length ≤ 1073741824) := by show _ ≤ _; omega
      clear h23
      go_wp2_with (at_builtin; refine wpList_append_by _ rfl _ _ 22 rfl w.heap.size lb tl _ _ rfl rfl HO.out src.out hlen.out HBw.out.size ?_)
      intro v' w1 hown hg
      have HO1 := Lib.hid hown
      have HB1 := Lib.hid (HBw.out.grown hg HBw.out.size HO.out.rows)
      have hll : (lb ++ tl).length ≤ 1235 := by rw [List.length_append]; omega
      clear hown hg
      generalize lb ++ tl = l at *
      obtain ⟨Av, cv, rfl, _, _, hv3⟩ := HO1.out.bis
      clear hv3
      go_upto_if 49 with fail
      go_cut [9] (fun b wx => ∃ lf, OwnBy wx w.heap.size b lf ∧ lf.length ≤ 1235 ∧ Below w.heap.size w wx)
      case first =>
        by_cases hne : l = []
        · have hl0 : (l.length : Int) = 0 := by rw [hne]; rfl
          have hl1 : ¬ (0 : Int) < (l.length : Int) := by omega
          have HLL := Lib.hid hll
          clear hne hl0 hll
          go_wp2_with fail
          go_meet
          exact ⟨l, HO1.out, HLL.out, HB1.out⟩
        · have hlp : 0 < l.length := List.length_pos_iff.2 hne
          have hlp' : (0 : Int) < (l.length : Int) := by omega
          obtain ⟨g, cg, e0, hC⟩ := HO1.out.form hne
          injection e0 with e1 _ e3
          subst e1 e3
          obtain ⟨m, hm, hcs⟩ := tmod_cases c l.length hlp
          have hcell := hC.holds m l[m] (List.getElem?_eq_getElem hm)
          have hfz := (hC.there m (Nat.lt_of_lt_of_le hm hC.le)).2
          obtain ⟨z, hz⟩ := xor_any l[m] y
          have HSET := Lib.hid (hC.set hm z)
          have HBS := Lib.hid (HB1.out.setCell (p := ⟨g, m, none⟩) hC.new (.int .u8 (z.toNat : Int)))
          generalize l[m] = x at *
          have hx8 : (x.toNat : Int) < 256 := by have := UInt8.toNat_lt x; omega
          have hm' : (m : Int) < (l.length : Int) := by omega
          have hm2 : (m : Int) ≤ 1234 := by omega
          have HLL := Lib.hid hll
          clear hC hll hne
          rcases hcs with hcs | ⟨hm0, hcs⟩
          · go_wp2_with fail
            go_meet
            exact ⟨l.set m z, .inr ⟨g, cv, by rw [List.length_set], HSET.out⟩, by rw [List.length_set]; exact HLL.out, HBS.out⟩
          · go_wp2_with fail
            go_meet
            exact ⟨l.set m z, .inr ⟨g, cv, by rw [List.length_set], HSET.out⟩, by rw [List.length_set]; exact HLL.out, HBS.out⟩
      case rest =>
        obtain ⟨lf, hO, hlf, hB⟩ := hcut
        obtain ⟨A, cap, rfl, hcap, hmax, hf3⟩ := hO.bis
        have HBF := Lib.hid (fun W (hW : Below wc.heap.size wc W) => hO.bis.below hW)
        have HB := Lib.hid hB
        unfold maxLen at hmax
        clear hf3 hO hB hll
        have hMc := HM.out.below HB.out
        have HRP := Lib.hid (fun W (hW : Below wc.heap.size wc W) => rpeel_any (HBF.out W hW))
        have HAW := Lib.hid (fun W (hW : Below w.heap.size w W) => awake3 (HM.out.below hW))
        have HALL := Lib.hid (fun W (hW : Below wc.heap.size wc W) => all_any (HM.out.below (HB.out.trans (hW.mono HB.out.size))) (HBF.out W hW) (by omega))
        have hPEEL : ∃ x, Hid (Calls Tryd.prog 18 #[.slice A lf.length cap] wc fun e w' => ∃ x, e = .returned (.tuple #[x, .int .i64 (firstP lf : Nat)]) ∧ (firstP lf = 0 → x = .slice none 0 0) ∧ (firstP lf ≠ 0 → BIs w' x (bodyP lf)) ∧ Below wc.heap.size wc w') ∧ x = () := by
          refine ⟨(), ?_, rfl⟩
          by_cases hf : firstP lf = 0
          · exact (peel_no hMc (HBF.out wc (Below.refl _ _)) hf).mono fun e w' ⟨h1, h2⟩ => ⟨_, by rw [h1, hf]; rfl, fun _ => rfl, fun h => absurd hf h, h2⟩
          · exact (peel_yes hMc (HBF.out wc (Below.refl _ _)) hf).mono fun e w' ⟨x, h1, h2, h3⟩ => ⟨x, h1, fun h => absurd h hf, fun _ => h2.bis, h3⟩
        obtain ⟨_, HPE, _⟩ := hPEEL
        have HONE : Hid (∀ W, Below wc.heap.size wc W → Calls Tryd.prog 17 #[.slice A lf.length cap] W fun e w' => ∃ z ok, e = .returned (.tuple #[z, .bool ok]) ∧ ((firstP lf = 0 ∨ firstP lf ≠ lf.length) → z = .slice none 0 0 ∧ ok = false) ∧ (firstP lf ≠ 0 → firstP lf = lf.length → BIs w' z (bodyP lf) ∧ ok = true) ∧ Below W.heap.size W w') := by
          intro W hW
          have hMW := HM.out.below (HB.out.trans (hW.mono HB.out.size))
          by_cases hf : firstP lf = 0 ∨ firstP lf ≠ lf.length
          · exact (one_no hMW (HBF.out W hW) hf).mono fun e w' ⟨h1, h2⟩ => ⟨_, _, h1, fun _ => ⟨rfl, rfl⟩, fun h h' => absurd hf (by omega), h2⟩
          · exact (one_yes hMW (HBF.out W hW) (by omega) (by omega)).mono fun e w' ⟨x, h1, h2, h3⟩ => ⟨x, true, h1, fun h => absurd h hf, fun _ _ => ⟨h2.bis, rfl⟩, h3⟩
        go_wp2_with fail
        refine (HPE.out).mono ?_
        rintro e w2 ⟨x13, rfl, hx0, hx1, hb2⟩
        have HB2 := Lib.hid hb2
        have HX := Lib.hid (And.intro hx0 hx1)
        clear hx0 hx1 hb2
        go_wp2_with fail
        refine (HRP.out w2 HB2.out).mono ?_
        rintro e w3 ⟨x15, rfl, hy0, hy1, hb3⟩
        have HX3 : Hid ((firstP lf = 0 → x13 = .slice none 0 0) ∧ (firstP lf ≠ 0 → BIs w3 x13 (bodyP lf))) := ⟨HX.out.1, fun h => (HX.out.2 h).below hb3⟩
        have HY := Lib.hid (And.intro hy0 hy1)
        have HB3 := Lib.hid (HB2.out.trans (hb3.mono HB2.out.size))
        clear hy0 hy1 hb3
        go_wp2_with fail
        refine (HONE.out w3 HB3.out).mono ?_
        rintro e w4 ⟨x17, ok, rfl, hz0, hz1, hb4⟩
        have HX4 : Hid ((firstP lf = 0 → x13 = .slice none 0 0) ∧ (firstP lf ≠ 0 → BIs w4 x13 (bodyP lf))) := ⟨HX3.out.1, fun h => (HX3.out.2 h).below hb4⟩
        have HY4 : Hid ((firstP lf = 0 → x15 = .slice none 0 0) ∧ (firstP lf ≠ 0 → BIs w4 x15 (bodyP lf))) := ⟨HY.out.1, fun h => (HY.out.2 h).below hb4⟩
        have HZ := Lib.hid (And.intro hz0 hz1)
        have HB4 := Lib.hid (HB3.out.trans (hb4.mono HB3.out.size))
        have hlf' : (lf.length : Int) ≤ 1235 := by omega
        have HLF := Lib.hid hlf
        clear hz0 hz1 hb4 hlf
        generalize hF : firstP lf = F at *
        have HFF := Lib.hid hF
        clear hF
        go_upto_region 17 with fail
        go_cut [120] (fun b wx => b = .bool false ∧ Below wc.heap.size wc wx)
        case first =>
          by_cases h0 : F = 0
          · obtain rfl := HX4.out.1 h0
            obtain rfl := HY4.out.1 h0
            obtain ⟨rfl, rfl⟩ := HZ.out.1 (.inl h0)
            subst h0
            have cv := bis_string (bis_empty (w := w4) none 0 (by unfold maxLen; omega))
            go_wp2_with fail
            go_meet
            exact ⟨rfl, HB4.out⟩
          · have b1 := HX4.out.2 h0
            have b2 := HY4.out.2 h0
            have cv1 := bis_string b1
            have cv2 := bis_string b2
            obtain ⟨A13, c13, rfl, _, _, h13⟩ := b1
            obtain ⟨A15, c15, rfl, _, _, h15⟩ := b2
            clear h13 h15
            have f0 : (0 : Int) < (F : Int) := by omega
            by_cases hl : F = lf.length
            · obtain ⟨b3, rfl⟩ := HZ.out.2 h0 hl
              have cv3 := bis_string b3
              obtain ⟨A17, c17, rfl, _, _, h17⟩ := b3
              have f1 : ((F : Int) == (lf.length : Int)) = true := by rw [beq_iff_eq]; exact_mod_cast hl
              clear h17 hl h0
              go_wp2_with fail
              go_meet
              exact ⟨rfl, HB4.out⟩
            · obtain ⟨rfl, rfl⟩ := HZ.out.1 (.inr hl)
              have f1 : ((F : Int) == (lf.length : Int)) = false := beq_eq_false_iff_ne.2 (by omega)
              clear hl h0
              go_wp2_with fail
              go_meet
              exact ⟨rfl, HB4.out⟩
        case rest =>
          obtain ⟨rfl, hb⟩ := hcut
          have HB6 := Lib.hid hb
          have HALLc := Lib.hid (HALL.out _ hb)
          clear hb
          go_wp2_with fail
          refine (HALLc.out).mono ?_
          rintro e w5 ⟨x19, xs, ls, rfl, hown, hbo, hbe, hf0, hb5⟩
          have HB7 := Lib.hid (HB6.out.trans (hb5.mono HB6.out.size))
          obtain ⟨A19, c19, rfl, hx19⟩ : ∃ A c, x19 = .slice A ls.length c ∧ ∀ (k : Nat) (x : Value), xs[k]? = some x → ∃ a : Addr, A = some a ∧ a.block < w5.heap.size ∧ w5.cell? (a.add k) = some x := by
            rcases hown with ⟨h, h2⟩ | ⟨g, c, h, hV⟩
            · exact ⟨none, 0, by rw [h, ← hbo.1, h2]; rfl, fun k x hx => by rw [h2] at hx; simp at hx⟩
            · exact ⟨_, c, by rw [h, hbo.1], fun k x hx => ⟨_, rfl, hV.lt, by rw [add0]; exact hV.holds k x hx⟩⟩
          have HX19 := Lib.hid hx19
          have HBO := Lib.hid hbo
          have HBE := Lib.hid hbe
          have HF0 := Lib.hid hf0
          have hlsE := len_le_endP ls
          have hEle := hbe.end_le
          have hls : (ls.length : Int) ≤ 1235 := by omega
          have hE5 : (endP ls : Int) ≤ (lf.length : Int) := by omega
          have HEL := Lib.hid (And.intro hlsE hEle)
          clear hown hbo hbe hf0 hb5 hx19 hlsE hEle
          go_wp2_with fail
          go_loopw [21, 128] (fun at' i wr => ∃ k : Nat, k ≤ ls.length ∧ i = .int .i64 k ∧ at' = .int .i64 (endP (ls.take k) : Nat) ∧ Below w5.heap.size w5 wr) (fun _ i _ => ls.length - (intOf i).toNat)
          case atStart => exact ⟨0, by omega, rfl, rfl, Below.refl _ _⟩
          case round =>
            obtain ⟨k, hk, rfl, rfl, hb⟩ := hrel
            have HBR := Lib.hid hb
            have hBw := HBF.out wr (HB7.out.trans (hb.mono HB7.out.size))
            by_cases hlt : k < ls.length
            · obtain ⟨p1, p2, p3, p4, p5⟩ := HBE.out.at hlt
              have hkx : k < xs.length := by rw [HBO.out.1]; exact hlt
              obtain ⟨a19, rfl, hab, hcx⟩ := HX19.out k xs[k] (List.getElem?_eq_getElem hkx)
              have hcx2 := (hb.cell (by rw [add_block]; exact hab)).trans hcx
              have hbx := ((HBO.out.2 k xs[k] ls[k] (List.getElem?_eq_getElem hkx) (List.getElem?_eq_getElem hlt)).1).below hb
              obtain ⟨a, rfl, hat⟩ : ∃ a, A = some a ∧ At wr a lf := by
                obtain ⟨a', c', e, _, _, hat⟩ := hBw.at (by intro e; rw [e] at p4; simp at p4; omega)
                injection e with e _ _
                exact ⟨a', e, hat⟩
              rw [p3] at p4
              have hv : BIs wr (.slice (some (a.add (endP (ls.take k)))) (lf.length - endP (ls.take k)) (cap - endP (ls.take k))) (lf.drop (endP (ls.take k))) := by
                have := hat.from (endP (ls.take k)) (lf.length - endP (ls.take k)) cap (by omega) hcap (by unfold maxLen; omega)
                have e : (lf.drop (endP (ls.take k))).take (lf.length - endP (ls.take k)) = lf.drop (endP (ls.take k)) := List.take_of_length_le (by rw [List.length_drop]; omega)
                rw [e] at this
                exact this
              have HRPk := Lib.hid (rpeel_any hv)
              have HP := Lib.hid (And.intro p1 (And.intro p2 p3))
              generalize hEE : endP (ls.take k) = E at *
              have HEE := Lib.hid hEE
              have q1 : (E : Int) ≤ (cap : Int) := by omega
              have q2 : E ≤ cap := by omega
              have q3 : ¬ cap = E := by omega
              generalize ls[k] = sk at *
              generalize xs[k] = xk at *
              obtain ⟨Ak, ck, rfl, _, _, hk3⟩ := id hbx
              have HBX := Lib.hid hbx
              have HNF : Hid (firstP (lf.drop E) ≠ 0) := by show _ ≠ 0; rw [p1]; omega
              clear hat hv hk3 hbx hcx hBw hb p1 p2 p3 hEE
              go_wp2_with fail
              refine (HRPk.out).mono ?_
              rintro e w6 ⟨x24, rfl, -, hx1, hb6⟩
              have hx24 := hx1 HNF.out
              rw [HP.out.2.1] at hx24
              have cvA := bis_string hx24
              have cvB := bis_string (HBX.out.below hb6)
              have HB8 := Lib.hid (HBR.out.trans (hb6.mono HBR.out.size))
              obtain ⟨A24, c24, rfl, _, _, h24⟩ := hx24
              rw [HP.out.1]
              have n0 : (((sk.length + 7 : Nat) : Int) == 0) = false := beq_eq_false_iff_ne.2 (by omega)
              have n1 : ((sk.length + 7 : Nat) : Int) ≤ 16391 := by omega
              have n2 : (E : Int) ≤ 1235 := by omega
              have n3 : (0 : Int) ≤ ((sk.length + 7 : Nat) : Int) := by omega
              generalize hNN : ((sk.length + 7 : Nat) : Int) = NN at *
              have HNN := Lib.hid hNN
              clear h24 hx1 hb6 hNN
              go_wp2_with fail
              go_roundw
              case rel => exact ⟨k + 1, by omega, by go_num, by rw [HP.out.2.2, ← HNN.out]; push_cast; rfl, HB8.out⟩
              case measure => simp [intOf]; omega
            · obtain rfl : k = ls.length := by omega
              rw [List.take_length]
              have hEle := HEL.out.2
              clear hb
              by_cases hlf0 : lf = []
              · have hE0 : endP ls = 0 := by rw [hlf0] at hEle; simpa using hEle
                rw [hE0]
                have h00 : lf.length = 0 := by rw [hlf0]; rfl
                have hd0 : lf.drop (endP ls) = [] := by rw [hlf0]; simp
                have HE0 := Lib.hid hE0
                cases A with
                | none =>
                  have hv : BIs wr (.slice none 0 cap) (lf.drop (endP ls)) := by rw [hd0]; exact bis_empty none cap (by unfold maxLen; omega)
                  clear hEle hE5
                  subst hlf0
                  have HLAST := Lib.hid (rpeel_any hv)
                  clear hv
                  go_wp2_with fail
                  refine (HLAST.out).mono ?_
                  rintro e w6 ⟨x26, rfl, hx0, -, hb6⟩
                  obtain rfl := hx0 HF0.out
                  have hB6 := HBR.out.trans (hb6.mono HBR.out.size)
                  rw [HF0.out]
                  clear hx0 hb6
                  have HB9 := Lib.hid (HB.out.trans ((HB7.out.trans (hB6.mono HB7.out.size)).mono HB.out.size))
                  clear hB6
                  go_wp2_with fail
                  refine (HAW.out _ HB9.out).mono ?_
                  rintro e w8 ⟨rfl, hb8⟩
                  have HB8 := Lib.hid (HB9.out.trans (hb8.mono HB9.out.size))
                  clear hb8
                  go_wp2
                  go_ret
                  exact ⟨rfl, HB8.out⟩
                | some a =>
                  have hv : BIs wr (.slice (some a) 0 cap) (lf.drop (endP ls)) := by rw [hd0]; exact bis_empty (some a) cap (by unfold maxLen; omega)
                  clear hEle hE5
                  subst hlf0
                  have HLAST := Lib.hid (rpeel_any hv)
                  clear hv
                  go_wp2_with fail
                  refine (HLAST.out).mono ?_
                  rintro e w6 ⟨x26, rfl, hx0, -, hb6⟩
                  obtain rfl := hx0 HF0.out
                  have hB6 := HBR.out.trans (hb6.mono HBR.out.size)
                  rw [HF0.out]
                  clear hx0 hb6
                  have HB9 := Lib.hid (HB.out.trans ((HB7.out.trans (hB6.mono HB7.out.size)).mono HB.out.size))
                  clear hB6
                  go_wp2_with fail
                  refine (HAW.out _ HB9.out).mono ?_
                  rintro e w8 ⟨rfl, hb8⟩
                  have HB8 := Lib.hid (HB9.out.trans (hb8.mono HB9.out.size))
                  clear hb8
                  go_wp2
                  go_ret
                  exact ⟨rfl, HB8.out⟩
              · obtain ⟨a, rfl, hat⟩ : ∃ a, A = some a ∧ At wr a lf := by
                  obtain ⟨a', c', e, _, _, hat⟩ := hBw.at hlf0
                  injection e with e _ _
                  exact ⟨a', e, hat⟩
                by_cases k1 : cap = endP ls
                · have hv : BIs wr (.slice (some a) 0 0) (lf.drop (endP ls)) := by
                    rw [List.drop_eq_nil_of_le (by omega)]; exact bis_empty (some a) 0 (by unfold maxLen; omega)
                  have q1 : (endP ls : Int) ≤ (cap : Int) := by omega
                  have hlc : lf.length = endP ls := by omega
                  clear hat hEle
                  have HLAST := Lib.hid (rpeel_any hv)
                  clear hv
                  go_wp2_with fail
                  refine (HLAST.out).mono ?_
                  rintro e w6 ⟨x26, rfl, hx0, -, hb6⟩
                  obtain rfl := hx0 HF0.out
                  have hB6 := HBR.out.trans (hb6.mono HBR.out.size)
                  rw [HF0.out]
                  clear hx0 hb6
                  have HB9 := Lib.hid (HB.out.trans ((HB7.out.trans (hB6.mono HB7.out.size)).mono HB.out.size))
                  clear hB6
                  go_wp2_with fail
                  refine (HAW.out _ HB9.out).mono ?_
                  rintro e w8 ⟨rfl, hb8⟩
                  have HB8 := Lib.hid (HB9.out.trans (hb8.mono HB9.out.size))
                  clear hb8
                  go_wp2
                  go_ret
                  exact ⟨rfl, HB8.out⟩
                · have hv : BIs wr (.slice (some (a.add (endP ls))) (lf.length - endP ls) (cap - endP ls)) (lf.drop (endP ls)) := by
                    have := hat.from (endP ls) (lf.length - endP ls) cap (by omega) hcap (by unfold maxLen; omega)
                    have e : (lf.drop (endP ls)).take (lf.length - endP ls) = lf.drop (endP ls) := List.take_of_length_le (by rw [List.length_drop]; omega)
                    rw [e] at this
                    exact this
                  have q1 : (endP ls : Int) ≤ (cap : Int) := by omega
                  have q2 : endP ls ≤ cap := by omega
                  clear hat hEle
                  have HLAST := Lib.hid (rpeel_any hv)
                  clear hv
                  go_wp2_with fail
                  refine (HLAST.out).mono ?_
                  rintro e w6 ⟨x26, rfl, hx0, -, hb6⟩
                  obtain rfl := hx0 HF0.out
                  have hB6 := HBR.out.trans (hb6.mono HBR.out.size)
                  rw [HF0.out]
                  clear hx0 hb6
                  have HB9 := Lib.hid (HB.out.trans ((HB7.out.trans (hB6.mono HB7.out.size)).mono HB.out.size))
                  clear hB6
                  go_wp2_with fail
                  refine (HAW.out _ HB9.out).mono ?_
                  rintro e w8 ⟨rfl, hb8⟩
                  have HB8 := Lib.hid (HB9.out.trans (hb8.mono HB9.out.size))
                  clear hb8
                  go_wp2
                  go_ret
                  exact ⟨rfl, HB8.out⟩
end Go.Proofs.YtponcidmipkodaaDoor
