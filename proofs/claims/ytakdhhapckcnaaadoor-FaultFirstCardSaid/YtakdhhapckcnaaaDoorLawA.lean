/- The laws FaultIs, FaultLibrary and FaultTells, walked: they answer true at every links. -/
import Derived.Test.YtakdhhapckcnaaaDoorLawP
set_option linter.unusedSimpArgs false
set_option linter.unusedVariables false
namespace Go.Proofs.YtakdhhapckcnaaaDoor
open Go.RowKit

set_option maxRecDepth 100000 in
set_option maxHeartbeats 4000000 in
theorem law_is {w : World} {v : Value} {ls0 : List L6} (n : Int) (hG : Glob w) (h : SlIn w v ls0) : Calls Tryd.prog 5 #[v, .int .i64 n] w fun e w' => e = .returned (.bool true) ∧ Below w.heap.size w w' := by
  have h30 := cutL_le ls0
  have HG := Lib.hid hG
  have H := Lib.hid h
  generalize hls : cutL ls0 = ls at h30
  have HLS := Lib.hid hls
  clear hG h hls
  go_enter Tryd.func5, Tryd.ntmps5
  go_wp2_with fail
  refine (cut_in H.out).mono ?_
  rintro e w1 ⟨v1, rfl, hs1, hb1⟩
  rw [HLS.out] at hs1
  have HS1 := Lib.hid hs1
  have HB1 := Lib.hid hb1
  clear hs1 hb1
  go_wp2_with fail
  refine (made_any HS1.out).mono ?_
  rintro e w2 ⟨v2, rfl, he2, hb2⟩
  have HE2 := Lib.hid he2
  have HB2 := Lib.hid (HB1.out.trans (hb2.mono HB1.out.size))
  have HS2 := Lib.hid (HS1.out.below hb2 (Nat.le_refl _))
  clear he2 hb2
  go_wp2_with fail
  refine (chain_any HS2.out).mono ?_
  rintro e w3 ⟨v3, rfl, hc3, hb3⟩
  have HC3 := Lib.hid hc3
  have HB3 := Lib.hid (HB2.out.trans (hb3.mono HB2.out.size))
  have HE3 := Lib.hid (HE2.out.below hb3)
  have HG3 := Lib.hid (HG.out.below HB3.out)
  obtain ⟨A, cap, rfl⟩ := hc3.len
  clear hc3 hb3
  have HI := Lib.hid (chain_isOf ls n)
  have HL := Lib.hid (chain_lt h30)
  generalize hc : rchain ls = c at *
  cases c with
  | nil =>
    have HW := Lib.hid (show wantL [] n = false from rfl)
    clear hc
    simp only [List.length_nil]
    go_wp2_with fail
    refine (isF_any n HG3.out HE3.out (chain_ok ls) HL.out (Below.refl _ _)).mono ?_
    rintro e w4 ⟨rfl, hb4⟩
    rw [HI.out, HW.out]
    have HB4 := Lib.hid hb4
    clear hb4
    go_wp2_with fail
    refine (awake1 (HG3.out.below HB4.out)).mono ?_
    rintro e w5 ⟨rfl, hb5⟩
    go_wp2
    go_ret
    exact ⟨rfl, (HB3.out.trans (HB4.out.mono HB3.out.size)).trans (hb5.mono (Nat.le_trans HB3.out.size HB4.out.size))⟩
  | cons x r =>
    have HW := Lib.hid (show wantL (x :: r) n = (lastE (x :: r) == n) from rfl)
    have hpos : 0 < (x :: r).length := by simp
    clear hc
    go_wp2_with fail
    refine (rcode_any HC3.out).mono ?_
    rintro e w' ⟨rfl, rfl⟩
    go_wp2_with fail
    refine (isF_any n HG3.out HE3.out (chain_ok ls) HL.out (Below.refl _ _)).mono ?_
    rintro e w4 ⟨rfl, hb4⟩
    rw [HI.out, HW.out]
    have HB4 := Lib.hid hb4
    clear hb4
    go_wp2_with fail
    refine (awake1 (HG3.out.below HB4.out)).mono ?_
    rintro e w5 ⟨rfl, hb5⟩
    go_wp2
    go_ret
    exact ⟨rfl, (HB3.out.trans (HB4.out.mono HB3.out.size)).trans (hb5.mono (Nat.le_trans HB3.out.size HB4.out.size))⟩

set_option maxRecDepth 100000 in
set_option maxHeartbeats 4000000 in
theorem law_library {w : World} {v : Value} {ls0 : List L6} (n : Int) (hG : Glob w) (h : SlIn w v ls0) : Calls Tryd.prog 6 #[v, .int .i64 n] w fun e w' => e = .returned (.bool true) ∧ Below w.heap.size w w' := by
  by_cases hn : n = 0
  · subst hn
    have h30 := cutL_le ls0
    have HG := Lib.hid hG
    have H := Lib.hid h
    generalize hls : cutL ls0 = ls at h30
    have HLS := Lib.hid hls
    clear hG h hls
    go_enter Tryd.func6, Tryd.ntmps6
    go_wp2_with fail
    refine (cut_in H.out).mono ?_
    rintro e w1 ⟨v1, rfl, hs1, hb1⟩
    rw [HLS.out] at hs1
    have HS1 := Lib.hid hs1
    have HB1 := Lib.hid hb1
    clear hs1 hb1
    go_wp2_with fail
    refine (awake1 (HG.out.below HB1.out)).mono ?_
    rintro e w5 ⟨rfl, hb5⟩
    go_wp2
    go_ret
    exact ⟨rfl, HB1.out.trans (hb5.mono HB1.out.size)⟩
  have hn0 : (n == 0) = false := beq_eq_false_iff_ne.2 hn
  have HN := Lib.hid hn
  clear hn
  have h30 := cutL_le ls0
  have HG := Lib.hid hG
  have H := Lib.hid h
  generalize hls : cutL ls0 = ls at h30
  have HLS := Lib.hid hls
  clear hG h hls
  go_enter Tryd.func6, Tryd.ntmps6
  go_wp2_with fail
  refine (cut_in H.out).mono ?_
  rintro e w1 ⟨v1, rfl, hs1, hb1⟩
  rw [HLS.out] at hs1
  have HS1 := Lib.hid hs1
  have HB1 := Lib.hid hb1
  clear hs1 hb1
  go_wp2_with fail
  refine (made_any HS1.out).mono ?_
  rintro e w2 ⟨v2, rfl, he2, hb2⟩
  have HE2 := Lib.hid he2
  have HB2 := Lib.hid (HB1.out.trans (hb2.mono HB1.out.size))
  have HS2 := Lib.hid (HS1.out.below hb2 (Nat.le_refl _))
  clear he2 hb2
  go_wp2_with fail
  refine (chain_any HS2.out).mono ?_
  rintro e w3 ⟨v3, rfl, hc3, hb3⟩
  have HC3 := Lib.hid hc3
  have HB3 := Lib.hid (HB2.out.trans (hb3.mono HB2.out.size))
  have HE3 := Lib.hid (HE2.out.below hb3)
  have HG3 := Lib.hid (HG.out.below HB3.out)
  obtain ⟨A, cap, rfl⟩ := hc3.len
  clear hc3 hb3
  have HI := Lib.hid (chain_isAt ls n)
  generalize hc : rchain ls = c at *
  cases c with
  | nil =>
    have HW := Lib.hid (show wantL [] n = false from rfl)
    clear hc
    simp only [List.length_nil]
    go_wp2_with fail
    refine (new_num n HN.out _).mono ?_
    rintro e w' ⟨rfl, rfl⟩
    go_wp2_with fail
    refine (is_chain n HE3.out (Below.refl _ _)).mono ?_
    rintro e w4 ⟨rfl, hb4⟩
    rw [HI.out, HW.out]
    have HB4 := Lib.hid hb4
    clear hb4
    go_wp2_with fail
    refine (awake1 (HG3.out.below HB4.out)).mono ?_
    rintro e w5 ⟨rfl, hb5⟩
    go_wp2
    go_ret
    exact ⟨rfl, (HB3.out.trans (HB4.out.mono HB3.out.size)).trans (hb5.mono (Nat.le_trans HB3.out.size HB4.out.size))⟩
  | cons x r =>
    have HW := Lib.hid (show wantL (x :: r) n = (lastE (x :: r) == n) from rfl)
    have hpos : 0 < (x :: r).length := by simp
    clear hc
    go_wp2_with fail
    refine (rcode_any HC3.out).mono ?_
    rintro e w' ⟨rfl, rfl⟩
    go_wp2_with fail
    refine (new_num n HN.out _).mono ?_
    rintro e w' ⟨rfl, rfl⟩
    go_wp2_with fail
    refine (is_chain n HE3.out (Below.refl _ _)).mono ?_
    rintro e w4 ⟨rfl, hb4⟩
    rw [HI.out, HW.out]
    have HB4 := Lib.hid hb4
    clear hb4
    go_wp2_with fail
    refine (awake1 (HG3.out.below HB4.out)).mono ?_
    rintro e w5 ⟨rfl, hb5⟩
    go_wp2
    go_ret
    exact ⟨rfl, (HB3.out.trans (HB4.out.mono HB3.out.size)).trans (hb5.mono (Nat.le_trans HB3.out.size HB4.out.size))⟩

set_option maxRecDepth 100000 in
set_option maxHeartbeats 8000000 in
theorem law_tells {w : World} {v : Value} {ls0 : List L6} (hG : Glob w) (h : SlIn w v ls0) : Calls Tryd.prog 3 #[v] w fun e w' => e = .returned (.bool true) ∧ Below w.heap.size w w' := by
  have hK := Lib.hid (kindsOk_cutL ls0)
  have h30 := cutL_le ls0
  have HG := Lib.hid hG
  have H := Lib.hid h
  generalize hls : cutL ls0 = ls at h30
  have HLS := Lib.hid hls
  clear hG h hls
  go_enter Tryd.func3, Tryd.ntmps3
  go_wp2_with fail
  refine (cut_in H.out).mono ?_
  rintro e w1 ⟨v1, rfl, hs1, hb1⟩
  rw [HLS.out] at hs1
  have HS1 := Lib.hid hs1
  have HB1 := Lib.hid hb1
  clear hs1 hb1
  go_wp2_with fail
  refine (made_any HS1.out).mono ?_
  rintro e w2 ⟨v2, rfl, he2, hb2⟩
  have HE2 := Lib.hid he2
  have HB2 := Lib.hid (HB1.out.trans (hb2.mono HB1.out.size))
  have HS2 := Lib.hid (HS1.out.below hb2 (Nat.le_refl _))
  clear he2 hb2
  go_wp2_with fail
  refine (chain_any HS2.out).mono ?_
  rintro e w3 ⟨v3, rfl, hc3, hb3⟩
  have HC3 := Lib.hid hc3
  have HB3 := Lib.hid (HB2.out.trans (hb3.mono HB2.out.size))
  have HE3 := Lib.hid (HE2.out.below hb3)
  have HG3 := Lib.hid (HG.out.below HB3.out)
  obtain ⟨A, cap, rfl⟩ := hc3.len
  clear hc3 hb3
  have hk3 := hK.out
  rw [HLS.out] at hk3
  have HLt := Lib.hid (chain_lt h30)
  have Hcode := Lib.hid (chain_code ls)
  have Hplace := Lib.hid (chain_place ls)
  have Hlimit := Lib.hid (chain_limit ls hk3)
  have Htrail := Lib.hid (chain_trail ls)
  have Hlen := Lib.hid (chain_length ls)
  have Hok := Lib.hid (chain_ok ls)
  have Hclt : Hid ((rchain ls).length < 1000) := by rw [← Hlen.out]; exact HLt.out
  have hempty := chain_num ls
  have hnil := @chain_nil ls
  clear hk3
  generalize rchain ls = c at *
  generalize chainOf ls = ch at *
  go_wp2_with fail
  refine (limit_any HG3.out HE3.out HLt.out (Below.refl _ _)).mono ?_
  rintro e w4 ⟨rfl, hb4⟩
  rw [Hlimit.out]
  have HB4 := Lib.hid hb4
  have HC4 := Lib.hid (HC3.out.below hb4 (Nat.le_refl _))
  clear hb4
  go_wp2_with fail
  refine (rlimit_any HC4.out).mono ?_
  rintro e w5 ⟨rfl, hb5⟩
  have HB5 := Lib.hid (HB4.out.trans (hb5.mono HB4.out.size))
  have HC5 := Lib.hid (HC4.out.below hb5 (Nat.le_refl _))
  clear hb5
  generalize limitL c = lim at *
  obtain ⟨l1, l2, l3⟩ := lim
  rcases err_nil HE3.out with ⟨hch, rfl⟩ | ⟨hch, t, u, rfl⟩
  · have hcn : c = [] := by
      rcases hempty with h | ⟨e, _, _, _, h, _⟩
      · exact h
      · exact absurd hch h
    have HCN := Lib.hid hcn
    have hc0 : ((c.length : Int) == 0) = true := by rw [hcn]; rfl
    clear hcn hempty hnil hch
    go_wp2_with fail
    refine (code_any HG3.out HE3.out Hok.out HLt.out HB5.out).mono ?_
    rintro e w6 ⟨rfl, hb6⟩
    rw [Hcode.out]
    have HB6 := Lib.hid (HB5.out.trans (hb6.mono HB5.out.size))
    have HC6 := Lib.hid (HC5.out.below hb6 (Nat.le_refl _))
    clear hb6
    go_wp2_with fail
    refine (rcode_any HC6.out).mono ?_
    rintro e w' ⟨rfl, rfl⟩
    go_wp2_with fail
    refine (place_any HG3.out HE3.out HLt.out HB6.out).mono ?_
    rintro e w7 ⟨rfl, hb7⟩
    rw [Hplace.out]
    have HB7 := Lib.hid (HB6.out.trans (hb7.mono HB6.out.size))
    have HC7 := Lib.hid (HC6.out.below hb7 (Nat.le_refl _))
    clear hb7
    go_wp2_with fail
    refine (rplace_any HC7.out).mono ?_
    rintro e w8 ⟨rfl, hb8⟩
    have HB8 := Lib.hid (HB7.out.trans (hb8.mono HB7.out.size))
    have HC8 := Lib.hid (HC7.out.below hb8 (Nat.le_refl _))
    clear hb8
    go_wp2_with fail
    refine (depth_any HE3.out HB8.out HLt.out).mono ?_
    rintro e w9 ⟨rfl, hb9⟩
    rw [Hlen.out]
    have HB9 := Lib.hid (HB8.out.trans (hb9.mono HB8.out.size))
    have HC9 := Lib.hid (HC8.out.below hb9 (Nat.le_refl _))
    clear hb9
    go_wp2_with fail
    refine (trail_any HG3.out HE3.out HLt.out HB9.out).mono ?_
    rintro e w10 ⟨t1, rfl, ht1, hb10⟩
    rw [Htrail.out] at ht1
    have HB10 := Lib.hid (HB9.out.trans (hb10.mono HB9.out.size))
    have HC10 := Lib.hid (HC9.out.below hb10 (Nat.le_refl _))
    have HT1 := Lib.hid ht1
    clear hb10 ht1
    go_wp2_with fail
    refine (rtrail_any HC10.out Hclt.out).mono ?_
    rintro e w11 ⟨t2, rfl, ht2, hb11⟩
    have HB11 := Lib.hid (HB10.out.trans (hb11.mono HB10.out.size))
    have HT1' := Lib.hid (HT1.out.below hb11 (Nat.le_refl _))
    have HT2 := Lib.hid ht2
    clear hb11 ht2
    go_wp2_with fail
    refine (texts_same HT1'.out HT2.out).mono ?_
    rintro e w12 ⟨rfl, hb12⟩
    have HB12 := Lib.hid (HB11.out.trans (hb12.mono HB11.out.size))
    clear hb12
    go_wp2_with fail
    refine (awake1 (HG3.out.below HB12.out)).mono ?_
    rintro e w13 ⟨rfl, hb13⟩
    have HB13 := Lib.hid (HB12.out.trans (hb13.mono HB12.out.size))
    clear hb13
    go_wp2
    go_ret
    exact ⟨rfl, HB3.out.trans (HB13.out.mono HB3.out.size)⟩
  · have hcn : c ≠ [] := fun h => hch (hnil h)
    have hc0 : ((c.length : Int) == 0) = false := beq_eq_false_iff_ne.2 (by have := List.length_pos_iff.2 hcn; omega)
    clear hcn hempty hnil hch
    go_wp2_with fail
    refine (code_any HG3.out HE3.out Hok.out HLt.out HB5.out).mono ?_
    rintro e w6 ⟨rfl, hb6⟩
    rw [Hcode.out]
    have HB6 := Lib.hid (HB5.out.trans (hb6.mono HB5.out.size))
    have HC6 := Lib.hid (HC5.out.below hb6 (Nat.le_refl _))
    clear hb6
    go_wp2_with fail
    refine (rcode_any HC6.out).mono ?_
    rintro e w' ⟨rfl, rfl⟩
    go_wp2_with fail
    refine (place_any HG3.out HE3.out HLt.out HB6.out).mono ?_
    rintro e w7 ⟨rfl, hb7⟩
    rw [Hplace.out]
    have HB7 := Lib.hid (HB6.out.trans (hb7.mono HB6.out.size))
    have HC7 := Lib.hid (HC6.out.below hb7 (Nat.le_refl _))
    clear hb7
    go_wp2_with fail
    refine (rplace_any HC7.out).mono ?_
    rintro e w8 ⟨rfl, hb8⟩
    have HB8 := Lib.hid (HB7.out.trans (hb8.mono HB7.out.size))
    have HC8 := Lib.hid (HC7.out.below hb8 (Nat.le_refl _))
    clear hb8
    go_wp2_with fail
    refine (depth_any HE3.out HB8.out HLt.out).mono ?_
    rintro e w9 ⟨rfl, hb9⟩
    rw [Hlen.out]
    have HB9 := Lib.hid (HB8.out.trans (hb9.mono HB8.out.size))
    have HC9 := Lib.hid (HC8.out.below hb9 (Nat.le_refl _))
    clear hb9
    go_wp2_with fail
    refine (trail_any HG3.out HE3.out HLt.out HB9.out).mono ?_
    rintro e w10 ⟨t1, rfl, ht1, hb10⟩
    rw [Htrail.out] at ht1
    have HB10 := Lib.hid (HB9.out.trans (hb10.mono HB9.out.size))
    have HC10 := Lib.hid (HC9.out.below hb10 (Nat.le_refl _))
    have HT1 := Lib.hid ht1
    clear hb10 ht1
    go_wp2_with fail
    refine (rtrail_any HC10.out Hclt.out).mono ?_
    rintro e w11 ⟨t2, rfl, ht2, hb11⟩
    have HB11 := Lib.hid (HB10.out.trans (hb11.mono HB10.out.size))
    have HT1' := Lib.hid (HT1.out.below hb11 (Nat.le_refl _))
    have HT2 := Lib.hid ht2
    clear hb11 ht2
    go_wp2_with fail
    refine (texts_same HT1'.out HT2.out).mono ?_
    rintro e w12 ⟨rfl, hb12⟩
    have HB12 := Lib.hid (HB11.out.trans (hb12.mono HB11.out.size))
    clear hb12
    go_wp2_with fail
    refine (awake1 (HG3.out.below HB12.out)).mono ?_
    rintro e w13 ⟨rfl, hb13⟩
    have HB13 := Lib.hid (HB12.out.trans (hb13.mono HB12.out.size))
    clear hb13
    go_wp2
    go_ret
    exact ⟨rfl, HB3.out.trans (HB13.out.mono HB3.out.size)⟩
end Go.Proofs.YtakdhhapckcnaaaDoor
