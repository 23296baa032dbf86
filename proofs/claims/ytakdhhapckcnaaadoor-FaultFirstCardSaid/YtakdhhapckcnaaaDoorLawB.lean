/- The law FaultFirst, walked: it answers true at all links. -/
import Derived.Test.YtakdhhapckcnaaaDoorLawA
set_option linter.unusedSimpArgs false
set_option linter.unusedVariables false
namespace Go.Proofs.YtakdhhapckcnaaaDoor
open Go.RowKit

theorem firstV_nil (r : List Value) : firstV (.nilIface :: r) = firstV r := rfl
theorem firstV_some (t : TypeId) (u : Value) (r : List Value) : firstV (.iface t u :: r) = .iface t u := rfl
set_option maxRecDepth 100000 in
set_option maxHeartbeats 8000000 in
theorem law_first {w : World} {va vb vc : Value} {la0 lb0 lc0 : List L6} (hG : Glob w) (ha : SlIn w va la0) (hb : SlIn w vb lb0) (hc : SlIn w vc lc0) : Calls Tryd.prog 7 #[va, vb, vc] w fun e w' => e = .returned (.bool true) ∧ Below w.heap.size w w' := by
  have ha30 := cutL_le la0
  have hb30 := cutL_le lb0
  have hc30 := cutL_le lc0
  have HG := Lib.hid hG
  have HA := Lib.hid ha
  have HB := Lib.hid hb
  have HC := Lib.hid hc
  generalize hlsa : cutL la0 = la at ha30
  generalize hlsb : cutL lb0 = lb at hb30
  generalize hlsc : cutL lc0 = lc at hc30
  have HLA := Lib.hid hlsa
  have HLB := Lib.hid hlsb
  have HLC := Lib.hid hlsc
  clear hG ha hb hc hlsa hlsb hlsc
  go_enter Tryd.func7, Tryd.ntmps7
  go_wp2_with fail
  refine (cut_in HA.out).mono ?_
  rintro e w1 ⟨v1, rfl, hs, hb1⟩
  rw [HLA.out] at hs
  have HSA := Lib.hid hs
  have HB1 := Lib.hid hb1
  clear hs hb1
  go_wp2_with fail
  refine (cut_in (HB.out.below HB1.out (Nat.le_refl _))).mono ?_
  rintro e w2 ⟨v2, rfl, hs, hb2⟩
  rw [HLB.out] at hs
  have HSB := Lib.hid hs
  have HB2 := Lib.hid (HB1.out.trans (hb2.mono HB1.out.size))
  have HSA2 := Lib.hid (HSA.out.below hb2 (Nat.le_refl _))
  clear hs hb2
  go_wp2_with fail
  refine (cut_in (HC.out.below HB2.out (Nat.le_refl _))).mono ?_
  rintro e w3 ⟨v3, rfl, hs, hb3⟩
  rw [HLC.out] at hs
  have HSC3 := Lib.hid hs
  have HB3 := Lib.hid (HB2.out.trans (hb3.mono HB2.out.size))
  have HSA3 := Lib.hid (HSA2.out.below hb3 (Nat.le_refl _))
  have HSB3 := Lib.hid (HSB.out.below hb3 (Nat.le_refl _))
  clear hs hb3
  go_wp2_with fail
  refine (made_any HSA3.out).mono ?_
  rintro e w4 ⟨ea, rfl, he, hb4⟩
  have HEA := Lib.hid he
  have HB4 := Lib.hid (HB3.out.trans (hb4.mono HB3.out.size))
  have HSA4 := Lib.hid (HSA3.out.below hb4 (Nat.le_refl _))
  have HSB4 := Lib.hid (HSB3.out.below hb4 (Nat.le_refl _))
  have HSC4 := Lib.hid (HSC3.out.below hb4 (Nat.le_refl _))
  clear he hb4
  go_wp2_with fail
  refine (made_any HSB4.out).mono ?_
  rintro e w5 ⟨eb, rfl, he, hb5⟩
  have HEB := Lib.hid he
  have HB5 := Lib.hid (HB4.out.trans (hb5.mono HB4.out.size))
  have HEA5 := Lib.hid (HEA.out.below hb5)
  have HSA5 := Lib.hid (HSA4.out.below hb5 (Nat.le_refl _))
  have HSB5 := Lib.hid (HSB4.out.below hb5 (Nat.le_refl _))
  have HSC5 := Lib.hid (HSC4.out.below hb5 (Nat.le_refl _))
  clear he hb5
  go_wp2_with fail
  refine (made_any HSC5.out).mono ?_
  rintro e w6 ⟨ec, rfl, he, hb6⟩
  have HEC6 := Lib.hid he
  have HB6a := Lib.hid (HB5.out.trans (hb6.mono HB5.out.size))
  have HEA6 := Lib.hid (HEA5.out.below hb6)
  have HEB6 := Lib.hid (HEB.out.below hb6)
  have HSA6 := Lib.hid (HSA5.out.below hb6 (Nat.le_refl _))
  have HSB6 := Lib.hid (HSB5.out.below hb6 (Nat.le_refl _))
  have HSC6 := Lib.hid (HSC5.out.below hb6 (Nat.le_refl _))
  clear he hb6
  have hfe : ∀ x, x ∈ [ea, eb, ec] → x = .nilIface ∨ ∃ t u, x = .iface t u := by
    intro x hx
    simp at hx
    rcases hx with rfl | rfl | rfl
    · exact HEA6.out.form
    · exact HEB6.out.form
    · exact HEC6.out.form
  have HFE := Lib.hid hfe
  clear hfe
  rcases err_nil HEA6.out with ⟨hcha, rfl⟩ | ⟨hcha, ta, ua, rfl⟩
  · have hna : rchain la = [] := by
      rcases chain_num la with h | ⟨_, _, _, _, h, _⟩
      · exact h
      · exact absurd hcha h
    have hc0 : (((rchain la).length : Int) == 0) = true := by rw [hna]; rfl
    clear hcha hna
    rcases err_nil HEB6.out with ⟨hchb, rfl⟩ | ⟨hchb, tb, ub, rfl⟩
    · have hnb : rchain lb = [] := by
        rcases chain_num lb with h | ⟨_, _, _, _, h, _⟩
        · exact h
        · exact absurd hchb h
      have hc1 : (((rchain lb).length : Int) == 0) = true := by rw [hnb]; rfl
      clear hchb hnb
      have hb7 : Below w6.heap.size w6 (w6.alloc (.cells #[.nilIface, .nilIface, ec] 25)) := (Below.refl _ _).alloc (Nat.le_refl _) _
      have HB7 := Lib.hid (HB6a.out.trans (hb7.mono HB6a.out.size))
      have hF : Hid (ErrsIs (w6.alloc (.cells #[.nilIface, .nilIface, ec] 25)) (.slice (some ⟨w6.heap.size, 0, none⟩) 3 3) [.nilIface, .nilIface, ec]) := by
        refine .inr ⟨_, _, rfl, by simp, ?_, HFE.out⟩
        intro i x hx
        rw [cell_of_row _ _ _ _ _ _ (heap_alloc_new w6 _)]
        simpa using hx
      have HEA7 := Lib.hid (HEA6.out.below hb7)
      have HEB7 := Lib.hid (HEB6.out.below hb7)
      have HEC7 := Lib.hid (HEC6.out.below hb7)
      have HSA7 := Lib.hid (HSA6.out.below hb7 (Nat.le_refl _))
      have HSB7 := Lib.hid (HSB6.out.below hb7 (Nat.le_refl _))
      have HSC7 := Lib.hid (HSC6.out.below hb7 (Nat.le_refl _))
      clear hb7
      have hlast : Hid (firstV [.nilIface, .nilIface, ec] = ec) := by
        show firstV [.nilIface, .nilIface, ec] = ec
        rcases HEC6.out.form with rfl | ⟨t, u, rfl⟩ <;> rfl
      rcases HEC6.out.form with rfl | ⟨tc, uc, rfl⟩
      all_goals
        go_wp2_with fail
        refine (first_any hF.out).mono ?_
        rintro e w' ⟨rfl, rfl⟩
        rw [hlast.out]
        go_wp2_with fail
        refine (chain_any HSA7.out).mono ?_
        rintro e w8 ⟨c8, rfl, hc, hb⟩
        have HC8 := Lib.hid hc
        have HB8 := Lib.hid (HB7.out.trans (hb.mono HB7.out.size))
        obtain ⟨A8, cap8, rfl⟩ := hc.len
        have HE8 := Lib.hid (HEC7.out.below hb)
        have HSB8 := Lib.hid (HSB7.out.below hb (Nat.le_refl _))
        have HSC8 := Lib.hid (HSC7.out.below hb (Nat.le_refl _))
        clear hc hb
        go_wp2_with fail
        refine (chain_any HSB8.out).mono ?_
        rintro e w9 ⟨c9, rfl, hc, hb⟩
        have HC9 := Lib.hid hc
        have HB9 := Lib.hid (HB8.out.trans (hb.mono HB8.out.size))
        obtain ⟨A9, cap9, rfl⟩ := hc.len
        have HE9 := Lib.hid (HE8.out.below hb)
        have HSC9 := Lib.hid (HSC8.out.below hb (Nat.le_refl _))
        clear hc hb
        go_wp2_with fail
        refine (chain_any HSC9.out).mono ?_
        rintro e w10 ⟨c10, rfl, hc, hb⟩
        have HC10 := Lib.hid hc
        have HB10 := Lib.hid (HB9.out.trans (hb.mono HB9.out.size))
        obtain ⟨A10, cap10, rfl⟩ := hc.len
        have HE10 := Lib.hid (HE9.out.below hb)
        have HC3 := HC10
        have HBx := HB10
        have HG3 := Lib.hid (HG.out.below HB10.out)
        have HE3 := HE10
        have HLt := Lib.hid (chain_lt hc30)
        have Hcode := Lib.hid (chain_code lc)
        have Hplace := Lib.hid (chain_place lc)
        have Hlen := Lib.hid (chain_length lc)
        have Hok := Lib.hid (chain_ok lc)
        clear hc hb
        go_wp2_with fail
        refine (code_any HG3.out HE3.out Hok.out HLt.out (Below.refl _ _)).mono ?_
        rintro e w6 ⟨rfl, hb6⟩
        rw [Hcode.out]
        have HB6 := Lib.hid hb6
        have HC6 := Lib.hid (HC3.out.below hb6 (Nat.le_refl _))
        clear hb6
        go_wp2_with fail
        refine (rcode_any HC6.out).mono ?_
        rintro e w' ⟨rfl, rfl⟩
        go_wp2_with fail
        refine (place_any HG3.out HE3.out HLt.out HB6.out).mono ?_
        rintro e w7 ⟨rfl, hb7⟩
        rw [Hplace.out]
        have HB7 := Lib.hid (HB6.out.trans (hb7.mono HB6.out.size))
        have HC7 := Lib.hid (HC6.out.below hb7 (Nat.le_refl _))
        clear hb7
        go_wp2_with fail
        refine (rplace_any HC7.out).mono ?_
        rintro e w8 ⟨rfl, hb8⟩
        have HB8 := Lib.hid (HB7.out.trans (hb8.mono HB7.out.size))
        clear hb8
        go_wp2_with fail
        refine (depth_any HE3.out HB8.out HLt.out).mono ?_
        rintro e w9 ⟨rfl, hb9⟩
        rw [Hlen.out]
        have HB9 := Lib.hid (HB8.out.trans (hb9.mono HB8.out.size))
        clear hb9
        go_wp2_with fail
        refine (first_any (.inl ⟨rfl, rfl⟩)).mono ?_
        rintro e w' ⟨rfl, rfl⟩
        rw [show firstV [] = Value.nilIface from rfl]
        go_wp2_with fail
        refine (awake1 (HG3.out.below HB9.out)).mono ?_
        rintro e w13 ⟨rfl, hb13⟩
        have HB13 := Lib.hid (HB9.out.trans (hb13.mono HB9.out.size))
        clear hb13
        go_wp2
        go_ret
        exact ⟨rfl, HBx.out.trans (HB13.out.mono HBx.out.size)⟩
    · have hne : rchain lb ≠ [] := fun h => hchb (chain_nil h)
      have hc1 : (((rchain lb).length : Int) == 0) = false := beq_eq_false_iff_ne.2 (by have := List.length_pos_iff.2 hne; omega)
      clear hne hchb
      have hb7 : Below w6.heap.size w6 (w6.alloc (.cells #[.nilIface, .iface tb ub, ec] 25)) := (Below.refl _ _).alloc (Nat.le_refl _) _
      have HB7 := Lib.hid (HB6a.out.trans (hb7.mono HB6a.out.size))
      have hF : Hid (ErrsIs (w6.alloc (.cells #[.nilIface, .iface tb ub, ec] 25)) (.slice (some ⟨w6.heap.size, 0, none⟩) 3 3) [.nilIface, .iface tb ub, ec]) := by
        refine .inr ⟨_, _, rfl, by simp, ?_, HFE.out⟩
        intro i x hx
        rw [cell_of_row _ _ _ _ _ _ (heap_alloc_new w6 _)]
        simpa using hx
      have HEA7 := Lib.hid (HEA6.out.below hb7)
      have HEB7 := Lib.hid (HEB6.out.below hb7)
      have HEC7 := Lib.hid (HEC6.out.below hb7)
      have HSA7 := Lib.hid (HSA6.out.below hb7 (Nat.le_refl _))
      have HSB7 := Lib.hid (HSB6.out.below hb7 (Nat.le_refl _))
      have HSC7 := Lib.hid (HSC6.out.below hb7 (Nat.le_refl _))
      clear hb7
      rcases HEC6.out.form with rfl | ⟨tc, uc, rfl⟩
      all_goals
        go_wp2_with fail
        refine (first_any hF.out).mono ?_
        rintro e w' ⟨rfl, rfl⟩
        rw [firstV_nil, firstV_some]
        go_wp2_with fail
        refine (chain_any HSA7.out).mono ?_
        rintro e w8 ⟨c8, rfl, hc, hb⟩
        have HC8 := Lib.hid hc
        have HB8 := Lib.hid (HB7.out.trans (hb.mono HB7.out.size))
        obtain ⟨A8, cap8, rfl⟩ := hc.len
        have HE8 := Lib.hid (HEB7.out.below hb)
        have HSB8 := Lib.hid (HSB7.out.below hb (Nat.le_refl _))
        clear hc hb
        go_wp2_with fail
        refine (chain_any HSB8.out).mono ?_
        rintro e w9 ⟨c9, rfl, hc, hb⟩
        have HC9 := Lib.hid hc
        have HB9 := Lib.hid (HB8.out.trans (hb.mono HB8.out.size))
        obtain ⟨A9, cap9, rfl⟩ := hc.len
        have HE9 := Lib.hid (HE8.out.below hb)
        have HC3 := HC9
        have HBx := HB9
        have HG3 := Lib.hid (HG.out.below HB9.out)
        have HE3 := HE9
        have HLt := Lib.hid (chain_lt hb30)
        have Hcode := Lib.hid (chain_code lb)
        have Hplace := Lib.hid (chain_place lb)
        have Hlen := Lib.hid (chain_length lb)
        have Hok := Lib.hid (chain_ok lb)
        clear hc hb
        go_wp2_with fail
        refine (code_any HG3.out HE3.out Hok.out HLt.out (Below.refl _ _)).mono ?_
        rintro e w6 ⟨rfl, hb6⟩
        rw [Hcode.out]
        have HB6 := Lib.hid hb6
        have HC6 := Lib.hid (HC3.out.below hb6 (Nat.le_refl _))
        clear hb6
        go_wp2_with fail
        refine (rcode_any HC6.out).mono ?_
        rintro e w' ⟨rfl, rfl⟩
        go_wp2_with fail
        refine (place_any HG3.out HE3.out HLt.out HB6.out).mono ?_
        rintro e w7 ⟨rfl, hb7⟩
        rw [Hplace.out]
        have HB7 := Lib.hid (HB6.out.trans (hb7.mono HB6.out.size))
        have HC7 := Lib.hid (HC6.out.below hb7 (Nat.le_refl _))
        clear hb7
        go_wp2_with fail
        refine (rplace_any HC7.out).mono ?_
        rintro e w8 ⟨rfl, hb8⟩
        have HB8 := Lib.hid (HB7.out.trans (hb8.mono HB7.out.size))
        clear hb8
        go_wp2_with fail
        refine (depth_any HE3.out HB8.out HLt.out).mono ?_
        rintro e w9 ⟨rfl, hb9⟩
        rw [Hlen.out]
        have HB9 := Lib.hid (HB8.out.trans (hb9.mono HB8.out.size))
        clear hb9
        go_wp2_with fail
        refine (first_any (.inl ⟨rfl, rfl⟩)).mono ?_
        rintro e w' ⟨rfl, rfl⟩
        rw [show firstV [] = Value.nilIface from rfl]
        go_wp2_with fail
        refine (awake1 (HG3.out.below HB9.out)).mono ?_
        rintro e w13 ⟨rfl, hb13⟩
        have HB13 := Lib.hid (HB9.out.trans (hb13.mono HB9.out.size))
        clear hb13
        go_wp2
        go_ret
        exact ⟨rfl, HBx.out.trans (HB13.out.mono HBx.out.size)⟩
  · have hne : rchain la ≠ [] := fun h => hcha (chain_nil h)
    have hc0 : (((rchain la).length : Int) == 0) = false := beq_eq_false_iff_ne.2 (by have := List.length_pos_iff.2 hne; omega)
    clear hne hcha
    have hb7 : Below w6.heap.size w6 (w6.alloc (.cells #[.iface ta ua, eb, ec] 25)) := (Below.refl _ _).alloc (Nat.le_refl _) _
    have HB7 := Lib.hid (HB6a.out.trans (hb7.mono HB6a.out.size))
    have hF : Hid (ErrsIs (w6.alloc (.cells #[.iface ta ua, eb, ec] 25)) (.slice (some ⟨w6.heap.size, 0, none⟩) 3 3) [.iface ta ua, eb, ec]) := by
      refine .inr ⟨_, _, rfl, by simp, ?_, HFE.out⟩
      intro i x hx
      rw [cell_of_row _ _ _ _ _ _ (heap_alloc_new w6 _)]
      simpa using hx
    have HEA7 := Lib.hid (HEA6.out.below hb7)
    have HEB7 := Lib.hid (HEB6.out.below hb7)
    have HEC7 := Lib.hid (HEC6.out.below hb7)
    have HSA7 := Lib.hid (HSA6.out.below hb7 (Nat.le_refl _))
    have HSB7 := Lib.hid (HSB6.out.below hb7 (Nat.le_refl _))
    have HSC7 := Lib.hid (HSC6.out.below hb7 (Nat.le_refl _))
    clear hb7
    rcases HEB6.out.form with rfl | ⟨tb, ub, rfl⟩ <;> rcases HEC6.out.form with rfl | ⟨tc, uc, rfl⟩
    all_goals
      go_wp2_with fail
      refine (first_any hF.out).mono ?_
      rintro e w' ⟨rfl, rfl⟩
      rw [firstV_some]
      go_wp2_with fail
      refine (chain_any HSA7.out).mono ?_
      rintro e w8 ⟨c8, rfl, hc, hb⟩
      have HC8 := Lib.hid hc
      have HB8 := Lib.hid (HB7.out.trans (hb.mono HB7.out.size))
      obtain ⟨A8, cap8, rfl⟩ := hc.len
      have HE8 := Lib.hid (HEA7.out.below hb)
      have HC3 := HC8
      have HBx := HB8
      have HG3 := Lib.hid (HG.out.below HB8.out)
      have HE3 := HE8
      have HLt := Lib.hid (chain_lt ha30)
      have Hcode := Lib.hid (chain_code la)
      have Hplace := Lib.hid (chain_place la)
      have Hlen := Lib.hid (chain_length la)
      have Hok := Lib.hid (chain_ok la)
      clear hc hb
      go_wp2_with fail
      refine (code_any HG3.out HE3.out Hok.out HLt.out (Below.refl _ _)).mono ?_
      rintro e w6 ⟨rfl, hb6⟩
      rw [Hcode.out]
      have HB6 := Lib.hid hb6
      have HC6 := Lib.hid (HC3.out.below hb6 (Nat.le_refl _))
      clear hb6
      go_wp2_with fail
      refine (rcode_any HC6.out).mono ?_
      rintro e w' ⟨rfl, rfl⟩
      go_wp2_with fail
      refine (place_any HG3.out HE3.out HLt.out HB6.out).mono ?_
      rintro e w7 ⟨rfl, hb7⟩
      rw [Hplace.out]
      have HB7 := Lib.hid (HB6.out.trans (hb7.mono HB6.out.size))
      have HC7 := Lib.hid (HC6.out.below hb7 (Nat.le_refl _))
      clear hb7
      go_wp2_with fail
      refine (rplace_any HC7.out).mono ?_
      rintro e w8 ⟨rfl, hb8⟩
      have HB8 := Lib.hid (HB7.out.trans (hb8.mono HB7.out.size))
      clear hb8
      go_wp2_with fail
      refine (depth_any HE3.out HB8.out HLt.out).mono ?_
      rintro e w9 ⟨rfl, hb9⟩
      rw [Hlen.out]
      have HB9 := Lib.hid (HB8.out.trans (hb9.mono HB8.out.size))
      clear hb9
      go_wp2_with fail
      refine (first_any (.inl ⟨rfl, rfl⟩)).mono ?_
      rintro e w' ⟨rfl, rfl⟩
      rw [show firstV [] = Value.nilIface from rfl]
      go_wp2_with fail
      refine (awake1 (HG3.out.below HB9.out)).mono ?_
      rintro e w13 ⟨rfl, hb13⟩
      have HB13 := Lib.hid (HB9.out.trans (hb13.mono HB9.out.size))
      clear hb13
      go_wp2
      go_ret
      exact ⟨rfl, HBx.out.trans (HB13.out.mono HBx.out.size)⟩
end Go.Proofs.YtakdhhapckcnaaaDoor
