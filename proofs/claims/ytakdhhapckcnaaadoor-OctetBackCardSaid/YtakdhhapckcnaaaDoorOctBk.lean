/- The law OctetBack: what was put into bytes is read as it was. -/
import Derived.Test.YtakdhhapckcnaaaDoorOctE
import Derived.Test.YtakdhhapckcnaaaDoorOctY
set_option linter.unusedSimpArgs false
set_option linter.unusedVariables false
set_option linter.unnecessarySimpa false
namespace Go.Proofs.YtakdhhapckcnaaaDoor
open Go.RowKit

set_option maxRecDepth 100000 in
set_option maxHeartbeats 2000000 in
theorem law_oback {w : World} {n : Nat} {m : Int} {s : ByteArray} {b : Bool} {v : Value} {ls : List ByteArray} (hn : n ≤ 18446744073709551615) (hm0 : -9223372036854775808 ≤ m) (hm1 : m ≤ 9223372036854775807) (hs : s.size ≤ 9223372036854775807) (hG : Glob w) (hT : TxtIn w v ls) :
    Calls Tryd.prog 9 #[.int .u64 (n : Int), .int .i64 m, .string s, .bool b, v] w fun e w' => e = .returned (.bool true) ∧ Below w.heap.size w w' := by
  have HG := Lib.hid hG
  have HSH := Lib.hid (fun W => short_any s hs W)
  have HSM := Lib.hid (some_any hT)
  have HNT := Lib.hid (onat_any n hn)
  have HNM := Lib.hid (onum_any m hm0 hm1)
  have hsl : (shortB s).size ≤ 300 := shortB_le s
  have HST := Lib.hid (ostr_any (shortB s) (by omega))
  have HLE := Lib.hid (someL_le ls)
  have HLS := Lib.hid (someL_size ls)
  have HLN := Lib.hid (allB_len b hn hm0 hm1 hsl (someL_le ls) (someL_size ls))
  have HALL : Hid ((natB n ++ (natB (numN m) ++ (strB (shortB s) ++ (yesB b ++ strsB (someL ls))))).length ≤ 536870912) := by
    have := HLN.out
    show (natB n ++ (natB (numN m) ++ (strB (shortB s) ++ (yesB b ++ strsB (someL ls))))).length ≤ 536870912
    simp only [List.length_append]
    omega
  clear hG hT
  generalize shortB s = s' at *
  generalize someL ls = ls' at *
  have hn0 : (0 : Int) ≤ n := by omega
  have hn1 : (n : Int) ≤ 18446744073709551615 := by omega
  go_enter Tryd.func9, Tryd.ntmps9
  go_wp2_with fail
  refine (HSH.out _).mono ?_
  rintro e w' ⟨rfl, rfl⟩
  go_wp2_with fail
  refine (HSM.out).mono ?_
  rintro e w1 ⟨v1, rfl, hT1, hB1⟩
  have HT := Lib.hid hT1
  have HB1 := Lib.hid hB1
  clear hT1 hB1
  go_wp2_with fail
  refine (HNT.out _).mono ?_
  rintro e w2 ⟨v2, rfl, hO2, hB2⟩
  have HB2 := Lib.hid (HB1.out.trans (hB2.mono HB1.out.size))
  have HO2 := Lib.hid (hO2.mono HB1.out.size)
  have hT := HT.out.below hB2 (Nat.le_refl _)
  clear HT
  have HT := Lib.hid hT
  clear hO2 hB2 HB1 hT
  go_wp2_with fail
  refine (HNM.out _).mono ?_
  rintro e w3 ⟨v3, rfl, hO3, hB3⟩
  have HB3 := Lib.hid (HB2.out.trans (hB3.mono HB2.out.size))
  have HO3 := Lib.hid (hO3.mono HB2.out.size)
  have hO2 := HO2.out.below hB3
  clear HO2
  have HO2 := Lib.hid hO2
  have hT := HT.out.below hB3 (Nat.le_refl _)
  clear HT
  have HT := Lib.hid hT
  clear hO3 hB3 HB2 hO2 hT
  go_wp2_with fail
  refine (HST.out _).mono ?_
  rintro e w4 ⟨v4, rfl, hO4, hB4⟩
  have HB4 := Lib.hid (HB3.out.trans (hB4.mono HB3.out.size))
  have HO4 := Lib.hid (hO4.mono HB3.out.size)
  have hO2 := HO2.out.below hB4
  clear HO2
  have HO2 := Lib.hid hO2
  have hO3 := HO3.out.below hB4
  clear HO3
  have HO3 := Lib.hid hO3
  have hT := HT.out.below hB4 (Nat.le_refl _)
  clear HT
  have HT := Lib.hid hT
  clear hO4 hB4 HB3 hO2 hO3 hT
  go_wp2_with fail
  refine (oyes_any b _).mono ?_
  rintro e w5 ⟨v5, rfl, hO5, hB5⟩
  have HB5 := Lib.hid (HB4.out.trans (hB5.mono HB4.out.size))
  have HO5 := Lib.hid (hO5.mono HB4.out.size)
  have hO2 := HO2.out.below hB5
  clear HO2
  have HO2 := Lib.hid hO2
  have hO3 := HO3.out.below hB5
  clear HO3
  have HO3 := Lib.hid hO3
  have hO4 := HO4.out.below hB5
  clear HO4
  have HO4 := Lib.hid hO4
  have hT := HT.out.below hB5 (Nat.le_refl _)
  clear HT
  have HT := Lib.hid hT
  clear hO5 hB5 HB4 hO2 hO3 hO4 hT
  go_wp2_with fail
  refine (ostrs_any HT.out HLE.out HLS.out).mono ?_
  rintro e w6 ⟨v6, rfl, hO6, hB6⟩
  have hB6' := Lib.hid hB6
  have HB6 := Lib.hid (HB5.out.trans (hB6.mono HB5.out.size))
  have HO6 := Lib.hid (hO6.mono HB5.out.size)
  have hO2 := HO2.out.below hB6
  clear HO2
  have HO2 := Lib.hid hO2
  have hO3 := HO3.out.below hB6
  clear HO3
  have HO3 := Lib.hid hO3
  have hO4 := HO4.out.below hB6
  clear HO4
  have HO4 := Lib.hid hO4
  have hO5 := HO5.out.below hB6
  clear HO5
  have HO5 := Lib.hid hO5
  clear hO6 hB6 HB5 hO2 hO3 hO4 hO5
  obtain ⟨A2, c2, rfl⟩ := HO2.out.len
  obtain ⟨A3, c3, rfl⟩ := HO3.out.len
  obtain ⟨A4, c4, rfl⟩ := HO4.out.len
  obtain ⟨A5, c5, rfl⟩ := HO5.out.len
  obtain ⟨A6, c6, rfl⟩ := HO6.out.len
  go_wp2_with fail
  refine (seq_five HO2.out HO3.out HO4.out HO5.out HO6.out (natB_ne _) (natB_ne _) (strB_ne _) (yesB_ne _) (strsB_ne _) HALL.out).mono ?_
  rintro e w7 ⟨v7, rfl, hO7, hB7⟩
  have hT := HT.out.below (hB6'.out.trans (hB7.mono hB6'.out.size)) (Nat.le_refl _)
  clear HT
  have HT := Lib.hid hT
  have HB7 := Lib.hid (HB6.out.trans (hB7.mono HB6.out.size))
  have HO7 := Lib.hid (hO7.mono HB6.out.size)
  clear hO7 hB7 HB6 HO2 HO3 HO4 HO5 HO6 hT hB6'
  have HALLE : Hid (allB n m s' b ls' = natB n ++ (natB (numN m) ++ (strB s' ++ (yesB b ++ strsB ls')))) := Lib.hid rfl
  rw [← HALLE.out] at HO7 HALL
  have HANE : Hid (allB n m s' b ls' ≠ []) := by show allB n m s' b ls' ≠ []; unfold allB natB; simp
  generalize allB n m s' b ls' = all at *
  have D0 : natP (all.drop 0) = some (n, (natB n).length) := by rw [List.drop_zero, HALLE.out]; exact natP_natB n hn _
  have D1 : all.drop (0 + (natB n).length) = natB (numN m) ++ (strB s' ++ (yesB b ++ strsB ls')) := by rw [Nat.zero_add, HALLE.out, List.drop_left]
  have D2 : all.drop (0 + (natB n).length + (natB (numN m)).length) = strB s' ++ (yesB b ++ strsB ls') := by rw [← List.drop_drop, D1, List.drop_left]
  have D3 : all.drop (0 + (natB n).length + (natB (numN m)).length + (strB s').length) = yesB b ++ strsB ls' := by rw [← List.drop_drop, D2, List.drop_left]
  have D4 : all.drop (0 + (natB n).length + (natB (numN m)).length + (strB s').length + 1) = strsB ls' := by rw [← List.drop_drop, D3]; cases b <;> rfl
  have E1 := Lib.hid ((congrArg natP D1).trans (natP_natB (numN m) (numN_le hm0 hm1) _))
  have E2 := Lib.hid ((congrArg (strP s'.size) D2).trans (strP_strB (Nat.le_refl _) (by omega) _))
  have E3 : Hid (all[0 + (natB n).length + (natB (numN m)).length + (strB s').length]? = some (if b then 1 else 0)) := by
    have := congrArg (fun l : List UInt8 => l[0]?) D3
    simp only [List.getElem?_drop, Nat.add_zero] at this
    show all[0 + (natB n).length + (natB (numN m)).length + (strB s').length]? = some (if b then 1 else 0)
    rw [this]; cases b <;> rfl
  have E4 := Lib.hid ((congrArg natP D4).trans (natP_natB ls'.length (by have := HLE.out; omega) _))
  have D5 : all.drop (0 + (natB n).length + (natB (numN m)).length + (strB s').length + 1 + (natB ls'.length).length) = ls'.flatMap strB := by rw [← List.drop_drop, D4]; unfold strsB; rw [List.drop_left]
  have E5 : Hid (textsP 300 ls'.length (all.drop (0 + (natB n).length + (natB (numN m)).length + (strB s').length + 1 + (natB ls'.length).length)) = some (ls', (ls'.flatMap strB).length)) := by
    have := textsP_strsB (most := 300) (by omega) ls' HLS.out []
    rw [List.append_nil] at this
    show textsP 300 ls'.length _ = _
    rw [D5, this]
  have E6 : Hid (0 + (natB n).length + (natB (numN m)).length + (strB s').length + 1 + (natB ls'.length).length + (ls'.flatMap strB).length = all.length) := by
    show 0 + (natB n).length + (natB (numN m)).length + (strB s').length + 1 + (natB ls'.length).length + (ls'.flatMap strB).length = all.length
    rw [HALLE.out]
    unfold strsB
    simp only [List.length_append]
    have := HLN.out.2.2.2.1
    omega
  have E0 := Lib.hid D0
  clear D0 D1 D2 D3 D4 D5
  obtain ⟨gb, c7, rfl, H7⟩ : ∃ gb c7, v7 = .slice (some ⟨gb, 0, none⟩) all.length c7 ∧ OwnC w7 w.heap.size gb c7 all := by
    rcases HO7.out with ⟨_, h⟩ | ⟨gb, c7, h1, h2⟩
    · exact absurd h HANE.out
    · exact ⟨gb, c7, h1, h2⟩
  have HOF := Lib.hid (of_some (w := w7) (gb := gb) (o := 0) (cap := c7) (l := all) (by have := HALL.out; omega) (fun i b hi => by rw [Nat.zero_add]; exact H7.holds i b hi) H7.lt)
  clear H7
  go_wp2_with fail
  refine (HOF.out).mono ?_
  rintro e w8 ⟨g, A, cap, rfl, hg, hR8, hB8⟩
  have HGE := Lib.hid hg
  have HR8 := Lib.hid hR8
  have HB8 := Lib.hid hB8
  clear hg hR8 hB8
  go_wp2_with fail
  refine (rnat_ok HR8.out E0.out).mono ?_
  rintro e w9 ⟨rfl, hR, hO⟩
  have HR9 := Lib.hid hR
  have HB9 := Lib.hid (Only.below_new HB8.out HGE.out hO)
  clear hR hO HB8 HR8
  go_wp2_with fail
  refine (rnum_ok HR9.out E1.out (numN_le hm0 hm1)).mono ?_
  rintro e w10 ⟨rfl, hR, hO⟩
  rw [numV_numN]
  have HR10 := Lib.hid hR
  have HB10 := Lib.hid (Only.below_new HB9.out HGE.out hO)
  clear hR hO HB9 HR9
  go_wp2_with fail
  refine (rstr_P HR10.out E2.out (by omega)).mono ?_
  rintro e w11 ⟨rfl, hR, hO⟩
  have HR11 := Lib.hid hR
  have HB11 := Lib.hid (Only.below_new HB10.out HGE.out hO)
  clear hR hO HB10 HR10
  go_wp2_with fail
  refine (ryes_ok HR11.out E3.out).mono ?_
  rintro e w12 ⟨rfl, hR, hO⟩
  have HR12 := Lib.hid hR
  have HB12 := Lib.hid (Only.below_new HB11.out HGE.out hO)
  clear hR hO HB11 HR11
  go_wp2_with fail
  refine (rstrs_ok (many := 20) (most := 300) HR12.out E4.out HLE.out (by omega) E5.out (by omega)).mono ?_
  rintro e w13 ⟨v13, rfl, hT13, hR, hO⟩
  rw [E6.out] at hR
  have HT13 := Lib.hid hT13
  have HR13 := Lib.hid hR
  have HB13 := Lib.hid (Only.below_new HB12.out HGE.out hO)
  clear hR hO HB12 HR12 hT13
  go_wp2_with fail
  refine (same_any HT13.out (HT.out.below HB13.out (Nat.le_refl _))).mono ?_
  rintro e w14 ⟨rfl, hb⟩
  have HR14 := Lib.hid (HR13.out.below hb)
  have HB14 := Lib.hid (HB7.out.trans ((HB13.out.trans (hb.mono HB13.out.size)).mono HB7.out.size))
  clear hb HB13 HR13 HT13 HT HB7 HO7 HOF HGE
  go_wp2_with fail
  refine (left_any HR14.out).mono ?_
  rintro e w15 ⟨rfl, k15, rfl⟩
  have HR15 := Lib.hid (HR14.out.below (below_drewN (Below.refl _ _) k15))
  have HB15 := Lib.hid (below_drewN HB14.out k15)
  rw [Int.sub_self]
  generalize w14.drewN k15 = w15 at *
  clear HB14 HR14
  go_wp2_with fail
  refine (rerr_any (HG.out.below HB15.out) HR15.out (fun e he => by simp at he) (by decide)).mono ?_
  rintro e w16 ⟨rfl, hb⟩
  rw [show codeOf [] = 0 from rfl]
  have HR16 := Lib.hid (HR15.out.below hb)
  have HB16 := Lib.hid (HB15.out.trans (hb.mono HB15.out.size))
  clear hb HB15 HR15
  go_wp2_with fail
  refine (rplc_any (HG.out.below HB16.out) HR16.out (by decide)).mono ?_
  rintro e w17 ⟨rfl, hb⟩
  rw [show placeOf [] = -1 from rfl]
  have HR17 := Lib.hid (HR16.out.below hb)
  have HB17 := Lib.hid (HB16.out.trans (hb.mono HB16.out.size))
  clear hb HB16 HR16
  go_wp2_with fail
  refine (rend_ok (HG.out.below HB17.out) HR17.out).mono ?_
  rintro e w18 ⟨rfl, hb⟩
  have HB18 := Lib.hid (HB17.out.trans (hb.mono HB17.out.size))
  clear hb HB17 HR17
  go_wp2_with fail
  refine (awake2 (HG.out.below HB18.out)).mono ?_
  rintro e w19 ⟨rfl, hb⟩
  have HB19 := Lib.hid (HB18.out.trans (hb.mono HB18.out.size))
  clear hb HB18
  go_wp2
  go_ret
  exact ⟨rfl, HB19.out⟩
end Go.Proofs.YtakdhhapckcnaaaDoor
