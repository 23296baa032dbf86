/- The law OctetTells: both ways of putting things into bytes give the same. -/
import Derived.Test.YtakdhhapckcnaaaDoorOctX
set_option linter.unusedSimpArgs false
set_option linter.unusedVariables false
set_option linter.unnecessarySimpa false
namespace Go.Proofs.YtakdhhapckcnaaaDoor
open Go.RowKit

theorem yesB_ne (b : Bool) : yesB b ≠ [] := by cases b <;> simp [yesB]
theorem strsB_ne (ss : List ByteArray) : strsB ss ≠ [] := by unfold strsB natB; simp
/-- the bytes of the five things, one behind the other -/
def allB (n : Nat) (m : Int) (s : ByteArray) (b : Bool) (ls : List ByteArray) : List UInt8 := natB n ++ (natB (numN m) ++ (strB s ++ (yesB b ++ strsB ls)))
theorem strsB_len {ss : List ByteArray} (hl : ss.length ≤ 20) (h : ∀ s ∈ ss, s.size ≤ 300) : (strsB ss).length ≤ 6200 := by
  have := strsT_len hl h ss.length
  unfold strsT at this
  rwa [List.take_length] at this
theorem numN_le {m : Int} (h0 : -9223372036854775808 ≤ m) (h1 : m ≤ 9223372036854775807) : numN m ≤ 18446744073709551615 := by unfold numN; split <;> omega
theorem allB_len {n : Nat} {m : Int} {s : ByteArray} (b : Bool) {ls : List ByteArray} (hn : n ≤ 18446744073709551615) (hm0 : -9223372036854775808 ≤ m) (hm1 : m ≤ 9223372036854775807) (hs : s.size ≤ 300) (hl : ls.length ≤ 20) (h : ∀ s ∈ ls, s.size ≤ 300) :
    (natB n).length ≤ 9 ∧ (natB (numN m)).length ≤ 9 ∧ (strB s).length ≤ 309 ∧ (yesB b).length = 1 ∧ (strsB ls).length ≤ 6200 := by
  have h1 := sizeB_le n hn
  have h2 := sizeB_le (numN m) (numN_le hm0 hm1)
  refine ⟨?_, ?_, strB_len hs, by cases b <;> rfl, strsB_len hl h⟩
  · rw [natB_len]; omega
  · rw [natB_len]; omega
theorem seq_five {w : World} {base : Nat} {v1 v2 v3 v4 v5 : Value} {l1 l2 l3 l4 l5 : List UInt8} (h1 : OwnBy w base v1 l1) (h2 : OwnBy w base v2 l2) (h3 : OwnBy w base v3 l3) (h4 : OwnBy w base v4 l4) (h5 : OwnBy w base v5 l5)
    (n1 : l1 ≠ []) (n2 : l2 ≠ []) (n3 : l3 ≠ []) (n4 : l4 ≠ []) (n5 : l5 ≠ []) (hl : (l1 ++ (l2 ++ (l3 ++ (l4 ++ l5)))).length ≤ 536870912) :
    Calls Tryd.prog 34 #[.slice (some ⟨w.heap.size, 0, none⟩) 5 5] (w.alloc (.cells #[v1, v2, v3, v4, v5] 54)) fun e w' => ∃ v, e = .returned v ∧ OwnBy w' w.heap.size v (l1 ++ (l2 ++ (l3 ++ (l4 ++ l5)))) ∧ Below w.heap.size w w' := by
  have hA : Below w.heap.size w (w.alloc (.cells #[v1, v2, v3, v4, v5] 54)) := (Below.refl _ _).alloc (Nat.le_refl _) _
  have cell : ∀ i (x : Value), #[v1, v2, v3, v4, v5][i]? = some x → (w.alloc (.cells #[v1, v2, v3, v4, v5] 54)).cell? ⟨w.heap.size, i, none⟩ = some x := fun i x hx => by
    rw [cell_of_row _ _ _ _ _ _ (heap_alloc_new w _), hx]
  have hp : PartsIs (w.alloc (.cells #[v1, v2, v3, v4, v5] 54)) (.slice (some ⟨w.heap.size, 0, none⟩) 5 5) [l1, l2, l3, l4, l5] := by
    refine .inr ⟨w.heap.size, 5, rfl, by simp, by simp, ?_⟩
    intro i l hi
    match i, hi with
    | 0, hi => obtain rfl : l1 = l := by simpa using hi
               exact ⟨n1, v1, cell 0 v1 rfl, (h1.below hA).mono (Nat.zero_le _)⟩
    | 1, hi => obtain rfl : l2 = l := by simpa using hi
               exact ⟨n2, v2, cell 1 v2 rfl, (h2.below hA).mono (Nat.zero_le _)⟩
    | 2, hi => obtain rfl : l3 = l := by simpa using hi
               exact ⟨n3, v3, cell 2 v3 rfl, (h3.below hA).mono (Nat.zero_le _)⟩
    | 3, hi => obtain rfl : l4 = l := by simpa using hi
               exact ⟨n4, v4, cell 3 v4 rfl, (h4.below hA).mono (Nat.zero_le _)⟩
    | 4, hi => obtain rfl : l5 = l := by simpa using hi
               exact ⟨n5, v5, cell 4 v5 rfl, (h5.below hA).mono (Nat.zero_le _)⟩
    | i + 5, hi => simp at hi
  have e : [l1, l2, l3, l4, l5].flatten = l1 ++ (l2 ++ (l3 ++ (l4 ++ l5))) := by simp
  refine (oseq_any hp (by rw [e]; exact hl)).mono ?_
  rintro e' w' ⟨v, rfl, hO, hB⟩
  rw [e] at hO
  have hs : w.heap.size ≤ (w.alloc (.cells #[v1, v2, v3, v4, v5] 54)).heap.size := hA.size
  exact ⟨v, rfl, hO.mono hs, hA.trans (hB.mono hs)⟩
set_option maxRecDepth 100000 in
set_option maxHeartbeats 2000000 in
theorem law_otells {w : World} {n : Nat} {m : Int} {s : ByteArray} {b : Bool} {v : Value} {ls : List ByteArray} (hn : n ≤ 18446744073709551615) (hm0 : -9223372036854775808 ≤ m) (hm1 : m ≤ 9223372036854775807) (hs : s.size ≤ 9223372036854775807) (hG : Glob w) (hT : TxtIn w v ls) :
    Calls Tryd.prog 8 #[.int .u64 (n : Int), .int .i64 m, .string s, .bool b, v] w fun e w' => e = .returned (.bool true) ∧ Below w.heap.size w w' := by
  have HG := Lib.hid hG
  have HSH := Lib.hid (fun W => short_any s hs W)
  have HSM := Lib.hid (some_any hT)
  have HNT := Lib.hid (onat_any n hn)
  have HNM := Lib.hid (onum_any m hm0 hm1)
  have hsl : (shortB s).size ≤ 300 := shortB_le s
  have HST := Lib.hid (ostr_any (shortB s) (by omega))
  have HLE := Lib.hid (someL_le ls)
  have HLS := Lib.hid (someL_size ls)
  have HLN := Lib.hid (allB_len b hn hm0 hm1 hsl (someL_le ls) (someL_size ls))
  have HALL : Hid ((natB n ++ (natB (numN m) ++ (strB (shortB s) ++ (yesB b ++ strsB (someL ls))))).length ≤ 536870912) := by
    have := HLN.out
    show (natB n ++ (natB (numN m) ++ (strB (shortB s) ++ (yesB b ++ strsB (someL ls))))).length ≤ 536870912
    simp only [List.length_append]
    omega
  clear hG hT
  generalize shortB s = s' at *
  generalize someL ls = ls' at *
  have hn0 : (0 : Int) ≤ n := by omega
  have hn1 : (n : Int) ≤ 18446744073709551615 := by omega
  go_enter Tryd.func8, Tryd.ntmps8
  go_wp2_with fail
  refine (HSH.out _).mono ?_
  rintro e w' ⟨rfl, rfl⟩
  go_wp2_with fail
  refine (HSM.out).mono ?_
  rintro e w1 ⟨v1, rfl, hT1, hB1⟩
  have HT := Lib.hid hT1
  have HB1 := Lib.hid hB1
  clear hT1 hB1
  go_wp2_with fail
  refine (HNT.out _).mono ?_
  rintro e w2 ⟨v2, rfl, hO2, hB2⟩
  have HB2 := Lib.hid (HB1.out.trans (hB2.mono HB1.out.size))
  have HO2 := Lib.hid (hO2.mono HB1.out.size)
  have hT := HT.out.below hB2 (Nat.le_refl _)
  clear HT
  have HT := Lib.hid hT
  clear hO2 hB2 HB1 hT
  go_wp2_with fail
  refine (HNM.out _).mono ?_
  rintro e w3 ⟨v3, rfl, hO3, hB3⟩
  have HB3 := Lib.hid (HB2.out.trans (hB3.mono HB2.out.size))
  have HO3 := Lib.hid (hO3.mono HB2.out.size)
  have hO2 := HO2.out.below hB3
  clear HO2
  have HO2 := Lib.hid hO2
  have hT := HT.out.below hB3 (Nat.le_refl _)
  clear HT
  have HT := Lib.hid hT
  clear hO3 hB3 HB2 hO2 hT
  go_wp2_with fail
  refine (HST.out _).mono ?_
  rintro e w4 ⟨v4, rfl, hO4, hB4⟩
  have HB4 := Lib.hid (HB3.out.trans (hB4.mono HB3.out.size))
  have HO4 := Lib.hid (hO4.mono HB3.out.size)
  have hO2 := HO2.out.below hB4
  clear HO2
  have HO2 := Lib.hid hO2
  have hO3 := HO3.out.below hB4
  clear HO3
  have HO3 := Lib.hid hO3
  have hT := HT.out.below hB4 (Nat.le_refl _)
  clear HT
  have HT := Lib.hid hT
  clear hO4 hB4 HB3 hO2 hO3 hT
  go_wp2_with fail
  refine (oyes_any b _).mono ?_
  rintro e w5 ⟨v5, rfl, hO5, hB5⟩
  have HB5 := Lib.hid (HB4.out.trans (hB5.mono HB4.out.size))
  have HO5 := Lib.hid (hO5.mono HB4.out.size)
  have hO2 := HO2.out.below hB5
  clear HO2
  have HO2 := Lib.hid hO2
  have hO3 := HO3.out.below hB5
  clear HO3
  have HO3 := Lib.hid hO3
  have hO4 := HO4.out.below hB5
  clear HO4
  have HO4 := Lib.hid hO4
  have hT := HT.out.below hB5 (Nat.le_refl _)
  clear HT
  have HT := Lib.hid hT
  clear hO5 hB5 HB4 hO2 hO3 hO4 hT
  go_wp2_with fail
  refine (ostrs_any HT.out HLE.out HLS.out).mono ?_
  rintro e w6 ⟨v6, rfl, hO6, hB6⟩
  have hB6' := Lib.hid hB6
  have HB6 := Lib.hid (HB5.out.trans (hB6.mono HB5.out.size))
  have HO6 := Lib.hid (hO6.mono HB5.out.size)
  have hO2 := HO2.out.below hB6
  clear HO2
  have HO2 := Lib.hid hO2
  have hO3 := HO3.out.below hB6
  clear HO3
  have HO3 := Lib.hid hO3
  have hO4 := HO4.out.below hB6
  clear HO4
  have HO4 := Lib.hid hO4
  have hO5 := HO5.out.below hB6
  clear HO5
  have HO5 := Lib.hid hO5
  clear hO6 hB6 HB5 hO2 hO3 hO4 hO5
  obtain ⟨A2, c2, rfl⟩ := HO2.out.len
  obtain ⟨A3, c3, rfl⟩ := HO3.out.len
  obtain ⟨A4, c4, rfl⟩ := HO4.out.len
  obtain ⟨A5, c5, rfl⟩ := HO5.out.len
  obtain ⟨A6, c6, rfl⟩ := HO6.out.len
  go_wp2_with fail
  refine (seq_five HO2.out HO3.out HO4.out HO5.out HO6.out (natB_ne _) (natB_ne _) (strB_ne _) (yesB_ne _) (strsB_ne _) HALL.out).mono ?_
  rintro e w7 ⟨v7, rfl, hO7, hB7⟩
  have hT := HT.out.below (hB6'.out.trans (hB7.mono hB6'.out.size)) (Nat.le_refl _)
  clear HT
  have HT := Lib.hid hT
  have HB7 := Lib.hid (HB6.out.trans (hB7.mono HB6.out.size))
  have HO7 := Lib.hid (hO7.mono HB6.out.size)
  clear hO7 hB7 HB6 HO2 HO3 HO4 HO5 HO6 hT hB6'
  have HALLE : Hid (allB n m s' b ls' = natB n ++ (natB (numN m) ++ (strB s' ++ (yesB b ++ strsB ls')))) := Lib.hid rfl
  rw [← HALLE.out] at HO7 HALL
  have HANE : Hid (allB n m s' b ls' ≠ []) := by show allB n m s' b ls' ≠ []; unfold allB natB; simp
  generalize allB n m s' b ls' = all at *
  obtain ⟨A7, c7, rfl⟩ := HO7.out.len
  have HB := Lib.hid (Below.refl w7.heap.size w7)
  go_wp2_with fail
  refine (fnat_any n hn _).mono ?_
  rintro e w8 ⟨v8, rfl, hO8, hB8⟩
  have HB8 := Lib.hid (HB.out.trans (hB8.mono HB.out.size))
  have HO8 := Lib.hid (hO8.mono HB.out.size)
  clear hO8 hB8 HB
  go_wp2_with fail
  refine (fnum_any m hm0 hm1 _).mono ?_
  rintro e w9 ⟨v9, rfl, hO9, hB9⟩
  have HB9 := Lib.hid (HB8.out.trans (hB9.mono HB8.out.size))
  have HO9 := Lib.hid (hO9.mono HB8.out.size)
  have hO8 := HO8.out.below hB9
  clear HO8
  have HO8 := Lib.hid hO8
  clear hO9 hB9 HB8 hO8
  have src := Lib.hid (src_own HO9.out (natB_ne _))
  go_wp2_with (at_builtin; refine wpList_append_by _ rfl _ _ 54 rfl w7.heap.size (natB n) (natB (numN m)) _ _ rfl rfl HO8.out src.out ?_ HB9.out.size ?_)
  · have := HLN.out
    (try simp only [List.length_append])
    omega
  intro v10 w10 hown hg
  have HO10 := Lib.hid hown
  have HB10 := Lib.hid (HB9.out.grown hg HB9.out.size HO8.out.rows)
  clear hown hg HB9 HO8 HO9 src
  go_wp2_with fail
  refine (fstr_any s' (by omega) _).mono ?_
  rintro e w11 ⟨v11, rfl, hO11, hB11⟩
  have HB11 := Lib.hid (HB10.out.trans (hB11.mono HB10.out.size))
  have HO11 := Lib.hid (hO11.mono HB10.out.size)
  have hO10 := HO10.out.below hB11
  clear HO10
  have HO10 := Lib.hid hO10
  clear hO11 hB11 HB10 hO10
  have src := Lib.hid (src_own HO11.out (strB_ne _))
  go_wp2_with (at_builtin; refine wpList_append_by _ rfl _ _ 54 rfl w7.heap.size ((natB n) ++ (natB (numN m))) (strB s') _ _ rfl rfl HO10.out src.out ?_ HB11.out.size ?_)
  · have := HLN.out
    (try simp only [List.length_append])
    omega
  intro v12 w12 hown hg
  have HO12 := Lib.hid hown
  have HB12 := Lib.hid (HB11.out.grown hg HB11.out.size HO10.out.rows)
  clear hown hg HB11 HO10 HO11 src
  go_wp2_with fail
  refine (fyes_any b _).mono ?_
  rintro e w13 ⟨v13, rfl, hO13, hB13⟩
  have HB13 := Lib.hid (HB12.out.trans (hB13.mono HB12.out.size))
  have HO13 := Lib.hid (hO13.mono HB12.out.size)
  have hO12 := HO12.out.below hB13
  clear HO12
  have HO12 := Lib.hid hO12
  clear hO13 hB13 HB12 hO12
  have src := Lib.hid (src_own HO13.out (yesB_ne _))
  go_wp2_with (at_builtin; refine wpList_append_by _ rfl _ _ 54 rfl w7.heap.size ((natB n) ++ ((natB (numN m)) ++ (strB s'))) (yesB b) _ _ rfl rfl HO12.out src.out ?_ HB13.out.size ?_)
  · have := HLN.out
    (try simp only [List.length_append])
    omega
  intro v14 w14 hown hg
  have HO14 := Lib.hid hown
  have HB14 := Lib.hid (HB13.out.grown hg HB13.out.size HO12.out.rows)
  clear hown hg HB13 HO12 HO13 src
  go_wp2_with fail
  refine (fstrs_any (HT.out.below HB14.out (Nat.le_refl _)) HLE.out HLS.out).mono ?_
  rintro e w15 ⟨v15, rfl, hO15, hB15⟩
  have HB15 := Lib.hid (HB14.out.trans (hB15.mono HB14.out.size))
  have HO15 := Lib.hid (hO15.mono HB14.out.size)
  have hO14 := HO14.out.below hB15
  clear HO14
  have HO14 := Lib.hid hO14
  clear hO15 hB15 HB14 hO14
  have src := Lib.hid (src_own HO15.out (strsB_ne _))
  go_wp2_with (at_builtin; refine wpList_append_by _ rfl _ _ 54 rfl w7.heap.size ((natB n) ++ ((natB (numN m)) ++ ((strB s') ++ (yesB b)))) (strsB ls') _ _ rfl rfl HO14.out src.out ?_ HB15.out.size ?_)
  · have := HLN.out
    (try simp only [List.length_append])
    omega
  intro v16 w16 hown hg
  have HO16 := Lib.hid hown
  have HB16 := Lib.hid (HB15.out.grown hg HB15.out.size HO14.out.rows)
  clear hown hg HB15 HO14 HO15 src
  have HO7' := Lib.hid (HO7.out.below HB16.out)
  rw [← HALLE.out] at HO16
  go_wp2_with fail
  rw [own_string HO7'.out HANE.out]
  go_wp2_with fail
  rw [own_string HO16.out HANE.out]
  have HBW := Lib.hid (HB7.out.trans (HB16.out.mono HB7.out.size))
  clear HO16 HO7' HO7 HB16 HB7 HT
  go_wp2_with fail
  refine (oseq_any (ls := []) (.inl ⟨rfl, rfl⟩) (by simp)).mono ?_
  rintro e w17 ⟨v17, rfl, hO17, hB17⟩
  obtain ⟨A17, c17, rfl⟩ := hO17.len
  have HBX := Lib.hid (HBW.out.trans (hB17.mono HBW.out.size))
  clear hO17 hB17 HBW
  simp only [List.flatten_nil, List.length_nil]
  go_wp2_with fail
  refine (awake2 (HG.out.below HBX.out)).mono ?_
  rintro e w18 ⟨rfl, hB18⟩
  have HBY := Lib.hid (HBX.out.trans (hB18.mono HBX.out.size))
  clear hB18 HBX
  go_wp2
  go_ret
  exact ⟨rfl, HBY.out⟩
end Go.Proofs.YtakdhhapckcnaaaDoor
