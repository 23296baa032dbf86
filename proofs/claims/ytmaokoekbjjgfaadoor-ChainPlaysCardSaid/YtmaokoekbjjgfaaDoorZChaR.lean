/- awake; ChainNil. -/
import Derived.Test.YtmaokoekbjjgfaaDoorZChaQ
set_option linter.unusedSimpArgs false
set_option linter.unusedVariables false
set_option linter.unnecessarySimpa false
namespace Go.Proofs.YtmaokoekbjjgfaaDoor
open Go.RowKit Go.Shelf

def la0 : List Ver := [⟨0, 5, true, 0, false⟩]
def la1 : List Ver := [⟨0, 5, true, 0, false⟩, ⟨3, 7, true, 0, true⟩]
def la2 : List Ver := [⟨0, 5, true, 2, false⟩, ⟨3, 7, true, 0, true⟩]
def la3 : List Ver := [⟨0, 5, true, 2, false⟩, ⟨3, 7, true, 0, false⟩]
def la4 : List Ver := [⟨0, 5, true, 2, false⟩, ⟨3, 7, true, 4, false⟩]
theorem la_w : writeP la0 3 7 true = (la1, 0) := by rfl
theorem la_r2 : readP la1 2 = (la2, 5, true, 0) := by rfl
theorem la_r4 : readP la2 4 = (la2, 0, false, 20) := by rfl
theorem la_c : commitP la2 3 = (la3, true) := by rfl
theorem la_r5 : readP la3 4 = (la4, 7, true, 0) := by rfl
theorem la_w1 : writeP la4 1 9 true = (la4, 22) := by rfl
theorem inR (x : Int) (h : -100 ≤ x ∧ x ≤ 100) : InR64 x := by unfold InR64; omega
set_option maxRecDepth 100000 in
set_option maxHeartbeats 2000000 in
theorem awake_any {w : World} (hG : Glob w) : Calls Tryd.prog 13 #[] w fun e w' => e = .returned (.bool true) ∧ Below w.heap.size w w' := by
  have HN := Lib.hid (New_any (n := 5) (th := true) hG (inR _ (by omega)))
  go_enter Tryd.func13, Tryd.ntmps13
  go_wp2_with fail
  refine (HN.out).mono ?_
  rintro e w1 ⟨c, v, rfl, h1, hb1, hc1, hv1⟩
  have k1 : Ch w1 c v la0 := h1
  have hW := Write_any (t := 3) (n := 7) (th := true) k1 (inR _ (by omega)) (inR _ (by omega)) (fun ⟨u, _, _, _, h⟩ => h rfl) (by show 2 ≤ 1000000; omega)
  rw [la_w] at hW
  have HW := Lib.hid hW
  have HB1 := Lib.hid hb1
  have HC1 := Lib.hid hc1
  have HV1 := Lib.hid hv1
  clear h1 k1 hb1 hc1 hv1 hW HN
  go_wp2_with fail
  refine (HW.out).mono ?_
  rintro e w2 ⟨v2, rfl, k2, ht2, ho2⟩
  have hb2 : Below w.heap.size w w2 := HB1.out.trans (ht2.below (fun i e => by
    have := HC1.out
    rcases e with e | e
    · omega
    · exact HV1.out i e) HB1.out.size)
  have hv2 : ∀ b, v2.ownBlock = some b → w.heap.size ≤ b := fun b e => by
    rcases ho2 with e2 | ⟨b2, e2, hb⟩
    · exact HV1.out b (e2 ▸ e)
    · rw [e] at e2
      injection e2 with e2
      have := HB1.out.size
      omega
  have hR := Read_any (t := 2) k2 (inR _ (by omega))
  rw [la_r2] at hR
  have HR := Lib.hid hR
  have HB2 := Lib.hid hb2
  have HV2 := Lib.hid hv2
  clear k2 ht2 ho2 hb2 hv2 hR HW HB1 HV1
  go_wp2_with fail
  refine (HR.out).mono ?_
  rintro e w3 ⟨rfl, k3, ht3⟩
  have HB3 := Lib.hid (HB2.out.trans (ht3.below (fun i e => HV2.out i e) HB2.out.size))
  have hR := Read_any (t := 4) k3 (inR _ (by omega))
  rw [la_r4] at hR
  have HR4 := Lib.hid hR
  clear k3 ht3 hR HR HB2
  go_wp2_with fail
  refine (HR4.out).mono ?_
  rintro e w4 ⟨rfl, k4, ht4⟩
  have HB4 := Lib.hid (HB3.out.trans (ht4.below (fun i e => HV2.out i e) HB3.out.size))
  have hK := Commit_any (t := 3) k4
  rw [la_c] at hK
  have HK := Lib.hid hK
  clear k4 ht4 hK HR4 HB3
  go_wp2_with fail
  refine (HK.out).mono ?_
  rintro e w5 ⟨rfl, k5, ht5⟩
  have HB5 := Lib.hid (HB4.out.trans (ht5.below (fun i e => HV2.out i e) HB4.out.size))
  have hR := Read_any (t := 4) k5 (inR _ (by omega))
  rw [la_r5] at hR
  have HR5 := Lib.hid hR
  clear k5 ht5 hR HK HB4
  go_wp2_with fail
  refine (HR5.out).mono ?_
  rintro e w6 ⟨rfl, k6, ht6⟩
  have HB6 := Lib.hid (HB5.out.trans (ht6.below (fun i e => HV2.out i e) HB5.out.size))
  have hW := Write_any (t := 1) (n := 9) (th := true) k6 (inR _ (by omega)) (inR _ (by omega)) (fun ⟨u, hu, h, _⟩ => by
    have hu : some (⟨0, 5, true, 2, false⟩ : Ver) = some u := hu
    injection hu with hu
    subst hu
    exact h (by decide)) (by show 3 ≤ 1000000; omega)
  rw [la_w1] at hW
  have HW1 := Lib.hid hW
  clear k6 ht6 hW HR5 HB5
  go_wp2_with fail
  refine (HW1.out).mono ?_
  rintro e w7 ⟨v7, rfl, k7, ht7, _⟩
  have HB7 := Lib.hid (HB6.out.trans (ht7.below (fun i e => by
    have := HC1.out
    rcases e with e | e
    · omega
    · exact HV2.out i e) HB6.out.size))
  have HVE : Hid (Calls Tryd.prog 20 #[.pointer (some ⟨c, 0, none⟩)] w7 fun e w' => e = .returned (.slice (some ⟨w7.heap.size, 0, none⟩) 2 2) ∧ w' = w7.alloc (.cells (verC la4).toArray 47)) := Lib.hid (Versions_any k7 (by show 0 < 2; omega))
  clear k7 ht7 HW1 HB6
  go_wp2_with fail
  refine (HVE.out).mono ?_
  rintro e w8 ⟨rfl, rfl⟩
  have HB8 := Lib.hid (HB7.out.trans ((below_new (w := w7) (.cells (verC la4).toArray 47)).mono HB7.out.size))
  clear HVE HB7
  go_wp2_with fail
  go_ret
  exact ⟨rfl, HB8.out⟩
set_option maxRecDepth 100000 in
set_option maxHeartbeats 2000000 in
theorem law_nil {w : World} (hG : Glob w) (t n : Int) : Calls Tryd.prog 6 #[.int .i64 t, .int .i64 n] w fun e w' => e = .returned (.bool true) ∧ Below w.heap.size w w' := by
  have H1 := Lib.hid (Read_nil t w)
  have H2 := Lib.hid (Latest_nil w)
  have H3 := Lib.hid (fun W => Write_nil t n true W)
  have H4 := Lib.hid (fun W => Commit_nil t W)
  have H5 := Lib.hid (fun W => Abort_nil t W)
  have H6 := Lib.hid (fun W => Prune_nil t W)
  have H7 := Lib.hid (fun W => Versions_nil W)
  have H8 := Lib.hid (fun W => Copy_nil W)
  have HG := Lib.hid hG
  clear hG
  go_enter Tryd.func6, Tryd.ntmps6
  go_wp2_with fail
  refine (H1.out).mono ?_
  rintro e w1 ⟨rfl, rfl⟩
  go_wp2_with fail
  refine (H2.out).mono ?_
  rintro e w2 ⟨rfl, hb2⟩
  have HB2 := Lib.hid hb2
  have HA := Lib.hid (awake_any (HG.out.below hb2))
  clear hb2 H1 H2
  go_wp2_with fail
  refine (H3.out _).mono ?_
  rintro e w3 ⟨rfl, rfl⟩
  go_wp2_with fail
  refine (H4.out _).mono ?_
  rintro e w4 ⟨rfl, rfl⟩
  go_wp2_with fail
  refine (H5.out _).mono ?_
  rintro e w5 ⟨rfl, rfl⟩
  go_wp2_with fail
  refine (H6.out _).mono ?_
  rintro e w6 ⟨rfl, rfl⟩
  go_wp2_with fail
  refine (H7.out _).mono ?_
  rintro e w7 ⟨rfl, rfl⟩
  go_wp2_with fail
  refine (H8.out _).mono ?_
  rintro e w8 ⟨rfl, rfl⟩
  go_wp2_with fail
  refine (HA.out).mono ?_
  rintro e w9 ⟨rfl, hb9⟩
  have HB9 := Lib.hid (HB2.out.trans (hb9.mono HB2.out.size))
  clear hb9 HA
  go_wp2_with fail
  go_ret
  exact ⟨rfl, HB9.out⟩
end Go.Proofs.YtmaokoekbjjgfaaDoor
