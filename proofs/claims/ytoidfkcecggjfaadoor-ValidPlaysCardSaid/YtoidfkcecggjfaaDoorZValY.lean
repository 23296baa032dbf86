/- One call of the law, of both. -/
import Derived.Test.YtoidfkcecggjfaaDoorZValX
set_option linter.unusedSimpArgs false
set_option linter.unusedVariables false
set_option linter.unnecessarySimpa false
namespace Go.Proofs.YtoidfkcecggjfaaDoor
open Go.RowKit Go.Shelf

/-- What a call leaves. -/
def StepV (w0 : World) (h r : Nat) (m : Nat) (w' : World) : Prop := ∃ F A, BothV w0 w' h r F A ∧ A.length ≤ m
set_option maxRecDepth 100000 in
set_option maxHeartbeats 16000000 in
theorem step_any {w0 w : World} {h r F : Nat} {A : List (List K)} {kd n : Int} {nr : Bool} {lv : Value} {L : List K} (hb : BothV w0 w h r F A) (hA : A.length ≤ 60) (hl : TxtIs w lv L) (hn : -9223372036854775808 ≤ n ∧ n ≤ 9223372036854775807) :
    Calls Tryd.prog 7 #[.pointer (some ⟨h, 0, none⟩), .pointer (some ⟨r, 0, none⟩), .agg #[.int .i64 kd, .bool nr, .int .i64 n, lv]] w fun e w' => e = .returned (.bool true) ∧ StepV w0 h r (A.length + 1) w' := by
  have hbn := below_new (w := w) (.cells #[.int .i64 kd, .bool nr, .int .i64 n, lv] 31)
  have HB := Lib.hid (hb.keep hbn)
  have HSO := Lib.hid (some_any (hl.below hbn))
  obtain ⟨Al, cl, rfl, hl1, hl2, _⟩ := id hl
  clear hb hl hbn
  go_enter Tryd.func7, Tryd.ntmps7
  go_wp2_with fail
  refine (HSO.out).mono ?_
  rintro e w2 ⟨v2, rfl, hr2, ho2, hb2⟩
  have hsl := some_len L
  generalize someP L = S at hr2 hsl
  have HO2 := Lib.hid ho2
  have HB2 := Lib.hid (HB.out.keep hb2)
  have HB21 := Lib.hid hb2
  have hop : w2.heap[w.heap.size]? = some (.cells #[.int .i64 kd, .bool nr, .int .i64 n, .slice Al L.length cl] 31 (0, 0)) := (hb2.block _ (by rw [asz]; omega)).trans (alloc_at w _)
  have HOP := Lib.hid hop
  have HR2 := Lib.hid hr2
  have k0 : w2.cell? ⟨w.heap.size, 0, none⟩ = some (.int .i64 kd) := cell_of hop 0
  have k1 : w2.cell? ⟨w.heap.size, 1, none⟩ = some (.bool nr) := cell_of hop 1
  have k2 : w2.cell? ⟨w.heap.size, 2, none⟩ = some (.int .i64 n) := cell_of hop 2
  obtain ⟨A2, c2, rfl, hA2, hc2, _⟩ := id hr2.form
  clear ho2 hr2 hop HSO hb2
  go_upto_if 26 with fail
  go_cut [8, 9] (fun s8 s9 wx => ∃ m : Int, s8 = .int .i64 m ∧ (-9223372036854775808 ≤ m ∧ m ≤ 9223372036854775807) ∧ w2 = wx)
  case first =>
    cases nr with
    | false =>
      go_wp2_with fail
      go_meet
      exact ⟨n, rfl, hn, rfl⟩
    | true =>
      obtain ⟨v, vs, u, us, b2⟩ := HB2.out
      obtain ⟨Au, cu, rfl, hu1, hu2, _⟩ := id b2.ra.row.form
      have kr : w2.cell? ⟨r, 0, none⟩ = some (.slice Au A.length cu) := cell_of b2.ra.head 0
      obtain ⟨i, hi, hcs⟩ := tmod_cases n 8 (by omega)
      rw [show ((8 : Nat) : Int) = 8 from rfl] at hcs
      clear b2 HOP HR2
      rcases hcs with hcs | ⟨hi0, hcs⟩
      · go_wp2_with fail
        go_meet
        exact ⟨(A.length : Int) - (i : Int), by first | rfl | rw [hcs], by omega, rfl⟩
      · go_wp2_with fail
        go_meet
        exact ⟨(A.length : Int) - (i : Int), by first | rfl | rw [hcs], by omega, rfl⟩
  case rest =>
    obtain ⟨m, rfl, hm, rfl⟩ := hcut
    clear k1 k2 hn
    by_cases q0 : kd = 0 ∨ kd = 1
    · obtain ⟨Am, cm, w3, hr3, hrow3, ho3, hb3⟩ := mine_app HR2.out (strs_one S) (by omega)
      obtain ⟨v, vs, u, us, b⟩ := HB.out
      have hsz := HB21.out.size
      have hb32 := hb3
      have hb3 := HB21.out.trans (hb32.mono hsz)
      have HBB := Lib.hid b
      have hF := b.hF
      have had := Add_any (keys := S) (b.hh.below hb3) hrow3 (by omega) (by rw [List.length_drop]; omega)
      rw [show ((F : Int) + ((A.drop F).length : Int) + 1) = (A.length : Int) + 1 by rw [List.length_drop]; omega] at had
      have HAD := Lib.hid had
      have HB3 := Lib.hid hb3
      have HO3 := Lib.hid (fun k (e : (Value.slice Am S.length cm).ownBlock = some k) => And.intro (Nat.le_trans hsz (ho3 k e)) (RowIs.lt hrow3 k e))
      have HR3 := Lib.hid (HR2.out.below hb32)
      have HO4 : Hid (∀ k, (Value.slice A2 S.length c2).ownBlock = some k → (Value.slice Am S.length cm).ownBlock ≠ some k) := Lib.hid (fun k e e2 => by have := RowIs.lt HR2.out k e; have := ho3 k e2; omega)
      have hm0 : ∃ l, RowIs w3 1 (.slice Am S.length cm) S.length l := ⟨_, hrow3⟩
      clear b had hb3 hb32 ho3 HB2 HOP hrow3 HR2 hsz
      rcases q0 with rfl | rfl
      all_goals
        go_wp2_with (at_builtin; refine wpList_app_run rfl _ _ _ _ rfl rfl rfl hr3 ?_)
        refine (HAD.out).mono ?_
        rintro e w4 ⟨rfl, hp⟩
        have HP := Lib.hid hp
        have HM0 := Lib.hid (HBB.out.mine0 HO3.out hm0 hp)
        clear hp HAD hm0 hr3
        go_wp2_with fail
        go_loopw [57] (fun iv wr => ∃ k : Nat, k ≤ S.length ∧ iv = .int .i64 k ∧ Mine w4 Am S.length cm wr) (fun iv _ => S.length - (intOf iv).toNat)
        case atStart => exact ⟨0, Nat.zero_le _, rfl, HM0.out⟩
        case round =>
          obtain ⟨k, hk, rfl, hM⟩ := hrel
          by_cases hlt : k < S.length
          · obtain ⟨g, x, rfl, hc, hfz⟩ := hM.base hlt
            have HM1 := Lib.hid (hM.put hlt (.string ⟨#[111, 116, 104, 101, 114]⟩))
            have HLT := Lib.hid hlt
            have hi : (k : Int) < (S.length : Int) := by omega
            have hi6 : (k : Int) < 6 := by omega
            clear hM hlt hk
            go_wp2_with fail
            go_roundw
            case rel => exact ⟨k + 1, HLT.out, by go_num, HM1.out⟩
            case measure => have := HLT.out; simp [intOf]; omega
          · obtain rfl : k = S.length := by omega
            obtain ⟨hl2, hra, hfin⟩ := HBB.out.added (keys := S) HB3.out HO3.out HP.out hM rfl
            have HRA := Lib.hid (radd_any hra (hl2 HR3.out (fun k e => ⟨HO2.out k e, HO4.out k e⟩)) (by omega) (by omega))
            have HFIN := Lib.hid hfin
            clear hl2 hra hfin hM hlt hk HM0 HP
            go_wp2_with fail
            refine (HRA.out).mono ?_
            rintro e w6 ⟨rfl, u', us', r2, t2, o3, o4⟩
            have HFF := Lib.hid (HFIN.out _ ⟨u', us', r2, t2, fun k e => .inr (o3 k e), o4⟩)
            clear r2 t2 o3 o4 HRA HFIN
            go_wp2_with fail
            go_ret
            exact ⟨by simp, F, _, HFF.out, by simp⟩
    · by_cases q2 : kd = 2 ∨ kd = 3
      · have HC := Lib.hid (HB2.out.check (since := m) HR2.out (by omega))
        clear q0 HB HOP
        rcases q2 with rfl | rfl
        all_goals
          go_wp2_with fail
          refine (HC.out).mono ?_
          rintro e w3 ⟨rfl, hb3, hbw3⟩
          have HRC := Lib.hid (hb3.rcheck (since := m) (HR2.out.below hbw3) (by omega))
          have HB3 := Lib.hid hb3
          generalize checkR F (A.drop F) m S = c at HRC
          clear hb3 hbw3 HC HR2 HB2
          go_wp2_with fail
          refine (HRC.out).mono ?_
          rintro e w4 ⟨rfl, rfl⟩
          go_wp2_with fail
          go_ret
          exact ⟨by simp, F, A, HB3.out, by omega⟩
      · by_cases q4 : kd = 4
        · subst q4
          have HC := Lib.hid (HB2.out.first (since := m) HR2.out (by omega))
          clear q0 q2 HB HOP
          go_wp2_with fail
          refine (HC.out).mono ?_
          rintro e w3 ⟨rfl, hb3, hbw3⟩
          have hrc := hb3.rcheck (since := m) (HR2.out.below hbw3) (by omega)
          have hR3 := HR2.out.below hbw3
          have HR3 := Lib.hid hR3
          have HB3 := Lib.hid hb3
          obtain ⟨v, vs, u, us, b⟩ := id hb3
          have hF := b.hF
          rcases first_cases (m := m) (R := S) hF with ⟨c, h1, h2, h3⟩ | ⟨j, s, h1, h2, h3, h4, h5, h6⟩
          · rw [h1] at hrc
            rw [h3]
            have HRC := Lib.hid hrc
            have h2' : (c != 23) = true := by rw [bne_iff_ne]; exact h2
            have h2'' : (c == 23) = false := by rw [beq_eq_false_iff_ne]; exact h2
            clear hrc b hb3 hbw3 HC HR2 HB2 hR3 h1 h3
            go_wp2_with fail
            refine (HRC.out).mono ?_
            rintro e w4 ⟨rfl, rfl⟩
            go_wp2_with fail
            go_ret
            exact ⟨by simp, F, A, HB3.out, by omega⟩
          · subst h5
            rw [h1] at hrc
            rw [h2]
            have HRC := Lib.hid hrc
            have HRF := Lib.hid (rfirst_any b.ra hR3 h6 (by omega))
            have hj : (0 : Int) < (j : Int) := by omega
            have hjd : decide ((0 : Int) < (j : Int)) = true := decide_eq_true hj
            rw [hjd]
            rw [h4] at HRF
            clear hrc b hb3 hbw3 HC HR2 HB2 hR3 h1 h2 hjd
            go_wp2_with fail
            refine (HRC.out).mono ?_
            rintro e w4 ⟨rfl, rfl⟩
            go_wp2_with fail
            refine (HRF.out).mono ?_
            rintro e w5 ⟨rfl, rfl⟩
            go_wp2_with fail
            go_ret
            exact ⟨by simp, F, A, HB3.out, by omega⟩
        · by_cases q5 : kd = 5
          · subst q5
            have HC := Lib.hid (HB2.out.forget (lo := m) (by omega) (by omega))
            clear q0 q2 q4 HB HOP
            go_wp2_with fail
            refine (HC.out).mono ?_
            rintro e w3 ⟨rfl, hrf⟩
            have HRF := Lib.hid hrf
            generalize forgetN F (A.length - F) m = c at HRF
            clear hrf HC HB2 HR2
            go_wp2_with fail
            refine (HRF.out).mono ?_
            rintro e w4 ⟨rfl, hb4⟩
            have HB4 := Lib.hid hb4
            clear hb4 HRF
            go_wp2_with fail
            go_ret
            exact ⟨by simp, F + c, A, HB4.out, by omega⟩
          · by_cases q6 : kd = 6
            · subst q6
              clear q0 q2 q4 q5 HB HOP
              obtain ⟨v, vs, u, us, b⟩ := HB2.out
              have hF := b.hF
              have HBB := Lib.hid b
              obtain ⟨Au, cu, rfl, hu1, hu2, _, _, hus⟩ := id b.ra.row.form
              have kr : w2.cell? ⟨r, 0, none⟩ = some (.slice Au A.length cu) := cell_of b.ra.head 0
              have kf : w2.cell? ⟨r, 1, none⟩ = some (.int .i64 F) := cell_of b.ra.head 1
              have HK := Lib.hid (Keys_any (n := m) b.hh hm)
              by_cases hin : (F : Int) < m ∧ m ≤ (A.length : Int)
              · obtain ⟨i, ks, hi1, hi2, hi3, hi4, hi5⟩ := keys_in hin.1 hin.2
                obtain ⟨x, hx, hrx, _⟩ := b.ra.each i ks hi3
                obtain ⟨g, rfl, hg⟩ := hus i x hx
                have hin1 := hin.1
                have hin2 := hin.2
                rw [hi4] at HK
                have HX := Lib.hid hrx
                have hkl := (b.hh.good ks hi5).2
                clear b hin hi3 hi4 hi5 hus
                go_wp2_with fail
                refine (HK.out).mono ?_
                rintro e w3 ⟨v3, rfl, hr3, ho3, hb3⟩
                have HT := Lib.hid (texts_same hr3 (HX.out.below hb3) hkl)
                have HO3 := Lib.hid ho3
                have HB3 := Lib.hid hb3
                have HR3 := Lib.hid hr3
                obtain ⟨A3, c3, rfl, hA3, hc3, _⟩ := id hr3.form
                clear hr3 ho3 hb3 HK HX
                go_wp2_with fail
                refine (HT.out).mono ?_
                rintro e w4 ⟨rfl, hb4⟩
                have HB4 := Lib.hid (HB3.out.trans (hb4.mono HB3.out.size))
                have HM4 : Hid (Mine w4 A3 ks.length c3 w4) := Lib.hid ⟨⟨_, HR3.out.below hb4⟩, Touch.refl _ _⟩
                have hkl2 : (ks.length : Int) ≤ 1000000 := by omega
                clear hb4 HT kr kf k0
                go_wp2_with fail
                go_loopw [158] (fun iv wr => ∃ k : Nat, k ≤ ks.length ∧ iv = .int .i64 k ∧ Mine w4 A3 ks.length c3 wr) (fun iv _ => ks.length - (intOf iv).toNat)
                case atStart => exact ⟨0, Nat.zero_le _, rfl, HM4.out⟩
                case round =>
                  obtain ⟨k, hk, rfl, hM⟩ := hrel
                  by_cases hlt : k < ks.length
                  · obtain ⟨g, x, rfl, hc, hfz⟩ := hM.base hlt
                    have HM1 := Lib.hid (hM.put hlt (.string ⟨#[111, 116, 104, 101, 114]⟩))
                    have HLT := Lib.hid hlt
                    have hi : (k : Int) < (ks.length : Int) := by omega
                    have hi6 : (k : Int) < 1000000 := by omega
                    clear hM hlt hk
                    go_wp2_with fail
                    go_roundw
                    case rel => exact ⟨k + 1, HLT.out, by go_num, HM1.out⟩
                    case measure => have := HLT.out; simp [intOf]; omega
                  · obtain rfl : k = ks.length := by omega
                    have HFF := Lib.hid (HB2.out.keep (hM.since HB4.out HO3.out))
                    clear hM hlt hk HM4 HB4
                    go_wp2_with fail
                    go_ret
                    exact ⟨by simp, F, A, HFF.out, by omega⟩
              · have hk0 := keys_out (n := m) hF (by omega)
                rw [hk0] at HK
                obtain ⟨ks, hks⟩ : ∃ ks : List K, ks = [] := ⟨_, rfl⟩
                have HX : Hid (RowIs w2 1 (.slice none 0 0) ks.length (strs ks)) := Lib.hid (by rw [hks]; exact RowIs.nil w2 1)
                rw [← hks] at HK
                have hkl : ks.length ≤ 1000000 := by rw [hks]; simp
                clear b hus hks hk0
                by_cases hin1 : (F : Int) < m
                · have hin2 : ¬ m ≤ (A.length : Int) := fun e => hin ⟨hin1, e⟩
                  clear hin
                  go_wp2_with fail
                  refine (HK.out).mono ?_
                  rintro e w3 ⟨v3, rfl, hr3, ho3, hb3⟩
                  have HT := Lib.hid (texts_same hr3 (HX.out.below hb3) hkl)
                  have HO3 := Lib.hid ho3
                  have HB3 := Lib.hid hb3
                  have HR3 := Lib.hid hr3
                  obtain ⟨A3, c3, rfl, hA3, hc3, _⟩ := id hr3.form
                  clear hr3 ho3 hb3 HK HX
                  go_wp2_with fail
                  refine (HT.out).mono ?_
                  rintro e w4 ⟨rfl, hb4⟩
                  have HB4 := Lib.hid (HB3.out.trans (hb4.mono HB3.out.size))
                  have HM4 : Hid (Mine w4 A3 ks.length c3 w4) := Lib.hid ⟨⟨_, HR3.out.below hb4⟩, Touch.refl _ _⟩
                  have hkl2 : (ks.length : Int) ≤ 1000000 := by omega
                  clear hb4 HT kr kf k0
                  go_wp2_with fail
                  go_loopw [158] (fun iv wr => ∃ k : Nat, k ≤ ks.length ∧ iv = .int .i64 k ∧ Mine w4 A3 ks.length c3 wr) (fun iv _ => ks.length - (intOf iv).toNat)
                  case atStart => exact ⟨0, Nat.zero_le _, rfl, HM4.out⟩
                  case round =>
                    obtain ⟨k, hk, rfl, hM⟩ := hrel
                    by_cases hlt : k < ks.length
                    · obtain ⟨g, x, rfl, hc, hfz⟩ := hM.base hlt
                      have HM1 := Lib.hid (hM.put hlt (.string ⟨#[111, 116, 104, 101, 114]⟩))
                      have HLT := Lib.hid hlt
                      have hi : (k : Int) < (ks.length : Int) := by omega
                      have hi6 : (k : Int) < 1000000 := by omega
                      clear hM hlt hk
                      go_wp2_with fail
                      go_roundw
                      case rel => exact ⟨k + 1, HLT.out, by go_num, HM1.out⟩
                      case measure => have := HLT.out; simp [intOf]; omega
                    · obtain rfl : k = ks.length := by omega
                      have HFF := Lib.hid (HB2.out.keep (hM.since HB4.out HO3.out))
                      clear hM hlt hk HM4 HB4
                      go_wp2_with fail
                      go_ret
                      exact ⟨by simp, F, A, HFF.out, by omega⟩
                · clear hin
                  go_wp2_with fail
                  refine (HK.out).mono ?_
                  rintro e w3 ⟨v3, rfl, hr3, ho3, hb3⟩
                  have HT := Lib.hid (texts_same hr3 (HX.out.below hb3) hkl)
                  have HO3 := Lib.hid ho3
                  have HB3 := Lib.hid hb3
                  have HR3 := Lib.hid hr3
                  obtain ⟨A3, c3, rfl, hA3, hc3, _⟩ := id hr3.form
                  clear hr3 ho3 hb3 HK HX
                  go_wp2_with fail
                  refine (HT.out).mono ?_
                  rintro e w4 ⟨rfl, hb4⟩
                  have HB4 := Lib.hid (HB3.out.trans (hb4.mono HB3.out.size))
                  have HM4 : Hid (Mine w4 A3 ks.length c3 w4) := Lib.hid ⟨⟨_, HR3.out.below hb4⟩, Touch.refl _ _⟩
                  have hkl2 : (ks.length : Int) ≤ 1000000 := by omega
                  clear hb4 HT kr kf k0
                  go_wp2_with fail
                  go_loopw [158] (fun iv wr => ∃ k : Nat, k ≤ ks.length ∧ iv = .int .i64 k ∧ Mine w4 A3 ks.length c3 wr) (fun iv _ => ks.length - (intOf iv).toNat)
                  case atStart => exact ⟨0, Nat.zero_le _, rfl, HM4.out⟩
                  case round =>
                    obtain ⟨k, hk, rfl, hM⟩ := hrel
                    by_cases hlt : k < ks.length
                    · obtain ⟨g, x, rfl, hc, hfz⟩ := hM.base hlt
                      have HM1 := Lib.hid (hM.put hlt (.string ⟨#[111, 116, 104, 101, 114]⟩))
                      have HLT := Lib.hid hlt
                      have hi : (k : Int) < (ks.length : Int) := by omega
                      have hi6 : (k : Int) < 1000000 := by omega
                      clear hM hlt hk
                      go_wp2_with fail
                      go_roundw
                      case rel => exact ⟨k + 1, HLT.out, by go_num, HM1.out⟩
                      case measure => have := HLT.out; simp [intOf]; omega
                    · obtain rfl : k = ks.length := by omega
                      have HFF := Lib.hid (HB2.out.keep (hM.since HB4.out HO3.out))
                      clear hM hlt hk HM4 HB4
                      go_wp2_with fail
                      go_ret
                      exact ⟨by simp, F, A, HFF.out, by omega⟩
            · have p0 : (kd == 0) = false := by rw [beq_eq_false_iff_ne]; omega
              have p1 : (kd == 1) = false := by rw [beq_eq_false_iff_ne]; omega
              have p2 : (kd == 2) = false := by rw [beq_eq_false_iff_ne]; omega
              have p3 : (kd == 3) = false := by rw [beq_eq_false_iff_ne]; omega
              have p4 : (kd == 4) = false := by rw [beq_eq_false_iff_ne]; omega
              have p5 : (kd == 5) = false := by rw [beq_eq_false_iff_ne]; omega
              have p6 : (kd == 6) = false := by rw [beq_eq_false_iff_ne]; omega
              clear q0 q2 q4 q5 q6 HB HOP HR2
              go_wp2_with fail
              go_ret
              exact ⟨by simp, F, A, HB2.out, by omega⟩
end Go.Proofs.YtoidfkcecggjfaaDoor
