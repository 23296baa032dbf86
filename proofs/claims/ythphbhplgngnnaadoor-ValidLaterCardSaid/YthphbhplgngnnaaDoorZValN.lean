/- ValidLater. -/
import Derived.Test.YthphbhplgngnnaaDoorZValM
set_option linter.unusedSimpArgs false
set_option linter.unusedVariables false
set_option linter.unnecessarySimpa false
namespace Go.Proofs.YthphbhplgngnnaaDoor
open Go.RowKit Go.Shelf

set_option maxRecDepth 100000 in
set_option maxHeartbeats 20000000 in
theorem law_later {w : World} (hG : Glob w) {lv rv mv : Value} {l more : List (List K)} {R : List K} {s : Int} (hl : TxtsIs w lv l) (hr : TxtIs w rv R) (hm : TxtsIs w mv more) (hs : -9223372036854775808 ≤ s ∧ s ≤ 9223372036854775807) :
    Calls Tryd.prog 4 #[lv, .int .i64 s, rv, mv] w fun e w' => e = .returned (.bool true) ∧ Below w.heap.size w w' := by
  have HN := Lib.hid (New_any hG)
  have HG := Lib.hid hG
  have HL := Lib.hid hl
  have HR := Lib.hid hr
  have HM := Lib.hid hm
  have HS := Lib.hid hs
  obtain ⟨Al, cl, rfl, hl1, hl2, hlx⟩ := hl
  obtain ⟨Am, cm, rfl, hm1, hm2, hmx⟩ := hm
  unfold maxLen at hl2 hm2
  clear hG hr hs hlx hmx
  go_enter Tryd.func4, Tryd.ntmps4
  go_wp2_with fail
  refine (HN.out).mono ?_
  rintro e w1 ⟨h, rfl, h1, hb1, hc1⟩
  have R1 := Lib.hid (run_new HG.out h1 hb1 hc1 (fun b e => by cases e) (fun x hx => by cases hx))
  clear h1 hb1 hc1 HN
  go_wp2_with fail
  go_loopw [21] (fun iv wr => ∃ k : Nat, k ≤ l.length ∧ iv = .int .i64 k ∧ Run w wr h 0 (addsP l k) []) (fun iv _ => l.length - (intOf iv).toNat)
  case atStart => exact ⟨0, Nat.zero_le _, rfl, R1.out⟩
  case round =>
    obtain ⟨k, hk, rfl, hrun⟩ := hrel
    by_cases hlt : k < l.length
    · have hx : l[k]? = some l[k] := List.getElem?_eq_getElem hlt
      generalize l[k] = ks at hx
      obtain ⟨A', cap', e', _, _, h3⟩ := HL.out.below hrun.below
      injection e' with e1 _ e3
      subst e1 e3
      obtain ⟨a, u, rfl, ha, k0, hu⟩ := h3 k ks hx
      obtain ⟨Au, cu, rfl, hu1, hu2, _⟩ := id hu
      have hi : (k : Int) < (l.length : Int) := by omega
      have HLT := Lib.hid hlt
      have HX := Lib.hid hx
      have HRUN := Lib.hid hrun
      by_cases h10 : k < 10
      · have l10 : (k : Int) < 10 := by omega
        have HSO := Lib.hid (some_any hu)
        have HK := Lib.hid h10
        clear h3 hx hu hrun hlt h10 hk
        go_wp2_with fail
        refine (HSO.out).mono ?_
        rintro e w2 ⟨v2, rfl, hr2, _, hb2⟩
        obtain ⟨A2, c2, rfl, _⟩ := id hr2.form
        have HA := Lib.hid ((HRUN.out.keep hb2).add hr2 (Nat.le_trans (some_len ks) (by omega)) (by have := adds_len l k; omega))
        clear hr2 hb2 HSO
        go_wp2_with fail
        refine (HA.out).mono ?_
        rintro e w3 ⟨rfl, r3⟩
        have HR3 : Hid (Run w w3 h 0 (addsP l (k + 1)) []) := Lib.hid (by rw [adds_in HX.out HK.out]; exact r3)
        clear r3 HA
        go_wp2_with fail
        go_roundw
        case rel => exact ⟨k + 1, HLT.out, by go_num, HR3.out⟩
        case measure => have := HLT.out; simp [intOf]; omega
      · have l10 : ¬ (k : Int) < 10 := by omega
        have HR3 : Hid (Run w wr h 0 (addsP l (k + 1)) []) := Lib.hid (by rw [adds_out h10]; exact hrun)
        clear h3 hx hu hrun hlt h10 hk
        go_wp2_with fail
        go_roundw
        case rel => exact ⟨k + 1, HLT.out, by go_num, HR3.out⟩
        case measure => have := HLT.out; simp [intOf]; omega
    · obtain rfl : k = l.length := by omega
      obtain ⟨C, hC⟩ : ∃ C, C = addsP l l.length := ⟨_, rfl⟩
      rw [← hC] at hrun
      have hC10 : C.length ≤ 10 := by rw [hC]; exact adds_len _ _
      obtain ⟨N, hN⟩ : ∃ N, C.length = N := ⟨_, rfl⟩
      have hN10 : (N : Int) ≤ 10 := by omega
      have HSO := Lib.hid (some_any (HR.out.below hrun.below))
      have HRUN := Lib.hid hrun
      have HNN := Lib.hid hN
      clear hrun hlt hk hC hN hC10 R1 HL
      go_wp2_with fail
      refine (HSO.out).mono ?_
      rintro e w2 ⟨v2, rfl, hr2, ho2, hb2⟩
      obtain ⟨bx, r2, hrow⟩ := HRUN.out.row hb2 hr2 ho2
      obtain ⟨A2, c2, rfl, _⟩ := id hr2.form
      have HROW := Lib.hid hrow
      have HNO := Lib.hid (r2.now0 HNN.out)
      clear hr2 ho2 hb2 r2 hrow HSO HRUN
      go_wp2_with fail
      refine (HNO.out).mono ?_
      rintro e w3 ⟨rfl, r3⟩
      have HR3 := Lib.hid r3
      clear r3 HNO
      obtain ⟨i, hi, hcs⟩ := cut_cases s N
      have hs1 := HS.out.1
      have hs2 := HS.out.2
      go_upto_if 41 with fail
      go_cut [1] (fun s1 wx => s1 = .int .i64 (i : Int) ∧ w3 = wx)
      case first =>
        rcases hcs with hcs | ⟨hi0, hcs⟩
        · go_wp2_with fail
          go_meet
          exact ⟨by first | rfl | rw [hcs], rfl⟩
        · go_wp2_with fail
          go_meet
          exact ⟨by first | rfl | rw [hcs], rfl⟩
      case rest =>
        obtain ⟨rfl, rfl⟩ := hcut
        clear hcs
        obtain ⟨x, y, z, ex, ey, ez, hxyz⟩ := later_cases (D := addsP more more.length) (R := someP R) HNN.out hi
        have hch := HR3.out.check (since := (i : Nat)) (HROW.out _ (fun p hp => (HR3.out.box p hp).1)) (Nat.le_trans (some_len R) (by omega))
        rw [ex] at hch
        have HCH := Lib.hid hch
        have HEY := Lib.hid ey
        have HEZ := Lib.hid ez
        have HXYZ := Lib.hid hxyz
        clear hch ex ey ez hxyz HR3 hs1 hs2 hi
        go_wp2_with fail
        refine (HCH.out).mono ?_
        rintro e w4 ⟨rfl, r4, _⟩
        have HNO := Lib.hid (r4.now0 HNN.out)
        clear r4 HCH
        go_wp2_with fail
        refine (HNO.out).mono ?_
        rintro e w5 ⟨rfl, r5⟩
        have HR6 := Lib.hid r5
        clear r5 HNO
        go_wp2_with fail
        go_loopw [52] (fun iv wr => ∃ k : Nat, k ≤ more.length ∧ iv = .int .i64 k ∧ Run w wr h 0 (C ++ addsP more k) bx) (fun iv _ => more.length - (intOf iv).toNat)
        case atStart => exact ⟨0, Nat.zero_le _, rfl, (by rw [show addsP more 0 = [] from rfl, List.append_nil]; exact HR6.out)⟩
        case round =>
          obtain ⟨k, hk, rfl, hrun⟩ := hrel
          by_cases hlt : k < more.length
          · have hx : more[k]? = some more[k] := List.getElem?_eq_getElem hlt
            generalize more[k] = ks at hx
            obtain ⟨A', cap', e', _, _, h3⟩ := HM.out.below hrun.below
            injection e' with e1 _ e3
            subst e1 e3
            obtain ⟨a, u, rfl, ha, k0, hu⟩ := h3 k ks hx
            obtain ⟨Au, cu, rfl, hu1, hu2, _⟩ := id hu
            have hi : (k : Int) < (more.length : Int) := by omega
            have HLT := Lib.hid hlt
            have HX := Lib.hid hx
            have HRUN := Lib.hid hrun
            by_cases h10 : k < 10
            · have l10 : (k : Int) < 10 := by omega
              have HSO := Lib.hid (some_any hu)
              have HK := Lib.hid h10
              clear h3 hx hu hrun hlt h10 hk
              go_wp2_with fail
              refine (HSO.out).mono ?_
              rintro e w2 ⟨v2, rfl, hr2, _, hb2⟩
              obtain ⟨A4, c4, rfl, _⟩ := id hr2.form
              have HA := Lib.hid ((HRUN.out.keep hb2).add hr2 (Nat.le_trans (some_len ks) (by omega)) (by have := adds_len more k; have := HNN.out; rw [List.length_append]; omega))
              clear hr2 hb2 HSO
              go_wp2_with fail
              refine (HA.out).mono ?_
              rintro e w3 ⟨rfl, r3⟩
              have HR3 : Hid (Run w w3 h 0 (C ++ addsP more (k + 1)) bx) := Lib.hid (by rw [adds_in HX.out HK.out, ← List.append_assoc]; exact r3)
              clear r3 HA
              go_wp2_with fail
              go_roundw
              case rel => exact ⟨k + 1, HLT.out, by go_num, HR3.out⟩
              case measure => have := HLT.out; simp [intOf]; omega
            · have l10 : ¬ (k : Int) < 10 := by omega
              have HR3 : Hid (Run w wr h 0 (C ++ addsP more (k + 1)) bx) := Lib.hid (by rw [adds_out h10]; exact hrun)
              clear h3 hx hu hrun hlt h10 hk
              go_wp2_with fail
              go_roundw
              case rel => exact ⟨k + 1, HLT.out, by go_num, HR3.out⟩
              case measure => have := HLT.out; simp [intOf]; omega
          · obtain rfl : k = more.length := by omega
            have hch := hrun.check (since := (i : Nat)) (HROW.out _ (fun p hp => (hrun.box p hp).1)) (Nat.le_trans (some_len R) (by omega))
            rw [HEZ.out] at hch
            have HCH := Lib.hid hch
            clear hch hrun hlt hk HR6
            go_wp2_with fail
            refine (HCH.out).mono ?_
            rintro e w7 ⟨rfl, r7, _⟩
            have hch := r7.check (since := (N : Nat)) (HROW.out _ (fun p hp => (r7.box p hp).1)) (Nat.le_trans (some_len R) (by omega))
            rw [HEY.out] at hch
            have HCH2 := Lib.hid hch
            clear hch r7 HCH
            go_wp2_with fail
            refine (HCH2.out).mono ?_
            rintro e w8 ⟨rfl, r8, _⟩
            have HB8 := Lib.hid r8.below
            have HAW := Lib.hid (awake_any (HG.out.below r8.below))
            have hxyz := HXYZ.out
            clear r8 HCH2
            rcases hxyz with ⟨rfl, rfl, rfl⟩ | ⟨rfl, rfl, rfl⟩ | ⟨rfl, rfl, rfl⟩ | ⟨rfl, rfl, rfl⟩
            all_goals
              go_wp2_with fail
              refine (HAW.out).mono ?_
              rintro e w9 ⟨rfl, hb9⟩
              have HB9 := Lib.hid (HB8.out.trans (hb9.mono HB8.out.size))
              clear hb9 HAW
              go_wp2_with fail
              go_ret
              exact ⟨rfl, HB9.out⟩
end Go.Proofs.YthphbhplgngnnaaDoor
