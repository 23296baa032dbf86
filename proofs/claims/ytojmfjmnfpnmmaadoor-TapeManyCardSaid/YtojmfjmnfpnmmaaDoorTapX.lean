/- TapeMany: the walk. -/
import Derived.Test.YtojmfjmnfpnmmaaDoorTapW
import Derived.Test.YtojmfjmnfpnmmaaDoorCrcI
set_option linter.unusedSimpArgs false
set_option linter.unusedVariables false
set_option linter.unnecessarySimpa false
namespace Go.Proofs.YtojmfjmnfpnmmaaDoor
open Go.RowKit

theorem nameB_no {n : Int} (h : n < 0 ∨ 1048576 < n) : nameB n = false := by
  rw [Bool.eq_false_iff]
  intro hn
  have := nameB_iff.1 hn
  omega
set_option maxRecDepth 100000 in
set_option maxHeartbeats 4000000 in
theorem law_many {w : World} (hG : Glob w) (n0 : Int) (h00 : -9223372036854775808 ≤ n0) (h01 : n0 ≤ 9223372036854775807) {kv : Value} {l : List Int} (hl : IIs w kv l) : Calls Tryd.prog 4 #[.int .i64 n0, kv] w fun e w' => e = .returned (.bool true) ∧ Below w.heap.size w w' := by
  have HN := Lib.hid (awk_new hG (n := 5000) (by omega))
  obtain ⟨Ak, ck, rfl, hk1, hk2, hk3⟩ := hl
  have HK3 := Lib.hid (fun (i : Nat) (x : Int) (h : l[i]? = some x) (W : World) (hW : Below w.heap.size w W) => (by
    obtain ⟨a, q1, q2, q3⟩ := hk3 i x h
    exact ⟨a, q1, (hW.cell (p := a.add i) (by rw [add_block]; exact q2)).trans q3⟩ : ∃ a : Addr, Ak = some a ∧ W.cell? (a.add i) = some (.int .i64 x)))
  unfold maxLen at hk2
  obtain ⟨F, hF, hcs⟩ := tmod_cases n0 1000 (by omega)
  replace hcs : n0.tmod 1000 = (F : Int) ∨ (0 < F ∧ n0.tmod 1000 = -(F : Int)) := hcs
  have HF := Lib.hid hF
  have hF2 : (F : Int) < 1000 := by omega
  have hF3 : ¬ (F : Int) < 0 := by omega
  clear hG hk3 h00 h01
  go_enter Tryd.func4, Tryd.ntmps4
  go_wp2_with fail
  refine (HN.out).mono ?_
  rintro e w1 ⟨rfl, k1⟩
  have K1 := Lib.hid k1
  clear k1
  go_upto_if 21 with fail
  go_cut [0] (fun s0 wx => s0 = .int .i64 (F : Int) ∧ w1 = wx)
  case first =>
    rcases hcs with hcs | ⟨hi0, hcs⟩
    · go_wp2_with fail
      go_meet
      exact ⟨by first | rfl | rw [hcs], rfl⟩
    · have hneg : (-(F : Int)) < 0 := by omega
      go_wp2_with fail
      go_meet
      exact ⟨by first | rfl | rw [hcs] | (rw [hcs]; go_num), rfl⟩
  case rest =>
    obtain ⟨rfl, rfl⟩ := hcut
    clear hcs
    go_wp2_with fail
    go_loopw [7] (fun i wr => ∃ (k : Nat) (T : Tp), k ≤ 64 ∧ i = .int .i64 k ∧ Awk w w.heap.size 5000 (manA F k) T wr) (fun i _ => 64 - (intOf i).toNat)
    case atStart => exact ⟨0, _, by omega, rfl, K1.out⟩
    case round =>
      obtain ⟨k, T, hk, rfl, hinv⟩ := hrel
      by_cases hlt : k < 64
      · have q2 : IntKind.i64.wrap ((F : Int) + (k : Int)) = (F : Int) + (k : Int) := IntWalk.i64_in _ (by omega)
        have hcv := Lib.run_convert_bytes_const (P := Tryd.prog) wr 23 5 #[.int .u8 120] 1 1 Tryd.underlying23 Tryd.underlying5
        have HA0 := Lib.hid (awk_lit hinv (seg := ((F + k : Nat) : Int)) (nameB_iff.2 ⟨by omega, by omega⟩) (by rw [manA_len]; omega) (l := [120]) (cs := #[.int .u8 120]) (fr := (1, 2)) (n := 1) rfl rfl (by omega) (by rw [manA_sum]; omega))
        rw [manA_app, show ((F + k : Nat) : Int) = (F : Int) + (k : Int) from by omega] at HA0
        replace hlt : (k : Int) < 64 := by omega
        clear hinv
        go_wp2_with fail
        refine (HA0.out).mono ?_
        rintro e w2 ⟨rfl, T2, k2⟩
        have K2 := Lib.hid k2
        clear hcv k2
        go_wp2_with fail
        go_roundw
        case rel => exact ⟨k + 1, T2, by omega, by go_num, K2.out⟩
        case measure => simp [intOf]; omega
      · obtain rfl : k = 64 := by omega
        rw [show ((64 : Nat) : Int) = 64 from rfl]
        have K3 := Lib.hid hinv
        clear hinv hlt
        go_wp2_with fail
        go_loopw [39] (fun i wx => ∃ (k : Nat) (A : Abs) (T : Tp), k ≤ l.length ∧ k ≤ 20 ∧ i = .int .i64 k ∧ Named F A ∧ sumA A ≤ 64 + 64 * k ∧ Awk w w.heap.size 5000 A T wx) (fun i _ => l.length - (intOf i).toNat)
        case atStart => exact ⟨0, _, _, by omega, by omega, rfl, manA_names F 64, by rw [manA_sum]; omega, K3.out⟩
        case round =>
        obtain ⟨k, A, T, hk3, hk4, rfl, hnm, hsm, hinv⟩ := hrel
        clear hk
        by_cases hend : k < l.length ∧ k < 20
        · obtain ⟨hend1, hend2⟩ := hend
          have hlk : l[k]? = some l[k] := List.getElem?_eq_getElem hend1
          obtain ⟨ak, rfl, hck⟩ := HK3.out k _ hlk wr hinv.below
          generalize l[k] = s at hck hlk
          have HAM0 := Lib.hid (awk_many hinv hnm hsm hend2 s (cs := #[.int .u8 121]) (fr := (1, 2)) rfl)
          have hcv := Lib.run_convert_bytes_const (P := Tryd.prog) wr 23 5 #[.int .u8 121] 1 1 Tryd.underlying23 Tryd.underlying5
          have q3 : IntKind.i64.wrap ((F : Int) + 64) = (F : Int) + 64 := IntWalk.i64_in _ (by omega)
          replace hend1 : (k : Int) < (l.length : Int) := by omega
          replace hend2 : (k : Int) < 20 := by omega
          have hend3 : ¬ 20 ≤ (k : Int) := by omega
          clear hlk hinv hnm hsm
          rcases (show s < 0 ∨ 1048576 < s ∨ (0 ≤ s ∧ s ≤ 1048576 ∧ (F : Int) ≤ s ∧ s < (F : Int) + 64) ∨ (0 ≤ s ∧ s ≤ 1048576 ∧ s < (F : Int)) ∨ (0 ≤ s ∧ s ≤ 1048576 ∧ (F : Int) + 64 ≤ s) by omega) with g1 | g1 | ⟨g0, g1, g2, g3⟩ | ⟨g0, g1, g2⟩ | ⟨g0, g1, g2⟩
          · have HE : manyE F s = 2 := by unfold manyE; rw [if_pos (nameB_no (by omega))]
            have g2 : ¬ (F : Int) ≤ s := by omega
            have HAM : Hid (Calls Tryd.prog 11 #[.pointer (some ⟨w.heap.size, 0, none⟩), .int .i64 s, .slice (some ⟨wr.heap.size + 1, 0, none⟩) 1 1] (litW wr #[.int .u8 121] (1, 2) 1) fun e w' => e = .returned (.int .i64 2) ∧ ∃ A' T', Named F A' ∧ sumA A' ≤ 64 + 64 * (k + 1) ∧ Awk w w.heap.size 5000 A' T' w') := by
              have := HAM0.out
              rw [HE] at this
              exact this
            clear HE HAM0
            go_wp2_with fail
            refine (HAM.out).mono ?_
            rintro e w2 ⟨rfl, A2, T2, hn2, hs2, k2⟩
            have HR2 := Lib.hid (And.intro hn2 (And.intro hs2 k2))
            clear hn2 hs2 k2
            go_wp2_with fail
            go_roundw
            case rel => exact ⟨k + 1, A2, T2, by omega, by omega, by go_num, HR2.out.1, HR2.out.2.1, HR2.out.2.2⟩
            case measure => simp [intOf]; omega
          · have HE : manyE F s = 2 := by unfold manyE; rw [if_pos (nameB_no (by omega))]
            have g2 : (F : Int) ≤ s := by omega
            have g3 : ¬ s < (F : Int) + 64 := by omega
            have g4 : ¬ s < 0 := by omega
            have HAM : Hid (Calls Tryd.prog 11 #[.pointer (some ⟨w.heap.size, 0, none⟩), .int .i64 s, .slice (some ⟨wr.heap.size + 1, 0, none⟩) 1 1] (litW wr #[.int .u8 121] (1, 2) 1) fun e w' => e = .returned (.int .i64 2) ∧ ∃ A' T', Named F A' ∧ sumA A' ≤ 64 + 64 * (k + 1) ∧ Awk w w.heap.size 5000 A' T' w') := by
              have := HAM0.out
              rw [HE] at this
              exact this
            clear HE HAM0
            go_wp2_with fail
            refine (HAM.out).mono ?_
            rintro e w2 ⟨rfl, A2, T2, hn2, hs2, k2⟩
            have HR2 := Lib.hid (And.intro hn2 (And.intro hs2 k2))
            clear hn2 hs2 k2
            go_wp2_with fail
            go_roundw
            case rel => exact ⟨k + 1, A2, T2, by omega, by omega, by go_num, HR2.out.1, HR2.out.2.1, HR2.out.2.2⟩
            case measure => simp [intOf]; omega
          · have HE : manyE F s = 0 := by unfold manyE; rw [if_neg (by rw [nameB_iff.2 ⟨g0, g1⟩]; decide), if_pos ⟨g2, g3⟩]
            have g4 : ¬ s < 0 := by omega
            have g5 : ¬ 1048576 < s := by omega
            have HAM : Hid (Calls Tryd.prog 11 #[.pointer (some ⟨w.heap.size, 0, none⟩), .int .i64 s, .slice (some ⟨wr.heap.size + 1, 0, none⟩) 1 1] (litW wr #[.int .u8 121] (1, 2) 1) fun e w' => e = .returned (.int .i64 0) ∧ ∃ A' T', Named F A' ∧ sumA A' ≤ 64 + 64 * (k + 1) ∧ Awk w w.heap.size 5000 A' T' w') := by
              have := HAM0.out
              rw [HE] at this
              exact this
            clear HE HAM0
            go_wp2_with fail
            refine (HAM.out).mono ?_
            rintro e w2 ⟨rfl, A2, T2, hn2, hs2, k2⟩
            have HR2 := Lib.hid (And.intro hn2 (And.intro hs2 k2))
            clear hn2 hs2 k2
            go_wp2_with fail
            go_roundw
            case rel => exact ⟨k + 1, A2, T2, by omega, by omega, by go_num, HR2.out.1, HR2.out.2.1, HR2.out.2.2⟩
            case measure => simp [intOf]; omega
          · have HE : manyE F s = 5 := by unfold manyE; rw [if_neg (by rw [nameB_iff.2 ⟨g0, g1⟩]; decide), if_neg (by omega)]
            have g3 : ¬ (F : Int) ≤ s := by omega
            have g4 : ¬ s < 0 := by omega
            have g5 : ¬ 1048576 < s := by omega
            have HAM : Hid (Calls Tryd.prog 11 #[.pointer (some ⟨w.heap.size, 0, none⟩), .int .i64 s, .slice (some ⟨wr.heap.size + 1, 0, none⟩) 1 1] (litW wr #[.int .u8 121] (1, 2) 1) fun e w' => e = .returned (.int .i64 5) ∧ ∃ A' T', Named F A' ∧ sumA A' ≤ 64 + 64 * (k + 1) ∧ Awk w w.heap.size 5000 A' T' w') := by
              have := HAM0.out
              rw [HE] at this
              exact this
            clear HE HAM0
            go_wp2_with fail
            refine (HAM.out).mono ?_
            rintro e w2 ⟨rfl, A2, T2, hn2, hs2, k2⟩
            have HR2 := Lib.hid (And.intro hn2 (And.intro hs2 k2))
            clear hn2 hs2 k2
            go_wp2_with fail
            go_roundw
            case rel => exact ⟨k + 1, A2, T2, by omega, by omega, by go_num, HR2.out.1, HR2.out.2.1, HR2.out.2.2⟩
            case measure => simp [intOf]; omega
          · have HE : manyE F s = 5 := by unfold manyE; rw [if_neg (by rw [nameB_iff.2 ⟨g0, g1⟩]; decide), if_neg (by omega)]
            have g3 : (F : Int) ≤ s := by omega
            have g6 : ¬ s < (F : Int) + 64 := by omega
            have g4 : ¬ s < 0 := by omega
            have g5 : ¬ 1048576 < s := by omega
            have HAM : Hid (Calls Tryd.prog 11 #[.pointer (some ⟨w.heap.size, 0, none⟩), .int .i64 s, .slice (some ⟨wr.heap.size + 1, 0, none⟩) 1 1] (litW wr #[.int .u8 121] (1, 2) 1) fun e w' => e = .returned (.int .i64 5) ∧ ∃ A' T', Named F A' ∧ sumA A' ≤ 64 + 64 * (k + 1) ∧ Awk w w.heap.size 5000 A' T' w') := by
              have := HAM0.out
              rw [HE] at this
              exact this
            clear HE HAM0
            go_wp2_with fail
            refine (HAM.out).mono ?_
            rintro e w2 ⟨rfl, A2, T2, hn2, hs2, k2⟩
            have HR2 := Lib.hid (And.intro hn2 (And.intro hs2 k2))
            clear hn2 hs2 k2
            go_wp2_with fail
            go_roundw
            case rel => exact ⟨k + 1, A2, T2, by omega, by omega, by go_num, HR2.out.1, HR2.out.2.1, HR2.out.2.2⟩
            case measure => simp [intOf]; omega
        · have HD := Lib.hid (awk_tail1 hinv HF.out hnm (by omega))
          have q4 : IntKind.i64.wrap ((F : Int) + 1000) = (F : Int) + 1000 := IntWalk.i64_in _ (by omega)
          by_cases hend1 : k < l.length
          · have hend2 : (20 : Int) ≤ (k : Int) := by omega
            obtain ⟨ak, rfl, hck⟩ := HK3.out k _ (List.getElem?_eq_getElem hend1) wr hinv.below
            generalize l[k] = s at hck
            replace hend1 : (k : Int) < (l.length : Int) := by omega
            clear hinv hnm hsm hend
            go_wp2_with fail
            refine (HD.out).mono ?_
            rintro e w3 ⟨rfl, A3, T3, hn3, hs3, k3⟩
            have HT2 := Lib.hid (awk_tail2 k3 HF.out hn3 hs3)
            clear hn3 hs3 k3
            go_wp2_with fail
            refine (HT2.out).mono ?_
            rintro e w4 ⟨rfl, A4, T4, hl4, hm4, hs4, k4⟩
            have HT3 := Lib.hid (awk_tail3 k4 HF.out hl4 hm4 hs4)
            have HL4 := Lib.hid hl4
            clear hl4 hm4 hs4 k4
            go_wp2_with fail
            refine (HT3.out).mono ?_
            rintro e w5 ⟨rfl, k5⟩
            have K5 := Lib.hid k5
            have HSG := Lib.hid (awk_tail4 k5 HL4.out)
            clear k5
            go_wp2_with fail
            refine (HSG.out).mono ?_
            rintro e w6 ⟨Av6, c6, rfl, hb6⟩
            have K6 := Lib.hid (K5.out.keep hb6)
            have HAW := Lib.hid (awake4 K6.out.globW)
            clear hb6
            go_wp2_with fail
            refine (HAW.out).mono ?_
            rintro e w7 ⟨rfl, hb7⟩
            have HB7 := Lib.hid (K6.out.below.trans (hb7.mono K6.out.below.size))
            clear hb7
            go_wp2_with fail
            go_ret
            exact ⟨rfl, HB7.out⟩
          · obtain rfl : k = l.length := by omega
            clear hinv hnm hsm hend
            go_wp2_with fail
            refine (HD.out).mono ?_
            rintro e w3 ⟨rfl, A3, T3, hn3, hs3, k3⟩
            have HT2 := Lib.hid (awk_tail2 k3 HF.out hn3 hs3)
            clear hn3 hs3 k3
            go_wp2_with fail
            refine (HT2.out).mono ?_
            rintro e w4 ⟨rfl, A4, T4, hl4, hm4, hs4, k4⟩
            have HT3 := Lib.hid (awk_tail3 k4 HF.out hl4 hm4 hs4)
            have HL4 := Lib.hid hl4
            clear hl4 hm4 hs4 k4
            go_wp2_with fail
            refine (HT3.out).mono ?_
            rintro e w5 ⟨rfl, k5⟩
            have K5 := Lib.hid k5
            have HSG := Lib.hid (awk_tail4 k5 HL4.out)
            clear k5
            go_wp2_with fail
            refine (HSG.out).mono ?_
            rintro e w6 ⟨Av6, c6, rfl, hb6⟩
            have K6 := Lib.hid (K5.out.keep hb6)
            have HAW := Lib.hid (awake4 K6.out.globW)
            clear hb6
            go_wp2_with fail
            refine (HAW.out).mono ?_
            rintro e w7 ⟨rfl, hb7⟩
            have HB7 := Lib.hid (K6.out.below.trans (hb7.mono K6.out.below.size))
            clear hb7
            go_wp2_with fail
            go_ret
            exact ⟨rfl, HB7.out⟩
end Go.Proofs.YtojmfjmnfpnmmaaDoor
