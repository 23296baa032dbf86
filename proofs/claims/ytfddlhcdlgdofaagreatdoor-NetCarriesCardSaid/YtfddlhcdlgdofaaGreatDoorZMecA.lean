/- mess.of, fits, May. -/
import Derived.Test.YtfddlhcdlgdofaaGreatDoorZMebC
import Derived.Test.YtfddlhcdlgdofaaGreatDoorZMeaQ
set_option linter.unusedSimpArgs false
set_option linter.unusedVariables false
set_option linter.unnecessarySimpa false
namespace Go.Proofs.YtfddlhcdlgdofaaGreatDoor
open Go.RowKit Go.Shelf

set_option maxRecDepth 100000 in
set_option maxHeartbeats 1000000 in
theorem fits_int (b : Bool) (n lo hi : Int) (w : World) :
    Calls Tryz.prog 113 #[.bool b, .int .i64 n, .int .i64 lo, .int .i64 hi] w fun e w' => e = .returned (.bool (fitP b n lo hi)) ∧ w = w' := by
  cases b with
  | false =>
    go_enter Tryz.func113, Tryz.ntmps113
    go_wp2_with fail
    go_ret
    exact ⟨ret_bool (by unfold fitP; rw [if_neg (by decide)]; cases h : (n == 0) <;> simp_all), rfl⟩
  | true =>
    by_cases h : lo ≤ n
    · have HK : Hid (fitP true n lo hi = decide (n ≤ hi)) := Lib.hid (by unfold fitP; simp [h])
      go_enter Tryz.func113, Tryz.ntmps113
      go_wp2_with fail
      go_ret
      exact ⟨ret_bool HK.out.symm, rfl⟩
    · have HK : Hid (fitP true n lo hi = false) := Lib.hid (by unfold fitP; simp [h])
      go_enter Tryz.func113, Tryz.ntmps113
      go_wp2_with fail
      go_ret
      exact ⟨ret_bool HK.out.symm, rfl⟩
set_option maxRecDepth 100000 in
set_option maxHeartbeats 1000000 in
theorem fits_i64 (b : Bool) (n lo hi : Int) (w : World) :
    Calls Tryz.prog 115 #[.bool b, .int .i64 n, .int .i64 lo, .int .i64 hi] w fun e w' => e = .returned (.bool (fitP b n lo hi)) ∧ w = w' := by
  cases b with
  | false =>
    go_enter Tryz.func115, Tryz.ntmps115
    go_wp2_with fail
    go_ret
    exact ⟨ret_bool (by unfold fitP; rw [if_neg (by decide)]; cases h : (n == 0) <;> simp_all), rfl⟩
  | true =>
    by_cases h : lo ≤ n
    · have HK : Hid (fitP true n lo hi = decide (n ≤ hi)) := Lib.hid (by unfold fitP; simp [h])
      go_enter Tryz.func115, Tryz.ntmps115
      go_wp2_with fail
      go_ret
      exact ⟨ret_bool HK.out.symm, rfl⟩
    · have HK : Hid (fitP true n lo hi = false) := Lib.hid (by unfold fitP; simp [h])
      go_enter Tryz.func115, Tryz.ntmps115
      go_wp2_with fail
      go_ret
      exact ⟨ret_bool HK.out.symm, rfl⟩
set_option maxRecDepth 100000 in
set_option maxHeartbeats 1000000 in
theorem fits_errno (b : Bool) (n lo hi : Int) (w : World) :
    Calls Tryz.prog 114 #[.bool b, .int .i64 n, .int .i64 lo, .int .i64 hi] w fun e w' => e = .returned (.bool (fitP b n lo hi)) ∧ w = w' := by
  cases b with
  | false =>
    go_enter Tryz.func114, Tryz.ntmps114
    go_wp2_with fail
    go_ret
    exact ⟨ret_bool (by unfold fitP; rw [if_neg (by decide)]; cases h : (n == 0) <;> simp_all), rfl⟩
  | true =>
    by_cases h : lo ≤ n
    · have HK : Hid (fitP true n lo hi = decide (n ≤ hi)) := Lib.hid (by unfold fitP; simp [h])
      go_enter Tryz.func114, Tryz.ntmps114
      go_wp2_with fail
      go_ret
      exact ⟨ret_bool HK.out.symm, rfl⟩
    · have HK : Hid (fitP true n lo hi = false) := Lib.hid (by unfold fitP; simp [h])
      go_enter Tryz.func114, Tryz.ntmps114
      go_wp2_with fail
      go_ret
      exact ⟨ret_bool HK.out.symm, rfl⟩
theorem not_kind {k : Int} (h : ¬ ((1 ≤ k ∧ k ≤ 4) ∨ (11 ≤ k ∧ k ≤ 16))) : kindM k = false ∧ tryM k = false ∧ lowM k = false ∧ opsM k = false ∧ toldM k = false ∧ codeM k = false := by
  unfold kindM tryM lowM opsM toldM codeM
  simp only [decide_eq_false_iff_not]
  omega
set_option maxRecDepth 100000 in
set_option maxHeartbeats 4000000 in
theorem of_any' (k : Int) (w : World) :
    Calls Tryz.prog 112 #[.int .i64 k] w fun e w' => e = .returned (.tuple #[.agg #[.bool (tryM k), .bool (lowM k), .bool (opsM k), .bool (toldM k), .bool (codeM k)], .bool (kindM k)]) ∧ Below w.heap.size w w' := by
  have hat := alloc_at w (.cells #[.bool false, .bool false, .bool false, .bool false, .bool false] 182)
  have HB : Hid (Below w.heap.size w (w.alloc (.cells #[.bool false, .bool false, .bool false, .bool false, .bool false] 182))) := Lib.hid (below_new _)
  clear hat
  by_cases hk : (1 ≤ k ∧ k ≤ 4) ∨ (11 ≤ k ∧ k ≤ 16)
  · have hcs : k = 1 ∨ k = 2 ∨ k = 3 ∨ k = 4 ∨ k = 11 ∨ k = 12 ∨ k = 13 ∨ k = 14 ∨ k = 15 ∨ k = 16 := by omega
    clear hk
    rcases hcs with rfl | rfl | rfl | rfl | rfl | rfl | rfl | rfl | rfl | rfl
    all_goals
      go_enter Tryz.func112, Tryz.ntmps112
      go_wp2_with fail
      refine bodyPost_ret (v := _) (by simp [results, Tryz.results112, go_sem, tryM, lowM, opsM, toldM, codeM, kindM]) rfl ⟨rfl, ?_⟩
      exact below_new _
  · obtain ⟨h1, h2, h3, h4, h5, h6⟩ := not_kind hk
    have g1 : ¬ k = 1 := by omega
    have g2 : ¬ k = 2 := by omega
    have g3 : ¬ k = 3 := by omega
    have g4 : ¬ k = 4 := by omega
    have g5 : ¬ k = 11 := by omega
    have g6 : ¬ k = 12 := by omega
    have g7 : ¬ k = 13 := by omega
    have g8 : ¬ k = 14 := by omega
    have g9 : ¬ k = 15 := by omega
    have g10 : ¬ k = 16 := by omega
    rw [h1, h2, h3, h4, h5, h6]
    clear hk h1 h2 h3 h4 h5 h6
    go_enter Tryz.func112, Tryz.ntmps112
    go_wp2_with fail
    refine bodyPost_ret (v := .tuple #[.agg #[.bool false, .bool false, .bool false, .bool false, .bool false], .bool false]) (by simp [results, Tryz.results112, go_sem]) rfl ⟨rfl, ?_⟩
    exact below_new _
end Go.Proofs.YtfddlhcdlgdofaaGreatDoor
