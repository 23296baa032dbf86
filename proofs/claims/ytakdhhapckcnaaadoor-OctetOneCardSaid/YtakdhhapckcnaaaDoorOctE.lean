/- Two lists of texts that are the same. -/
import Derived.Test.YtakdhhapckcnaaaDoorOctD
set_option linter.unusedSimpArgs false
set_option linter.unusedVariables false
set_option linter.unnecessarySimpa false
namespace Go.Proofs.YtakdhhapckcnaaaDoor
open Go.RowKit

set_option maxRecDepth 100000 in
set_option maxHeartbeats 2000000 in
theorem same_any {w : World} {v1 v2 : Value} {ss : List ByteArray} (h1 : TxtIs w v1 ss) (h2 : TxtIs w v2 ss) : Calls Tryd.prog 52 #[v1, v2] w fun e w' => e = .returned (.bool true) ∧ Below w.heap.size w w' := by
  rcases h1 with ⟨rfl, rfl⟩ | ⟨a, cap, rfl, hlc, hcm, hal, h6⟩
  · rcases h2 with ⟨rfl, _⟩ | ⟨a2, cap2, rfl, hlc2, hcm2, hal2, h62⟩
    · go_enter Tryd.func52, Tryd.ntmps52
      go_wp2
      refine wp_loop_rounds 1 ?_
      rw [rounds_succ]
      go_wp2
      go_ret
      exact ⟨rfl, Below.refl _ _⟩
    · simp only [List.length_nil] at *
      clear h62
      go_enter Tryd.func52, Tryd.ntmps52
      go_wp2
      refine wp_loop_rounds 1 ?_
      rw [rounds_succ]
      go_wp2
      go_ret
      exact ⟨rfl, Below.refl _ _⟩
  · by_cases hz : ss = []
    · subst hz
      clear h6
      have e2 : ∃ A c, v2 = .slice A 0 c := by
        rcases h2 with ⟨rfl, _⟩ | ⟨a2, cap2, rfl, _⟩
        · exact ⟨_, _, rfl⟩
        · exact ⟨_, _, rfl⟩
      obtain ⟨A, c, rfl⟩ := e2
      simp only [List.length_nil] at *
      go_enter Tryd.func52, Tryd.ntmps52
      go_wp2
      refine wp_loop_rounds 1 ?_
      rw [rounds_succ]
      go_wp2
      go_ret
      exact ⟨rfl, Below.refl _ _⟩
    · rcases h2 with ⟨_, hz2⟩ | ⟨a2, cap2, rfl, hlc2, hcm2, hal2, h62⟩
      · exact absurd hz2 hz
      · unfold maxLen at hcm hcm2
        have hlm : ss.length ≤ 9223372036854775807 := by omega
        go_enter Tryd.func52, Tryd.ntmps52
        go_wp2_with fail
        go_loopw [13] (fun i wr => ∃ k : Nat, k ≤ ss.length ∧ i = .int .i64 k ∧ Below w.heap.size w wr) (fun i _ => ss.length - (intOf i).toNat)
        case atStart => exact ⟨0, by omega, rfl, Below.refl _ _⟩
        case round =>
          obtain ⟨k, hk, rfl, hb⟩ := hrel
          by_cases hlt : k < ss.length
          · have hx : ss[k]? = some ss[k] := List.getElem?_eq_getElem hlt
            generalize ss[k] = x at hx
            have c1 := (hb.cell (p := a.add k) (by rw [add_block]; exact hal)).trans (h6 k x hx)
            have c2 := (hb.cell (p := a2.add k) (by rw [add_block]; exact hal2)).trans (h62 k x hx)
            have HB := Lib.hid hb
            have hkn : (0 : Int) ≤ (k : Int) := by omega
            have hkl : (k : Int) < ss.length := by omega
            clear hx hb h6 h62 hz
            go_wp2
            go_quiet (fail)
            go_wp2
            go_roundw
            case rel => exact ⟨k + 1, by omega, by go_num, below_drewN HB.out _⟩
            case measure => simp [intOf]; omega
          · obtain rfl : k = ss.length := by omega
            have HB := Lib.hid hb
            clear hb h6 h62 hz
            go_wp2
            go_ret
            exact ⟨rfl, HB.out⟩
end Go.Proofs.YtakdhhapckcnaaaDoor
