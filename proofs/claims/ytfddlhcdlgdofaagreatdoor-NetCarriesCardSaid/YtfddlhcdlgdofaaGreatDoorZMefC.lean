/- mess.Answer and Same (genmefc.py wrote it.) -/
import Derived.Test.YtfddlhcdlgdofaaGreatDoorZMefA
set_option linter.unusedSimpArgs false
set_option linter.unusedVariables false
set_option linter.unnecessarySimpa false
namespace Go.Proofs.YtfddlhcdlgdofaaGreatDoor
open Go.RowKit Go.Shelf

def ansM (m : MsgV) (k : Int) : MsgV := ⟨k, m.tt, m.fr, m.g, m.nd, if k = 11 ∨ k = 12 ∨ k = 14 then m.tr else 0, 0, 0, 0, [], []⟩
theorem NumsAt.nil (w : World) : NumsAt w (.slice none 0 0) [] := ⟨none, 0, rfl, Nat.le_refl _, by unfold maxLen; omega, fun i x h => by simp at h⟩
theorem OpsAt.nil (w : World) : OpsAt w (.slice none 0 0) [] := ⟨none, 0, rfl, Nat.le_refl _, by unfold maxLen; omega, fun i x h => by simp at h⟩
set_option maxRecDepth 100000 in
set_option maxHeartbeats 4000000 in
theorem Answer_any {w : World} {v : Value} {m : MsgV} (h : MsgIs w v m) (k : Int) :
    Calls Tryz.prog 80 #[v, .int .i64 k] w fun e w' => ∃ v', e = .returned v' ∧ MsgIs w' v' (ansM m k) ∧ Below w.heap.size w w' := by
  obtain ⟨tA, tc, oA, oc, rfl, _⟩ := h
  obtain ⟨kd, fr, tt, g, nd, tr, lw, co, ti, tl, os⟩ := m
  simp only
  have HE : Hid (∀ W t, t = (if k = 11 ∨ k = 12 ∨ k = 14 then tr else 0) → MsgIs W (.agg #[.int .i64 k, .int .i64 tt, .int .i64 fr, .int .i64 g, .int .i64 nd, .int .i64 t, .int .i64 0, .int .i64 0, .int .i64 0, .slice none 0 0, .slice none 0 0]) (ansM ⟨kd, fr, tt, g, nd, tr, lw, co, ti, tl, os⟩ k)) := Lib.hid (fun W t e => by
    subst e
    exact ⟨none, 0, none, 0, rfl, NumsAt.nil _, OpsAt.nil _, fun o h => by cases h⟩)
  by_cases hk : k = 11 ∨ k = 12 ∨ k = 14
  · have HT := Lib.hid (HE.out · tr (by rw [if_pos hk]))
    rcases hk with rfl | rfl | rfl
    all_goals
      clear HE
      go_enter Tryz.func80, Tryz.ntmps80
      go_wp2_with fail
      refine bodyPost_ret (v := .agg #[_, .int .i64 tt, .int .i64 fr, .int .i64 g, .int .i64 nd, .int .i64 tr, .int .i64 0, .int .i64 0, .int .i64 0, .slice none 0 0, .slice none 0 0]) (by simp [results, Tryz.results80, go_sem]) rfl ⟨_, rfl, HT.out _, ?_⟩
      exact ((((Below.refl _ _).alloc (Nat.le_refl _) _).alloc (by simp) _).alloc (by simp; omega) _)
  · have HT := Lib.hid (HE.out · 0 (by rw [if_neg hk]))
    have g1 : ¬ k = 11 := fun h => hk (.inl h)
    have g2 : ¬ k = 12 := fun h => hk (.inr (.inl h))
    have g3 : ¬ k = 14 := fun h => hk (.inr (.inr h))
    clear HE hk
    go_enter Tryz.func80, Tryz.ntmps80
    go_wp2_with fail
    refine bodyPost_ret (v := .agg #[.int .i64 k, .int .i64 tt, .int .i64 fr, .int .i64 g, .int .i64 nd, .int .i64 0, .int .i64 0, .int .i64 0, .int .i64 0, .slice none 0 0, .slice none 0 0]) (by simp [results, Tryz.results80, go_sem]) rfl ⟨_, rfl, HT.out _, ?_⟩
    exact ((((Below.refl _ _).alloc (Nat.le_refl _) _).alloc (by simp) _).alloc (by simp; omega) _)
end Go.Proofs.YtfddlhcdlgdofaaGreatDoor
