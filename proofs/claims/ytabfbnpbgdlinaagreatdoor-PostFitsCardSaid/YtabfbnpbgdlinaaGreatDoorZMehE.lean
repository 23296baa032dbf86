/- The document's own May of messages, at any message. -/
import Derived.Test.YtabfbnpbgdlinaaGreatDoorZMehDA
set_option linter.unusedSimpArgs false
set_option linter.unusedVariables false
set_option linter.unnecessarySimpa false
namespace Go.Proofs.YtabfbnpbgdlinaaGreatDoor
open Go.RowKit Go.Shelf

set_option maxRecDepth 100000 in
set_option maxHeartbeats 4000000 in
theorem rMay_none {w : World} {v : Value} {m : MsgV} (h : MsgIs w v m) (hg : ¬ ((1 ≤ m.kd ∧ m.kd ≤ 4) ∨ (11 ≤ m.kd ∧ m.kd ≤ 16))) :
    Calls Tryz.prog 78 #[v] w fun e w' => e = .returned (.bool (mayM m)) ∧ Below w.heap.size w w' := by
  obtain ⟨tA, tc, oA, oc, rfl, ht, ho, hk⟩ := h
  obtain ⟨kd, fr, tt, g, nd, tr, lw, co, ti, tl, os⟩ := m
  simp only at hg ⊢
  have HHS := Lib.hid (fun W => rHas_none hg W)
  have HE : Hid (mayM ⟨kd, fr, tt, g, nd, tr, lw, co, ti, tl, os⟩ = false) := Lib.hid (by
    unfold mayM
    simp only
    rw [(not_kind hg).1]
    rfl)
  have HB := Lib.hid (below_new (w := w) (.cells #[.int .i64 kd, .int .i64 fr, .int .i64 tt, .int .i64 g, .int .i64 nd, .int .i64 tr, .int .i64 lw, .int .i64 co, .int .i64 ti, .slice tA tl.length tc, .slice oA os.length oc] 37))
  clear hg ht ho hk
  go_enter Tryz.func78, Tryz.ntmps78
  go_wp2_with fail
  refine (HHS.out _).mono ?_
  rintro e w1 ⟨rfl, rfl⟩
  go_wp2_with fail
  go_ret
  exact ⟨ret_bool HE.out.symm, HB.out⟩
theorem rMay_any {w : World} {v : Value} {m : MsgV} (h : MsgIs w v m) (hti : m.ti ≤ 9223372036854775807) :
    Calls Tryz.prog 78 #[v] w fun e w' => e = .returned (.bool (mayM m)) ∧ Below w.heap.size w w' := by
  by_cases hg : (1 ≤ m.kd ∧ m.kd ≤ 4) ∨ (11 ≤ m.kd ∧ m.kd ≤ 16)
  · have hcs : (m.kd = 1 ∨ m.kd = 4) ∨ m.kd = 2 ∨ m.kd = 3 ∨ m.kd = 11 ∨ (m.kd = 12 ∨ m.kd = 14) ∨ (m.kd = 13 ∨ m.kd = 15 ∨ m.kd = 16) := by omega
    rcases hcs with hc | hc | hc | hc | hc | hc
    · exact rMay_A h (by simpa using hc) hti
    · exact rMay_B h (by simpa using hc) hti
    · exact rMay_C h (by simpa using hc) hti
    · exact rMay_D h (by simpa using hc) hti
    · exact rMay_E h (by simpa using hc) hti
    · exact rMay_F h (by simpa using hc) hti
  · exact rMay_none h hg
end Go.Proofs.YtabfbnpbgdlinaaGreatDoor
