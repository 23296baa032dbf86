/- mess.Answer and Same (genmefc.py wrote it.) -/
import Derived.Test.YtfaaeacgmlklhaaGreatDoorZMefA
set_option linter.unusedSimpArgs false
set_option linter.unusedVariables false
set_option linter.unnecessarySimpa false
namespace Go.Proofs.YtfaaeacgmlklhaaGreatDoor
open Go.RowKit Go.Shelf

def ansM (m : MsgV) (k : Int) : MsgV := ⟨k, m.tt, m.fr, m.g, m.nd, if k = 11 ∨ k = 12 ∨ k = 14 then m.tr else 0, 0, 0, 0, [], []⟩
theorem NumsAt.nil (w : World) : NumsAt w (.slice none 0 0) [] := ⟨none, 0, rfl, Nat.le_refl _, by unfold maxLen; omega, fun i x h => by simp at h⟩
theorem OpsAt.nil (w : World) : OpsAt w (.slice none 0 0) [] := ⟨none, 0, rfl, Nat.le_refl _, by unfold maxLen; omega, fun i x h => by simp at h⟩
set_option maxRecDepth 100000 in
set_option maxHeartbeats 4000000 in
theorem Answer_any {w : World} {v : Value} {m : MsgV} (h : MsgIs w v m) (k : Int) :
    Calls Tryz.prog 38 #[v, .int .i64 k] w fun e w' => ∃ v', e = .returned v' ∧ MsgIs w' v' (ansM m k) ∧ Below w.heap.size w w' := by
  obtain ⟨tA, tc, oA, oc, rfl, _⟩ := h
  obtain ⟨kd, fr, tt, g, nd, tr, lw, co, ti, tl, os⟩ := m
  simp only
  have HE : Hid (∀ W t, t = (if k = 11 ∨ k = 12 ∨ k = 14 then tr else 0) → MsgIs W (.agg #[.int .i64 k, .int .i64 tt, .int .i64 fr, .int .i64 g, .int .i64 nd, .int .i64 t, .int .i64 0, .int .i64 0, .int .i64 0, .slice none 0 0, .slice none 0 0]) (ansM ⟨kd, fr, tt, g, nd, tr, lw, co, ti, tl, os⟩ k)) := Lib.hid (fun W t e => by
    subst e
    exact ⟨none, 0, none, 0, rfl, NumsAt.nil _, OpsAt.nil _, fun o h => by cases h⟩)
  by_cases hk : k = 11 ∨ k = 12 ∨ k = 14
  · have HT := Lib.hid (HE.out · tr (by rw [if_pos hk]))
    rcases hk with rfl | rfl | rfl
    all_goals
      clear HE
      go_enter Tryz.func38, Tryz.ntmps38
      go_wp2_with fail
      refine bodyPost_ret (v := .agg #[_, .int .i64 tt, .int .i64 fr, .int .i64 g, .int .i64 nd, .int .i64 tr, .int .i64 0, .int .i64 0, .int .i64 0, .slice none 0 0, .slice none 0 0]) (by simp [results, Tryz.results38, go_sem]) rfl ⟨_, rfl, HT.out _, ?_⟩
      exact ((((Below.refl _ _).alloc (Nat.le_refl _) _).alloc (by simp) _).alloc (by simp; omega) _)
  · have HT := Lib.hid (HE.out · 0 (by rw [if_neg hk]))
    have g1 : ¬ k = 11 := fun h => hk (.inl h)
    have g2 : ¬ k = 12 := fun h => hk (.inr (.inl h))
    have g3 : ¬ k = 14 := fun h => hk (.inr (.inr h))
    clear HE hk
    go_enter Tryz.func38, Tryz.ntmps38
    go_wp2_with fail
    refine bodyPost_ret (v := .agg #[.int .i64 k, .int .i64 tt, .int .i64 fr, .int .i64 g, .int .i64 nd, .int .i64 0, .int .i64 0, .int .i64 0, .int .i64 0, .slice none 0 0, .slice none 0 0]) (by simp [results, Tryz.results38, go_sem]) rfl ⟨_, rfl, HT.out _, ?_⟩
    exact ((((Below.refl _ _).alloc (Nat.le_refl _) _).alloc (by simp) _).alloc (by simp; omega) _)
set_option maxRecDepth 100000 in
set_option maxHeartbeats 8000000 in
theorem Same_any {w : World} {v u : Value} {m n : MsgV} (h : MsgIs w v m) (h2 : MsgIs w u n) :
    Calls Tryz.prog 39 #[v, u] w fun e w' => e = .returned (.bool (decide (m = n))) ∧ Below w.heap.size w w' := by
  obtain ⟨tA, tc, oA, oc, rfl, ht, ho, _⟩ := h
  obtain ⟨tA', tc', oA', oc', rfl, ht', ho', _⟩ := h2
  obtain ⟨kd, fr, tt, g, nd, tr, lw, co, ti, tl, os⟩ := m
  obtain ⟨kd', fr', tt', g', nd', tr', lw', co', ti', tl', os'⟩ := n
  simp only at ht ho ht' ho' ⊢
  obtain ⟨rb, hrb⟩ : ∃ b, decide ((⟨kd, fr, tt, g, nd, tr, lw, co, ti, tl, os⟩ : MsgV) = ⟨kd', fr', tt', g', nd', tr', lw', co', ti', tl', os'⟩) = b := ⟨_, rfl⟩
  rw [hrb]
  have HRB := Lib.hid hrb
  clear hrb
  have hb1 := below_new (w := w) (.cells #[.int .i64 kd, .int .i64 fr, .int .i64 tt, .int .i64 g, .int .i64 nd, .int .i64 tr, .int .i64 lw, .int .i64 co, .int .i64 ti, .slice tA tl.length tc, .slice oA os.length oc] 33)
  have hb2 := hb1.trans ((below_new (w := w.alloc (.cells #[.int .i64 kd, .int .i64 fr, .int .i64 tt, .int .i64 g, .int .i64 nd, .int .i64 tr, .int .i64 lw, .int .i64 co, .int .i64 ti, .slice tA tl.length tc, .slice oA os.length oc] 33)) (.cells #[.int .i64 kd', .int .i64 fr', .int .i64 tt', .int .i64 g', .int .i64 nd', .int .i64 tr', .int .i64 lw', .int .i64 co', .int .i64 ti', .slice tA' tl'.length tc', .slice oA' os'.length oc'] 33)).mono hb1.size)
  have HB := Lib.hid hb2
  have HT := Lib.hid (eqnums_any (ht.below hb2) (ht'.below hb2))
  have HO := Lib.hid (fun W (hW : Below w.heap.size w W) => eqops_any (ho.below hW) (ho'.below hW))
  have hat1 := alloc_at w (.cells #[.int .i64 kd, .int .i64 fr, .int .i64 tt, .int .i64 g, .int .i64 nd, .int .i64 tr, .int .i64 lw, .int .i64 co, .int .i64 ti, .slice tA tl.length tc, .slice oA os.length oc] 33)
  have hat2 := alloc_at (w.alloc (.cells #[.int .i64 kd, .int .i64 fr, .int .i64 tt, .int .i64 g, .int .i64 nd, .int .i64 tr, .int .i64 lw, .int .i64 co, .int .i64 ti, .slice tA tl.length tc, .slice oA os.length oc] 33)) (.cells #[.int .i64 kd', .int .i64 fr', .int .i64 tt', .int .i64 g', .int .i64 nd', .int .i64 tr', .int .i64 lw', .int .i64 co', .int .i64 ti', .slice tA' tl'.length tc', .slice oA' os'.length oc'] 33)
  have HA1 := Lib.hid (((below_new (w := w.alloc (.cells #[.int .i64 kd, .int .i64 fr, .int .i64 tt, .int .i64 g, .int .i64 nd, .int .i64 tr, .int .i64 lw, .int .i64 co, .int .i64 ti, .slice tA tl.length tc, .slice oA os.length oc] 33)) (.cells #[.int .i64 kd', .int .i64 fr', .int .i64 tt', .int .i64 g', .int .i64 nd', .int .i64 tr', .int .i64 lw', .int .i64 co', .int .i64 ti', .slice tA' tl'.length tc', .slice oA' os'.length oc'] 33)).block w.heap.size (heap_lt hat1)).trans hat1)
  have HA2 := Lib.hid hat2
  clear ht ho ht' ho' hb1 hb2 hat1 hat2
  by_cases he : kd = kd'
  case neg =>
    have hq : (kd == kd') = false := beq_eq_false_iff_ne.2 he
    have HN := Lib.hid he
    clear he
    go_enter Tryz.func39, Tryz.ntmps39
    go_wp2_with fail
    go_ret
    exact ⟨ret_bool (by rw [← HRB.out]; exact (decide_eq_false (fun e => HN.out (by injection e))).symm), HB.out⟩
  subst he
  by_cases he : fr = fr'
  case neg =>
    have hq : (fr == fr') = false := beq_eq_false_iff_ne.2 he
    have HN := Lib.hid he
    clear he
    go_enter Tryz.func39, Tryz.ntmps39
    go_wp2_with fail
    go_ret
    exact ⟨ret_bool (by rw [← HRB.out]; exact (decide_eq_false (fun e => HN.out (by injection e))).symm), HB.out⟩
  subst he
  by_cases he : tt = tt'
  case neg =>
    have hq : (tt == tt') = false := beq_eq_false_iff_ne.2 he
    have HN := Lib.hid he
    clear he
    go_enter Tryz.func39, Tryz.ntmps39
    go_wp2_with fail
    go_ret
    exact ⟨ret_bool (by rw [← HRB.out]; exact (decide_eq_false (fun e => HN.out (by injection e))).symm), HB.out⟩
  subst he
  by_cases he : g = g' ∧ nd = nd' ∧ tr = tr'
  case neg =>
    have HQ := Lib.hid (fun W => run_eql_about g nd tr g' nd' tr' W)
    rw [show decide (g = g' ∧ nd = nd' ∧ tr = tr') = false from decide_eq_false he] at HQ
    have hq := HQ.out
    have HN := Lib.hid he
    clear he
    go_enter Tryz.func39, Tryz.ntmps39
    go_wp2_with fail
    go_ret
    exact ⟨ret_bool (by rw [← HRB.out]; exact (decide_eq_false (fun e => HN.out (by injection e; exact ⟨by assumption, by assumption, by assumption⟩))).symm), HB.out⟩
  obtain ⟨rfl, rfl, rfl⟩ := he
  by_cases he : lw = lw'
  case neg =>
    have hq : (lw == lw') = false := beq_eq_false_iff_ne.2 he
    have HN := Lib.hid he
    clear he
    go_enter Tryz.func39, Tryz.ntmps39
    go_wp2_with fail
    go_ret
    exact ⟨ret_bool (by rw [← HRB.out]; exact (decide_eq_false (fun e => HN.out (by injection e))).symm), HB.out⟩
  subst he
  by_cases he : co = co'
  case neg =>
    have hq : (co == co') = false := beq_eq_false_iff_ne.2 he
    have HN := Lib.hid he
    clear he
    go_enter Tryz.func39, Tryz.ntmps39
    go_wp2_with fail
    go_ret
    exact ⟨ret_bool (by rw [← HRB.out]; exact (decide_eq_false (fun e => HN.out (by injection e))).symm), HB.out⟩
  subst he
  by_cases he : ti = ti'
  case neg =>
    have hq : (ti == ti') = false := beq_eq_false_iff_ne.2 he
    have HN := Lib.hid he
    clear he
    go_enter Tryz.func39, Tryz.ntmps39
    go_wp2_with fail
    go_ret
    exact ⟨ret_bool (by rw [← HRB.out]; exact (decide_eq_false (fun e => HN.out (by injection e))).symm), HB.out⟩
  subst he
  obtain ⟨tb, htb⟩ : ∃ b, decide (tl = tl') = b := ⟨_, rfl⟩
  rw [htb] at HT
  obtain ⟨ob, hob⟩ : ∃ b, decide (os = os') = b := ⟨_, rfl⟩
  rw [hob] at HO
  have HR := Lib.hid (And.intro htb hob)
  obtain ⟨tn, htn⟩ : ∃ k, tl.length = k := ⟨_, rfl⟩
  obtain ⟨tn', htn'⟩ : ∃ k, tl'.length = k := ⟨_, rfl⟩
  obtain ⟨on, hon⟩ : ∃ k, os.length = k := ⟨_, rfl⟩
  obtain ⟨on', hon'⟩ : ∃ k, os'.length = k := ⟨_, rfl⟩
  rw [htn, htn'] at HT
  rw [hon, hon'] at HO HT
  rw [htn, hon, htn', hon'] at HB HA1 HA2 ⊢
  clear htb hob htn htn' hon hon'
  go_enter Tryz.func39, Tryz.ntmps39
  go_wp2_with fail
  refine (HT.out).mono ?_
  rintro e w1 ⟨rfl, hb1⟩
  have HB1 := Lib.hid (HB.out.trans (hb1.mono HB.out.size))
  have k1 : w1.cell? ⟨w.heap.size, 10, none⟩ = some (.slice oA on oc) := (hb1.cell (p := ⟨w.heap.size, 10, none⟩) (heap_lt HA1.out)).trans (cell_of HA1.out 10)
  have k2 : w1.cell? ⟨w.heap.size + 1, 10, none⟩ = some (.slice oA' on' oc') := (hb1.cell (p := ⟨w.heap.size + 1, 10, none⟩) (by have := heap_lt HA2.out; rw [asz] at this; exact this)).trans (by have := cell_of HA2.out 10; rw [asz] at this; exact this)
  clear hb1 HT
  cases tb with
  | false =>
    go_wp2_with fail
    go_ret
    exact ⟨ret_bool (by rw [← HRB.out]; exact (decide_eq_false (fun e => by have h := of_decide_eq_false HR.out.1; injection e; exact h (by assumption))).symm), HB1.out⟩
  | true =>
    go_wp2_with fail
    refine (HO.out _ HB1.out).mono ?_
    rintro e w2 ⟨rfl, hb2⟩
    have HB2 := Lib.hid (HB1.out.trans (hb2.mono HB1.out.size))
    clear hb2
    go_wp2_with fail
    go_ret
    refine ⟨ret_bool ?_, HB2.out⟩
    have h1 := of_decide_eq_true HR.out.1
    have h2 := HR.out.2
    rw [← HRB.out, ← h2]
    subst h1
    simp
end Go.Proofs.YtfaaeacgmlklhaaGreatDoor
