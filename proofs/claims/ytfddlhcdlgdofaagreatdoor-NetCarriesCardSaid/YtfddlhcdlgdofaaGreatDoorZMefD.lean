/- The document's own Same (genmefc.py wrote it.) -/
import Derived.Test.YtfddlhcdlgdofaaGreatDoorZMefC
import Derived.Test.YtfddlhcdlgdofaaGreatDoorZMefB
set_option linter.unusedSimpArgs false
set_option linter.unusedVariables false
set_option linter.unnecessarySimpa false
namespace Go.Proofs.YtfddlhcdlgdofaaGreatDoor
open Go.RowKit Go.Shelf

set_option maxRecDepth 100000 in
set_option maxHeartbeats 8000000 in
theorem rsame_any {w : World} {v u : Value} {m n : MsgV} (h : MsgIs w v m) (h2 : MsgIs w u n) :
    Calls Tryz.prog 23 #[v, u] w fun e w' => e = .returned (.bool (decide (m = n))) ∧ Below w.heap.size w w' := by
  obtain ⟨tA, tc, oA, oc, rfl, ht, ho, _⟩ := h
  obtain ⟨tA', tc', oA', oc', rfl, ht', ho', _⟩ := h2
  obtain ⟨kd, fr, tt, g, nd, tr, lw, co, ti, tl, os⟩ := m
  obtain ⟨kd', fr', tt', g', nd', tr', lw', co', ti', tl', os'⟩ := n
  simp only at ht ho ht' ho' ⊢
  obtain ⟨rb, hrb⟩ : ∃ b, decide ((⟨kd, fr, tt, g, nd, tr, lw, co, ti, tl, os⟩ : MsgV) = ⟨kd', fr', tt', g', nd', tr', lw', co', ti', tl', os'⟩) = b := ⟨_, rfl⟩
  rw [hrb]
  have HRB := Lib.hid hrb
  clear hrb
  have hb1 := below_new (w := w) (.cells #[.int .i64 kd, .int .i64 fr, .int .i64 tt, .int .i64 g, .int .i64 nd, .int .i64 tr, .int .i64 lw, .int .i64 co, .int .i64 ti, .slice tA tl.length tc, .slice oA os.length oc] 37)
  have hb2 := hb1.trans ((below_new (w := w.alloc (.cells #[.int .i64 kd, .int .i64 fr, .int .i64 tt, .int .i64 g, .int .i64 nd, .int .i64 tr, .int .i64 lw, .int .i64 co, .int .i64 ti, .slice tA tl.length tc, .slice oA os.length oc] 37)) (.cells #[.int .i64 kd', .int .i64 fr', .int .i64 tt', .int .i64 g', .int .i64 nd', .int .i64 tr', .int .i64 lw', .int .i64 co', .int .i64 ti', .slice tA' tl'.length tc', .slice oA' os'.length oc'] 37)).mono hb1.size)
  have HB := Lib.hid hb2
  have HT := Lib.hid (rnums_eq (ht.below hb2) (ht'.below hb2))
  have HO := Lib.hid (fun W (hW : Below w.heap.size w W) => rops_eq (ho.below hW) (ho'.below hW))
  have hat1 := alloc_at w (.cells #[.int .i64 kd, .int .i64 fr, .int .i64 tt, .int .i64 g, .int .i64 nd, .int .i64 tr, .int .i64 lw, .int .i64 co, .int .i64 ti, .slice tA tl.length tc, .slice oA os.length oc] 37)
  have hat2 := alloc_at (w.alloc (.cells #[.int .i64 kd, .int .i64 fr, .int .i64 tt, .int .i64 g, .int .i64 nd, .int .i64 tr, .int .i64 lw, .int .i64 co, .int .i64 ti, .slice tA tl.length tc, .slice oA os.length oc] 37)) (.cells #[.int .i64 kd', .int .i64 fr', .int .i64 tt', .int .i64 g', .int .i64 nd', .int .i64 tr', .int .i64 lw', .int .i64 co', .int .i64 ti', .slice tA' tl'.length tc', .slice oA' os'.length oc'] 37)
  have HA1 := Lib.hid (((below_new (w := w.alloc (.cells #[.int .i64 kd, .int .i64 fr, .int .i64 tt, .int .i64 g, .int .i64 nd, .int .i64 tr, .int .i64 lw, .int .i64 co, .int .i64 ti, .slice tA tl.length tc, .slice oA os.length oc] 37)) (.cells #[.int .i64 kd', .int .i64 fr', .int .i64 tt', .int .i64 g', .int .i64 nd', .int .i64 tr', .int .i64 lw', .int .i64 co', .int .i64 ti', .slice tA' tl'.length tc', .slice oA' os'.length oc'] 37)).block w.heap.size (heap_lt hat1)).trans hat1)
  have HA2 := Lib.hid hat2
  clear ht ho ht' ho' hb1 hb2 hat1 hat2
  by_cases he : kd = kd'
  case neg =>
    have hq : (kd == kd') = false := beq_eq_false_iff_ne.2 he
    have HN := Lib.hid he
    clear he
    go_enter Tryz.func23, Tryz.ntmps23
    go_wp2_with fail
    go_ret
    exact ⟨ret_bool (by rw [← HRB.out]; exact (decide_eq_false (fun e => HN.out (by injection e))).symm), HB.out⟩
  subst he
  by_cases he : fr = fr'
  case neg =>
    have hq : (fr == fr') = false := beq_eq_false_iff_ne.2 he
    have HN := Lib.hid he
    clear he
    go_enter Tryz.func23, Tryz.ntmps23
    go_wp2_with fail
    go_ret
    exact ⟨ret_bool (by rw [← HRB.out]; exact (decide_eq_false (fun e => HN.out (by injection e))).symm), HB.out⟩
  subst he
  by_cases he : tt = tt'
  case neg =>
    have hq : (tt == tt') = false := beq_eq_false_iff_ne.2 he
    have HN := Lib.hid he
    clear he
    go_enter Tryz.func23, Tryz.ntmps23
    go_wp2_with fail
    go_ret
    exact ⟨ret_bool (by rw [← HRB.out]; exact (decide_eq_false (fun e => HN.out (by injection e))).symm), HB.out⟩
  subst he
  by_cases he : g = g'
  case neg =>
    have hq : (g == g') = false := beq_eq_false_iff_ne.2 he
    have HN := Lib.hid he
    clear he
    go_enter Tryz.func23, Tryz.ntmps23
    go_wp2_with fail
    go_ret
    exact ⟨ret_bool (by rw [← HRB.out]; exact (decide_eq_false (fun e => HN.out (by injection e))).symm), HB.out⟩
  subst he
  by_cases he : nd = nd'
  case neg =>
    have hq : (nd == nd') = false := beq_eq_false_iff_ne.2 he
    have HN := Lib.hid he
    clear he
    go_enter Tryz.func23, Tryz.ntmps23
    go_wp2_with fail
    go_ret
    exact ⟨ret_bool (by rw [← HRB.out]; exact (decide_eq_false (fun e => HN.out (by injection e))).symm), HB.out⟩
  subst he
  by_cases he : tr = tr'
  case neg =>
    have hq : (tr == tr') = false := beq_eq_false_iff_ne.2 he
    have HN := Lib.hid he
    clear he
    go_enter Tryz.func23, Tryz.ntmps23
    go_wp2_with fail
    go_ret
    exact ⟨ret_bool (by rw [← HRB.out]; exact (decide_eq_false (fun e => HN.out (by injection e))).symm), HB.out⟩
  subst he
  by_cases he : lw = lw'
  case neg =>
    have hq : (lw == lw') = false := beq_eq_false_iff_ne.2 he
    have HN := Lib.hid he
    clear he
    go_enter Tryz.func23, Tryz.ntmps23
    go_wp2_with fail
    go_ret
    exact ⟨ret_bool (by rw [← HRB.out]; exact (decide_eq_false (fun e => HN.out (by injection e))).symm), HB.out⟩
  subst he
  by_cases he : co = co'
  case neg =>
    have hq : (co == co') = false := beq_eq_false_iff_ne.2 he
    have HN := Lib.hid he
    clear he
    go_enter Tryz.func23, Tryz.ntmps23
    go_wp2_with fail
    go_ret
    exact ⟨ret_bool (by rw [← HRB.out]; exact (decide_eq_false (fun e => HN.out (by injection e))).symm), HB.out⟩
  subst he
  by_cases he : ti = ti'
  case neg =>
    have hq : (ti == ti') = false := beq_eq_false_iff_ne.2 he
    have HN := Lib.hid he
    clear he
    go_enter Tryz.func23, Tryz.ntmps23
    go_wp2_with fail
    go_ret
    exact ⟨ret_bool (by rw [← HRB.out]; exact (decide_eq_false (fun e => HN.out (by injection e))).symm), HB.out⟩
  subst he
  obtain ⟨tb, htb⟩ : ∃ b, decide (tl = tl') = b := ⟨_, rfl⟩
  rw [htb] at HT
  obtain ⟨ob, hob⟩ : ∃ b, decide (os = os') = b := ⟨_, rfl⟩
  rw [hob] at HO
  have HR := Lib.hid (And.intro htb hob)
  obtain ⟨tn, htn⟩ : ∃ k, tl.length = k := ⟨_, rfl⟩
  obtain ⟨tn', htn'⟩ : ∃ k, tl'.length = k := ⟨_, rfl⟩
  obtain ⟨on, hon⟩ : ∃ k, os.length = k := ⟨_, rfl⟩
  obtain ⟨on', hon'⟩ : ∃ k, os'.length = k := ⟨_, rfl⟩
  rw [htn, htn'] at HT
  rw [hon, hon'] at HO HT
  rw [htn, hon, htn', hon'] at HB HA1 HA2 ⊢
  clear htb hob htn htn' hon hon'
  go_enter Tryz.func23, Tryz.ntmps23
  go_wp2_with fail
  refine (HT.out).mono ?_
  rintro e w1 ⟨rfl, hb1⟩
  have HB1 := Lib.hid (HB.out.trans (hb1.mono HB.out.size))
  have k1 : w1.cell? ⟨w.heap.size, 10, none⟩ = some (.slice oA on oc) := (hb1.cell (p := ⟨w.heap.size, 10, none⟩) (heap_lt HA1.out)).trans (cell_of HA1.out 10)
  have k2 : w1.cell? ⟨w.heap.size + 1, 10, none⟩ = some (.slice oA' on' oc') := (hb1.cell (p := ⟨w.heap.size + 1, 10, none⟩) (by have := heap_lt HA2.out; rw [asz] at this; exact this)).trans (by have := cell_of HA2.out 10; rw [asz] at this; exact this)
  clear hb1 HT
  cases tb with
  | false =>
    go_wp2_with fail
    go_ret
    exact ⟨ret_bool (by rw [← HRB.out]; exact (decide_eq_false (fun e => by have h := of_decide_eq_false HR.out.1; injection e; exact h (by assumption))).symm), HB1.out⟩
  | true =>
    go_wp2_with fail
    refine (HO.out _ HB1.out).mono ?_
    rintro e w2 ⟨rfl, hb2⟩
    have HB2 := Lib.hid (HB1.out.trans (hb2.mono HB1.out.size))
    clear hb2
    go_wp2_with fail
    go_ret
    refine ⟨ret_bool ?_, HB2.out⟩
    have h1 := of_decide_eq_true HR.out.1
    have h2 := HR.out.2
    rw [← HRB.out, ← h2]
    subst h1
    simp
end Go.Proofs.YtfddlhcdlgdofaaGreatDoor
