/- Which reply fits which request, in the document's own words. -/
import Derived.Test.YtabfbnpbgdlinaaGreatDoorZPosL
import Derived.Test.YtabfbnpbgdlinaaGreatDoorZMehE
set_option linter.unusedSimpArgs false
set_option linter.unusedVariables false
set_option linter.unnecessarySimpa false
namespace Go.Proofs.YtabfbnpbgdlinaaGreatDoor
open Go.RowKit Go.Shelf

set_option maxRecDepth 100000 in
set_option maxHeartbeats 8000000 in
theorem rFit_any {w : World} {v u : Value} {q r : MsgV} (h : MsgIs w v q) (h2 : MsgIs w u r) (hi : q.ti ≤ 9223372036854775807) (hi2 : r.ti ≤ 9223372036854775807) :
    Calls Tryz.prog 36 #[v, u] w fun e w' => e = .returned (.bool (fitM q r)) ∧ Below w.heap.size w w' := by
  have HM1 := Lib.hid (fun W (hW : Below w.heap.size w W) => rMay_any (h.below hW) hi)
  have HM2 := Lib.hid (fun W (hW : Below w.heap.size w W) => rMay_any (h2.below hW) hi2)
  have hkd := fun hm : mayM q = true => mayM_kd hm
  have hkd2 := fun hm : mayM r = true => mayM_kd hm
  have hfm : fitM q r = (mayM q && (mayM r && (q.g == r.g && (q.nd == r.nd && (q.tt == r.fr && fitK q.kd r.kd (q.tr == r.tr)))))) := rfl
  obtain ⟨fb, hfb⟩ : ∃ x, fitM q r = x := ⟨_, rfl⟩
  rw [hfb] at hfm ⊢
  obtain ⟨b1, hb1⟩ : ∃ x, mayM q = x := ⟨_, rfl⟩
  obtain ⟨b2, hb2⟩ : ∃ x, mayM r = x := ⟨_, rfl⟩
  rw [hb1] at HM1 hfm hkd
  rw [hb2] at HM2 hfm hkd2
  obtain ⟨tA, tc, oA, oc, rfl, _⟩ := h
  obtain ⟨tB, td, oB, od, rfl, _⟩ := h2
  obtain ⟨kd, fr, tt, g, nd, tr, lw, co, ti, tl, os⟩ := q
  obtain ⟨kd', fr', tt', g', nd', tr', lw', co', ti', tl', os'⟩ := r
  simp only at HM1 HM2 hfm hkd hkd2 hi hi2 ⊢
  have HKD := Lib.hid hkd
  have HKD2 := Lib.hid hkd2
  have HF := Lib.hid hfm
  obtain ⟨W2, hW2⟩ : ∃ W, W = (w.alloc (.cells #[.int .i64 kd, .int .i64 fr, .int .i64 tt, .int .i64 g, .int .i64 nd, .int .i64 tr, .int .i64 lw, .int .i64 co, .int .i64 ti, .slice tA tl.length tc, .slice oA os.length oc] 37)).alloc (.cells #[.int .i64 kd', .int .i64 fr', .int .i64 tt', .int .i64 g', .int .i64 nd', .int .i64 tr', .int .i64 lw', .int .i64 co', .int .i64 ti', .slice tB tl'.length td, .slice oB os'.length od] 37) := ⟨_, rfl⟩
  have hb0 := below_new (w := w) (.cells #[.int .i64 kd, .int .i64 fr, .int .i64 tt, .int .i64 g, .int .i64 nd, .int .i64 tr, .int .i64 lw, .int .i64 co, .int .i64 ti, .slice tA tl.length tc, .slice oA os.length oc] 37)
  have hb1' := below_new (w := w.alloc (.cells #[.int .i64 kd, .int .i64 fr, .int .i64 tt, .int .i64 g, .int .i64 nd, .int .i64 tr, .int .i64 lw, .int .i64 co, .int .i64 ti, .slice tA tl.length tc, .slice oA os.length oc] 37)) (.cells #[.int .i64 kd', .int .i64 fr', .int .i64 tt', .int .i64 g', .int .i64 nd', .int .i64 tr', .int .i64 lw', .int .i64 co', .int .i64 ti', .slice tB tl'.length td, .slice oB os'.length od] 37)
  have hB2 : Below w.heap.size w W2 := by rw [hW2]; exact hb0.trans (hb1'.mono hb0.size)
  have hq2 : W2.heap[w.heap.size]? = some (.cells #[.int .i64 kd, .int .i64 fr, .int .i64 tt, .int .i64 g, .int .i64 nd, .int .i64 tr, .int .i64 lw, .int .i64 co, .int .i64 ti, .slice tA tl.length tc, .slice oA os.length oc] 37 (0, 0)) := by rw [hW2]; exact (hb1'.block _ (by rw [asz]; exact Nat.lt_succ_self _)).trans (alloc_at w _)
  have hr2 : W2.heap[w.heap.size + 1]? = some (.cells #[.int .i64 kd', .int .i64 fr', .int .i64 tt', .int .i64 g', .int .i64 nd', .int .i64 tr', .int .i64 lw', .int .i64 co', .int .i64 ti', .slice tB tl'.length td, .slice oB os'.length od] 37 (0, 0)) := by
    have := alloc_at (w.alloc (.cells #[.int .i64 kd, .int .i64 fr, .int .i64 tt, .int .i64 g, .int .i64 nd, .int .i64 tr, .int .i64 lw, .int .i64 co, .int .i64 ti, .slice tA tl.length tc, .slice oA os.length oc] 37)) (.cells #[.int .i64 kd', .int .i64 fr', .int .i64 tt', .int .i64 g', .int .i64 nd', .int .i64 tr', .int .i64 lw', .int .i64 co', .int .i64 ti', .slice tB tl'.length td, .slice oB os'.length od] 37)
    rw [asz] at this
    rw [hW2]
    exact this
  have HC : Hid (∀ W, Below W2.heap.size W2 W → W.cell? ⟨w.heap.size, 0, none⟩ = some (.int .i64 kd) ∧ W.cell? ⟨w.heap.size, 1, none⟩ = some (.int .i64 fr) ∧ W.cell? ⟨w.heap.size, 2, none⟩ = some (.int .i64 tt) ∧ W.cell? ⟨w.heap.size, 3, none⟩ = some (.int .i64 g) ∧ W.cell? ⟨w.heap.size, 4, none⟩ = some (.int .i64 nd) ∧ W.cell? ⟨w.heap.size, 5, none⟩ = some (.int .i64 tr) ∧ W.cell? ⟨w.heap.size, 6, none⟩ = some (.int .i64 lw) ∧ W.cell? ⟨w.heap.size, 7, none⟩ = some (.int .i64 co) ∧ W.cell? ⟨w.heap.size, 8, none⟩ = some (.int .i64 ti) ∧ W.cell? ⟨w.heap.size, 9, none⟩ = some (.slice tA tl.length tc) ∧ W.cell? ⟨w.heap.size, 10, none⟩ = some (.slice oA os.length oc) ∧ W.cell? ⟨w.heap.size + 1, 0, none⟩ = some (.int .i64 kd') ∧ W.cell? ⟨w.heap.size + 1, 1, none⟩ = some (.int .i64 fr') ∧ W.cell? ⟨w.heap.size + 1, 2, none⟩ = some (.int .i64 tt') ∧ W.cell? ⟨w.heap.size + 1, 3, none⟩ = some (.int .i64 g') ∧ W.cell? ⟨w.heap.size + 1, 4, none⟩ = some (.int .i64 nd') ∧ W.cell? ⟨w.heap.size + 1, 5, none⟩ = some (.int .i64 tr') ∧ W.cell? ⟨w.heap.size + 1, 6, none⟩ = some (.int .i64 lw') ∧ W.cell? ⟨w.heap.size + 1, 7, none⟩ = some (.int .i64 co') ∧ W.cell? ⟨w.heap.size + 1, 8, none⟩ = some (.int .i64 ti') ∧ W.cell? ⟨w.heap.size + 1, 9, none⟩ = some (.slice tB tl'.length td) ∧ W.cell? ⟨w.heap.size + 1, 10, none⟩ = some (.slice oB os'.length od)) := Lib.hid (fun W hW => by
    have e1 := (hW.block _ (heap_lt hq2)).trans hq2
    have e2 := (hW.block _ (heap_lt hr2)).trans hr2
    exact ⟨cell_of e1 0, cell_of e1 1, cell_of e1 2, cell_of e1 3, cell_of e1 4, cell_of e1 5, cell_of e1 6, cell_of e1 7, cell_of e1 8, cell_of e1 9, cell_of e1 10, cell_of e2 0, cell_of e2 1, cell_of e2 2, cell_of e2 3, cell_of e2 4, cell_of e2 5, cell_of e2 6, cell_of e2 7, cell_of e2 8, cell_of e2 9, cell_of e2 10⟩)
  have HB2 := Lib.hid hB2
  have HW2 := Lib.hid hW2
  clear hfm hb1 hb2 hfb hkd hkd2 hi hi2 hb0 hb1' hB2 hq2 hr2 hW2
  go_enter Tryz.func36, Tryz.ntmps36
  go_upto_region 1 with fail
  rw [← HW2.out]
  obtain ⟨m0, m1, m2, m3, m4, m5, m6, m7, m8, m9, m10, n0, n1, n2, n3, n4, n5, n6, n7, n8, n9, n10⟩ := HC.out _ (Below.refl _ _)
  go_wp2_with fail
  refine (HM1.out _ HB2.out).mono ?_
  rintro e w3 ⟨rfl, hb3⟩
  have HB3 := Lib.hid (HB2.out.trans (hb3.mono HB2.out.size))
  have HS3 := Lib.hid hb3
  clear hb3
  clear m0 m1 m2 m3 m4 m5 m6 m7 m8 m9 m10 n0 n1 n2 n3 n4 n5 n6 n7 n8 n9 n10
  obtain ⟨m0, m1, m2, m3, m4, m5, m6, m7, m8, m9, m10, n0, n1, n2, n3, n4, n5, n6, n7, n8, n9, n10⟩ := HC.out _ (HS3.out)
  cases b1 with
  | false =>
    clear HM2
    go_wp2_with fail
    go_ret
    exact ⟨ret_bool (by rw [HF.out]; simp), HB3.out⟩
  | true =>
  go_wp2_with fail
  refine (HM2.out _ HB3.out).mono ?_
  rintro e w4 ⟨rfl, hb4⟩
  have HB4 := Lib.hid (HB3.out.trans (hb4.mono HB3.out.size))
  have HS4 := Lib.hid (HS3.out.trans (hb4.mono HS3.out.size))
  clear hb4
  clear m0 m1 m2 m3 m4 m5 m6 m7 m8 m9 m10 n0 n1 n2 n3 n4 n5 n6 n7 n8 n9 n10
  obtain ⟨m0, m1, m2, m3, m4, m5, m6, m7, m8, m9, m10, n0, n1, n2, n3, n4, n5, n6, n7, n8, n9, n10⟩ := HC.out _ (HS4.out)
  cases b2 with
  | false =>
    go_wp2_with fail
    go_ret
    exact ⟨ret_bool (by rw [HF.out]; simp), HB4.out⟩
  | true =>
  have hq := HKD.out (by first | trivial | rfl)
  have hr := HKD2.out (by first | trivial | rfl)
  by_cases hk : kd > 4
  · have k1 : decide (kd > 4) = true := by simp; omega
    have HZ : Hid (false = fb) := Lib.hid (by
      rw [HF.out]
      have : fitK kd kd' (tr == tr') = false := by
        unfold fitK
        rw [if_neg (by omega), if_neg (by omega), if_neg (by omega)]
      rw [this]
      simp)
    clear hk hq hr
    go_wp2_with fail
    go_ret
    exact ⟨ret_bool HZ.out, HB4.out⟩
  have k1 : decide (kd > 4) = false := by simp; omega
  by_cases hk' : kd' < 10
  · have k2 : decide (kd' < 10) = true := by simp; omega
    have HZ : Hid (false = fb) := Lib.hid (by
      rw [HF.out]
      have h13 : (kd' == 13) = false := by simp; omega
      have h15 : (kd' == 15) = false := by simp; omega
      have h16 : (kd' == 16) = false := by simp; omega
      have hot : ofT kd kd' = false := by unfold ofT; rw [if_neg (by omega), if_neg (by omega)]
      have : fitK kd kd' (tr == tr') = false := by
        unfold fitK
        rw [hot, h13, h15, h16]
        simp
      rw [this]
      simp)
    clear hk hk' hq hr
    go_wp2_with fail
    go_ret
    exact ⟨ret_bool HZ.out, HB4.out⟩
  have k2 : decide (kd' < 10) = false := by simp; omega
  have hk4 : kd = 1 ∨ kd = 2 ∨ kd = 3 ∨ kd = 4 := by omega
  have hr6 : kd' = 11 ∨ kd' = 12 ∨ kd' = 13 ∨ kd' = 14 ∨ kd' = 15 ∨ kd' = 16 := by omega
  have HK4 := Lib.hid hk4
  have HR6 := Lib.hid hr6
  clear hk hk' hq hr hk4 hr6
  by_cases he : g = g'
  case neg =>
    have p1 : (g == g') = false := by simp [he]
    have p2 : (g != g') = true := by simp [he]
    have HP := Lib.hid p1
    clear he
    go_wp2_with fail
    go_ret
    exact ⟨ret_bool (by rw [HF.out, HP.out]; simp), HB4.out⟩
  subst he
  by_cases he : nd = nd'
  case neg =>
    have p1 : (nd == nd') = false := by simp [he]
    have p2 : (nd != nd') = true := by simp [he]
    have HP := Lib.hid p1
    clear he
    go_wp2_with fail
    go_ret
    exact ⟨ret_bool (by rw [HF.out, HP.out]; simp), HB4.out⟩
  subst he
  by_cases he : tt = fr'
  case neg =>
    have p1 : (tt == fr') = false := by simp [he]
    have p2 : (tt != fr') = true := by simp [he]
    have HP := Lib.hid p1
    clear he
    go_wp2_with fail
    go_ret
    exact ⟨ret_bool (by rw [HF.out, HP.out]; simp), HB4.out⟩
  subst he
  have HF2 : Hid (fb = fitK kd kd' (tr == tr')) := Lib.hid (by rw [HF.out]; simp)
  by_cases ht : tr = tr'
  · subst ht
    rcases HK4.out with rfl | rfl | rfl | rfl
    all_goals rcases HR6.out with rfl | rfl | rfl | rfl | rfl | rfl
    all_goals
      clear k1 k2
      go_wp2_with fail
      go_ret
      exact ⟨ret_bool (by rw [HF2.out]; simp [fitK, ofT]), HB4.out⟩
  · have p1 : (tr == tr') = false := by simp [ht]
    have P1 := Lib.hid p1
    clear ht
    rcases HK4.out with rfl | rfl | rfl | rfl
    all_goals rcases HR6.out with rfl | rfl | rfl | rfl | rfl | rfl
    all_goals
      clear k1 k2
      go_wp2_with fail
      go_ret
      exact ⟨ret_bool (by rw [HF2.out, P1.out]; simp [fitK, ofT]), HB4.out⟩
end Go.Proofs.YtabfbnpbgdlinaaGreatDoor
