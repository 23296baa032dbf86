/- Which reply fits which request. The box: Fits; a box that is not there. -/
import Derived.Test.YtabfbnpbgdlinaaGreatDoorZPosJ
set_option linter.unusedSimpArgs false
set_option linter.unusedVariables false
set_option linter.unnecessarySimpa false
namespace Go.Proofs.YtabfbnpbgdlinaaGreatDoor
open Go.RowKit Go.Shelf

/-- Does a reply of that kind tell of one try? -/
def ofT (qk rk : Int) : Bool := if rk = 11 ∨ rk = 12 then qk == 1 else if rk = 14 then qk == 2 else false
def fitK (qk rk : Int) (te : Bool) : Bool := if qk = 1 ∨ qk = 2 then (if ofT qk rk = true then te else (rk == 13 || rk == 15)) else if qk = 3 then (rk == 13 || rk == 15) else if qk = 4 then rk == 16 else false
/-- Does a reply fit a request? -/
def fitM (q r : MsgV) : Bool := mayM q && (mayM r && (q.g == r.g && (q.nd == r.nd && (q.tt == r.fr && fitK q.kd r.kd (q.tr == r.tr)))))
set_option maxRecDepth 100000 in
set_option maxHeartbeats 4000000 in
theorem ofTry_any {w : World} (qk rk : Int) : Calls Tryz.prog 77 #[.int .i64 qk, .int .i64 rk] w fun e w' => e = .returned (.bool (ofT qk rk)) ∧ w' = w := by
  by_cases h1 : rk = 11
  · have HE : Hid ((qk == 1) = ofT qk rk) := Lib.hid (by simp [ofT, h1])
    subst h1
    go_enter Tryz.func77, Tryz.ntmps77
    go_wp2_with fail
    go_ret
    exact ⟨ret_bool HE.out, rfl⟩
  by_cases h2 : rk = 12
  · have HE : Hid ((qk == 1) = ofT qk rk) := Lib.hid (by simp [ofT, h2])
    subst h2
    clear h1
    go_enter Tryz.func77, Tryz.ntmps77
    go_wp2_with fail
    go_ret
    exact ⟨ret_bool HE.out, rfl⟩
  have q1 : (rk == 11) = false := by simp [h1]
  have q2 : (rk == 12) = false := by simp [h2]
  by_cases h3 : rk = 14
  · have HE : Hid ((qk == 2) = ofT qk rk) := Lib.hid (by simp [ofT, h3])
    subst h3
    clear h1 h2 q1 q2
    go_enter Tryz.func77, Tryz.ntmps77
    go_wp2_with fail
    go_ret
    exact ⟨ret_bool HE.out, rfl⟩
  · have q3 : (rk == 14) = false := by simp [h3]
    have HE : Hid (false = ofT qk rk) := Lib.hid (by simp [ofT, h1, h2, h3])
    clear h1 h2 h3
    go_enter Tryz.func77, Tryz.ntmps77
    go_wp2_with fail
    go_ret
    exact ⟨ret_bool HE.out, rfl⟩
theorem mayM_kd {m : MsgV} (h : mayM m = true) : (1 ≤ m.kd ∧ m.kd ≤ 4) ∨ (11 ≤ m.kd ∧ m.kd ≤ 16) := by
  unfold mayM at h
  rw [Bool.and_eq_true] at h
  simpa [kindM] using h.1
set_option maxRecDepth 100000 in
set_option maxHeartbeats 8000000 in
theorem Fit_any {w : World} (hG : Glob w) {v u : Value} {q r : MsgV} (h : MsgIs w v q) (h2 : MsgIs w u r) :
    Calls Tryz.prog 35 #[v, u] w fun e w' => e = .returned (.bool (fitM q r)) ∧ Below w.heap.size w w' := by
  have HM1 := Lib.hid (fun W (hW : Below w.heap.size w W) => May_any (hG.below hW) (h.below hW))
  have HM2 := Lib.hid (fun W (hW : Below w.heap.size w W) => May_any (hG.below hW) (h2.below hW))
  have hkd := fun hm : mayM q = true => mayM_kd hm
  have hfm : fitM q r = (mayM q && (mayM r && (q.g == r.g && (q.nd == r.nd && (q.tt == r.fr && fitK q.kd r.kd (q.tr == r.tr)))))) := rfl
  obtain ⟨fb, hfb⟩ : ∃ x, fitM q r = x := ⟨_, rfl⟩
  rw [hfb] at hfm ⊢
  obtain ⟨b1, hb1⟩ : ∃ x, mayM q = x := ⟨_, rfl⟩
  obtain ⟨b2, hb2⟩ : ∃ x, mayM r = x := ⟨_, rfl⟩
  rw [hb1] at HM1 hfm hkd
  rw [hb2] at HM2 hfm
  obtain ⟨tA, tc, oA, oc, rfl, _⟩ := h
  obtain ⟨tB, td, oB, od, rfl, _⟩ := h2
  obtain ⟨kd, fr, tt, g, nd, tr, lw, co, ti, tl, os⟩ := q
  obtain ⟨kd', fr', tt', g', nd', tr', lw', co', ti', tl', os'⟩ := r
  simp only at HM1 HM2 hfm hkd ⊢
  have HKD := Lib.hid hkd
  have HF := Lib.hid hfm
  obtain ⟨W2, hW2⟩ : ∃ W, W = (w.alloc (.cells #[.int .i64 kd, .int .i64 fr, .int .i64 tt, .int .i64 g, .int .i64 nd, .int .i64 tr, .int .i64 lw, .int .i64 co, .int .i64 ti, .slice tA tl.length tc, .slice oA os.length oc] 50)).alloc (.cells #[.int .i64 kd', .int .i64 fr', .int .i64 tt', .int .i64 g', .int .i64 nd', .int .i64 tr', .int .i64 lw', .int .i64 co', .int .i64 ti', .slice tB tl'.length td, .slice oB os'.length od] 50) := ⟨_, rfl⟩
  have hb0 := below_new (w := w) (.cells #[.int .i64 kd, .int .i64 fr, .int .i64 tt, .int .i64 g, .int .i64 nd, .int .i64 tr, .int .i64 lw, .int .i64 co, .int .i64 ti, .slice tA tl.length tc, .slice oA os.length oc] 50)
  have hb1' := below_new (w := w.alloc (.cells #[.int .i64 kd, .int .i64 fr, .int .i64 tt, .int .i64 g, .int .i64 nd, .int .i64 tr, .int .i64 lw, .int .i64 co, .int .i64 ti, .slice tA tl.length tc, .slice oA os.length oc] 50)) (.cells #[.int .i64 kd', .int .i64 fr', .int .i64 tt', .int .i64 g', .int .i64 nd', .int .i64 tr', .int .i64 lw', .int .i64 co', .int .i64 ti', .slice tB tl'.length td, .slice oB os'.length od] 50)
  have hB2 : Below w.heap.size w W2 := by rw [hW2]; exact hb0.trans (hb1'.mono hb0.size)
  have hq2 : W2.heap[w.heap.size]? = some (.cells #[.int .i64 kd, .int .i64 fr, .int .i64 tt, .int .i64 g, .int .i64 nd, .int .i64 tr, .int .i64 lw, .int .i64 co, .int .i64 ti, .slice tA tl.length tc, .slice oA os.length oc] 50 (0, 0)) := by rw [hW2]; exact (hb1'.block _ (by rw [asz]; exact Nat.lt_succ_self _)).trans (alloc_at w _)
  have hr2 : W2.heap[w.heap.size + 1]? = some (.cells #[.int .i64 kd', .int .i64 fr', .int .i64 tt', .int .i64 g', .int .i64 nd', .int .i64 tr', .int .i64 lw', .int .i64 co', .int .i64 ti', .slice tB tl'.length td, .slice oB os'.length od] 50 (0, 0)) := by
    have := alloc_at (w.alloc (.cells #[.int .i64 kd, .int .i64 fr, .int .i64 tt, .int .i64 g, .int .i64 nd, .int .i64 tr, .int .i64 lw, .int .i64 co, .int .i64 ti, .slice tA tl.length tc, .slice oA os.length oc] 50)) (.cells #[.int .i64 kd', .int .i64 fr', .int .i64 tt', .int .i64 g', .int .i64 nd', .int .i64 tr', .int .i64 lw', .int .i64 co', .int .i64 ti', .slice tB tl'.length td, .slice oB os'.length od] 50)
    rw [asz] at this
    rw [hW2]
    exact this
  have HC : Hid (∀ W, Below W2.heap.size W2 W → W.cell? ⟨w.heap.size, 0, none⟩ = some (.int .i64 kd) ∧ W.cell? ⟨w.heap.size, 1, none⟩ = some (.int .i64 fr) ∧ W.cell? ⟨w.heap.size, 2, none⟩ = some (.int .i64 tt) ∧ W.cell? ⟨w.heap.size, 3, none⟩ = some (.int .i64 g) ∧ W.cell? ⟨w.heap.size, 4, none⟩ = some (.int .i64 nd) ∧ W.cell? ⟨w.heap.size, 5, none⟩ = some (.int .i64 tr) ∧ W.cell? ⟨w.heap.size, 6, none⟩ = some (.int .i64 lw) ∧ W.cell? ⟨w.heap.size, 7, none⟩ = some (.int .i64 co) ∧ W.cell? ⟨w.heap.size, 8, none⟩ = some (.int .i64 ti) ∧ W.cell? ⟨w.heap.size, 9, none⟩ = some (.slice tA tl.length tc) ∧ W.cell? ⟨w.heap.size, 10, none⟩ = some (.slice oA os.length oc) ∧ W.cell? ⟨w.heap.size + 1, 0, none⟩ = some (.int .i64 kd') ∧ W.cell? ⟨w.heap.size + 1, 1, none⟩ = some (.int .i64 fr') ∧ W.cell? ⟨w.heap.size + 1, 2, none⟩ = some (.int .i64 tt') ∧ W.cell? ⟨w.heap.size + 1, 3, none⟩ = some (.int .i64 g') ∧ W.cell? ⟨w.heap.size + 1, 4, none⟩ = some (.int .i64 nd') ∧ W.cell? ⟨w.heap.size + 1, 5, none⟩ = some (.int .i64 tr') ∧ W.cell? ⟨w.heap.size + 1, 6, none⟩ = some (.int .i64 lw') ∧ W.cell? ⟨w.heap.size + 1, 7, none⟩ = some (.int .i64 co') ∧ W.cell? ⟨w.heap.size + 1, 8, none⟩ = some (.int .i64 ti') ∧ W.cell? ⟨w.heap.size + 1, 9, none⟩ = some (.slice tB tl'.length td) ∧ W.cell? ⟨w.heap.size + 1, 10, none⟩ = some (.slice oB os'.length od)) := Lib.hid (fun W hW => by
    have e1 := (hW.block _ (heap_lt hq2)).trans hq2
    have e2 := (hW.block _ (heap_lt hr2)).trans hr2
    exact ⟨cell_of e1 0, cell_of e1 1, cell_of e1 2, cell_of e1 3, cell_of e1 4, cell_of e1 5, cell_of e1 6, cell_of e1 7, cell_of e1 8, cell_of e1 9, cell_of e1 10, cell_of e2 0, cell_of e2 1, cell_of e2 2, cell_of e2 3, cell_of e2 4, cell_of e2 5, cell_of e2 6, cell_of e2 7, cell_of e2 8, cell_of e2 9, cell_of e2 10⟩)
  have HB2 := Lib.hid hB2
  have HW2 := Lib.hid hW2
  clear hfm hb1 hb2 hfb hG hkd hb0 hb1' hB2 hq2 hr2 hW2
  go_enter Tryz.func35, Tryz.ntmps35
  go_upto_region 1 with fail
  rw [← HW2.out]
  obtain ⟨m0, m1, m2, m3, m4, m5, m6, m7, m8, m9, m10, n0, n1, n2, n3, n4, n5, n6, n7, n8, n9, n10⟩ := HC.out _ (Below.refl _ _)
  go_wp2_with fail
  refine (HM1.out _ HB2.out).mono ?_
  rintro e w3 ⟨rfl, hb3⟩
  have HB3 := Lib.hid (HB2.out.trans (hb3.mono HB2.out.size))
  have HS3 := Lib.hid hb3
  clear hb3
  clear m0 m1 m2 m3 m4 m5 m6 m7 m8 m9 m10 n0 n1 n2 n3 n4 n5 n6 n7 n8 n9 n10
  obtain ⟨m0, m1, m2, m3, m4, m5, m6, m7, m8, m9, m10, n0, n1, n2, n3, n4, n5, n6, n7, n8, n9, n10⟩ := HC.out _ (HS3.out)
  cases b1 with
  | false =>
    clear HM2
    go_wp2_with fail
    go_ret
    exact ⟨ret_bool (by rw [HF.out]; simp), HB3.out⟩
  | true =>
  go_wp2_with fail
  refine (HM2.out _ HB3.out).mono ?_
  rintro e w4 ⟨rfl, hb4⟩
  have HB4 := Lib.hid (HB3.out.trans (hb4.mono HB3.out.size))
  have HS4 := Lib.hid (HS3.out.trans (hb4.mono HS3.out.size))
  clear hb4
  clear m0 m1 m2 m3 m4 m5 m6 m7 m8 m9 m10 n0 n1 n2 n3 n4 n5 n6 n7 n8 n9 n10
  obtain ⟨m0, m1, m2, m3, m4, m5, m6, m7, m8, m9, m10, n0, n1, n2, n3, n4, n5, n6, n7, n8, n9, n10⟩ := HC.out _ (HS4.out)
  cases b2 with
  | false =>
    go_wp2_with fail
    go_ret
    exact ⟨ret_bool (by rw [HF.out]; simp), HB4.out⟩
  | true =>
  by_cases he : g = g'
  case neg =>
    have p1 : (g == g') = false := by simp [he]
    have p2 : (g != g') = true := by simp [he]
    have HP := Lib.hid p1
    clear he
    go_wp2_with fail
    go_ret
    exact ⟨ret_bool (by rw [HF.out, HP.out]; simp), HB4.out⟩
  subst he
  by_cases he : nd = nd'
  case neg =>
    have p1 : (nd == nd') = false := by simp [he]
    have p2 : (nd != nd') = true := by simp [he]
    have HP := Lib.hid p1
    clear he
    go_wp2_with fail
    go_ret
    exact ⟨ret_bool (by rw [HF.out, HP.out]; simp), HB4.out⟩
  subst he
  by_cases he : tt = fr'
  case neg =>
    have p1 : (tt == fr') = false := by simp [he]
    have p2 : (tt != fr') = true := by simp [he]
    have HP := Lib.hid p1
    clear he
    go_wp2_with fail
    go_ret
    exact ⟨ret_bool (by rw [HF.out, HP.out]; simp), HB4.out⟩
  subst he
  have HF2 : Hid (fb = fitK kd kd' (tr == tr')) := Lib.hid (by rw [HF.out]; simp)
  have HOT := Lib.hid (fun (W : World) (k k' : Int) => ofTry_any (w := W) k k')
  rcases HKD.out (by first | trivial | rfl) with hk | hk
  · have hk4 : kd = 1 ∨ kd = 2 ∨ kd = 3 ∨ kd = 4 := by omega
    clear hk
    by_cases h13 : kd' = 13
    · subst h13
      rcases hk4 with rfl | rfl | rfl | rfl
      · go_wp2_with fail
        refine (HOT.out _ _ _).mono ?_
        rintro e w5 ⟨rfl, rfl⟩
        rw [show ofT _ _ = false from rfl]
        go_wp2_with fail
        go_ret
        exact ⟨ret_bool (by rw [HF2.out]; rfl), HB4.out⟩
      · go_wp2_with fail
        refine (HOT.out _ _ _).mono ?_
        rintro e w5 ⟨rfl, rfl⟩
        rw [show ofT _ _ = false from rfl]
        go_wp2_with fail
        go_ret
        exact ⟨ret_bool (by rw [HF2.out]; rfl), HB4.out⟩
      · go_wp2_with fail
        go_ret
        exact ⟨ret_bool (by rw [HF2.out]; rfl), HB4.out⟩
      · go_wp2_with fail
        go_ret
        exact ⟨ret_bool (by rw [HF2.out]; rfl), HB4.out⟩
    have n13 : (kd' == 13) = false := by simp [h13]
    by_cases h15 : kd' = 15
    · subst h15
      clear h13 n13
      rcases hk4 with rfl | rfl | rfl | rfl
      · go_wp2_with fail
        refine (HOT.out _ _ _).mono ?_
        rintro e w5 ⟨rfl, rfl⟩
        rw [show ofT _ _ = false from rfl]
        go_wp2_with fail
        go_ret
        exact ⟨ret_bool (by rw [HF2.out]; rfl), HB4.out⟩
      · go_wp2_with fail
        refine (HOT.out _ _ _).mono ?_
        rintro e w5 ⟨rfl, rfl⟩
        rw [show ofT _ _ = false from rfl]
        go_wp2_with fail
        go_ret
        exact ⟨ret_bool (by rw [HF2.out]; rfl), HB4.out⟩
      · go_wp2_with fail
        go_ret
        exact ⟨ret_bool (by rw [HF2.out]; rfl), HB4.out⟩
      · go_wp2_with fail
        go_ret
        exact ⟨ret_bool (by rw [HF2.out]; rfl), HB4.out⟩
    have n15 : (kd' == 15) = false := by simp [h15]
    rcases hk4 with rfl | rfl | rfl | rfl
    · go_wp2_with fail
      refine (HOT.out _ _ _).mono ?_
      rintro e w5 ⟨rfl, rfl⟩
      obtain ⟨ob, hob⟩ : ∃ x, ofT 1 kd' = x := ⟨_, rfl⟩
      rw [hob]
      have HZ : Hid (fb = if ob = true then tr == tr' else false) := Lib.hid (by rw [HF2.out]; simp [fitK, hob, n13, n15])
      clear hob h13 h15
      cases ob with
      | true =>
        go_wp2_with fail
        go_ret
        exact ⟨ret_bool (by rw [HZ.out]; rfl), HB4.out⟩
      | false =>
        go_wp2_with fail
        go_ret
        exact ⟨ret_bool (by rw [HZ.out]; rfl), HB4.out⟩
    · go_wp2_with fail
      refine (HOT.out _ _ _).mono ?_
      rintro e w5 ⟨rfl, rfl⟩
      obtain ⟨ob, hob⟩ : ∃ x, ofT 2 kd' = x := ⟨_, rfl⟩
      rw [hob]
      have HZ : Hid (fb = if ob = true then tr == tr' else false) := Lib.hid (by rw [HF2.out]; simp [fitK, hob, n13, n15])
      clear hob h13 h15
      cases ob with
      | true =>
        go_wp2_with fail
        go_ret
        exact ⟨ret_bool (by rw [HZ.out]; rfl), HB4.out⟩
      | false =>
        go_wp2_with fail
        go_ret
        exact ⟨ret_bool (by rw [HZ.out]; rfl), HB4.out⟩
    · have HZ : Hid (false = fb) := Lib.hid (by rw [HF2.out]; simp [fitK, n13, n15])
      clear h13 h15
      go_wp2_with fail
      go_ret
      exact ⟨ret_bool HZ.out, HB4.out⟩
    · have HZ : Hid ((kd' == 16) = fb) := Lib.hid (by rw [HF2.out]; simp [fitK])
      clear h13 h15
      go_wp2_with fail
      go_ret
      exact ⟨ret_bool HZ.out, HB4.out⟩
  · have k1 : (kd == 1) = false := by simp; omega
    have k2 : (kd == 2) = false := by simp; omega
    have k3 : (kd == 3) = false := by simp; omega
    have k4 : (kd == 4) = false := by simp; omega
    have HZ : Hid (false = fb) := Lib.hid (by
      rw [HF2.out]
      unfold fitK
      rw [if_neg (by omega), if_neg (by omega), if_neg (by omega)])
    clear hk
    go_wp2_with fail
    go_ret
    exact ⟨ret_bool HZ.out, HB4.out⟩
end Go.Proofs.YtabfbnpbgdlinaaGreatDoor

namespace Go.Proofs.YtabfbnpbgdlinaaGreatDoor
open Go.RowKit Go.Shelf

section
variable {w : World} {b mp : Nat} {ev : Int} {L : List Rq} {c : Nat} {R : Nat → Prop}
/-- What Fits answers. -/
def FitsP (w : World) (q : MsgV) (ok : Bool) (e : Ending) (w' : World) : Prop := ∃ v, e = .returned (.tuple #[v, .bool ok]) ∧ (ok = true → MsgIs w' v q) ∧ (ok = false → v = zeroM) ∧ Below w.heap.size w w'
set_option maxRecDepth 100000 in
set_option maxHeartbeats 8000000 in
theorem fits_hit (hG : Glob w) (h : BoxAt w b mp ev L c R) {j : Nat} {x : Rq} (hj : L[j]? = some x) {v : Value} {r : MsgV} (hv : MsgIs w v r) (hn : x.m.g = r.g) :
    Calls Tryz.prog 41 #[.pointer (some ⟨b, 0, none⟩), v] w (FitsP w x.m (fitM x.m r)) := by
  have HFT := Lib.hid (fun W (hW : Below w.heap.size w W) (u : Value) (hu : MsgIs W u x.m) => Fit_any (hG.below hW) hu (hv.below hW))
  have HGT := Lib.hid (fun W (hW : Below w.heap.size w W) => get_hit (h.below hW) hj hn)
  obtain ⟨fb, hfb⟩ : ∃ b, fitM x.m r = b := ⟨_, rfl⟩
  rw [hfb] at HFT ⊢
  obtain ⟨tA, tc, oA, oc, rfl, _⟩ := hv
  obtain ⟨kd, fr, tt, g, nd, tr, lw, co, ti, tl, os⟩ := r
  simp only at HFT HGT ⊢
  obtain ⟨W2, hW2⟩ : ∃ W, W = (w.alloc (.cells #[.int .i64 kd, .int .i64 fr, .int .i64 tt, .int .i64 g, .int .i64 nd, .int .i64 tr, .int .i64 lw, .int .i64 co, .int .i64 ti, .slice tA tl.length tc, .slice oA os.length oc] 50)).alloc (.cells zeroC 50) := ⟨_, rfl⟩
  have hb0 := below_new (w := w) (.cells #[.int .i64 kd, .int .i64 fr, .int .i64 tt, .int .i64 g, .int .i64 nd, .int .i64 tr, .int .i64 lw, .int .i64 co, .int .i64 ti, .slice tA tl.length tc, .slice oA os.length oc] 50)
  have hb1' := below_new (w := w.alloc (.cells #[.int .i64 kd, .int .i64 fr, .int .i64 tt, .int .i64 g, .int .i64 nd, .int .i64 tr, .int .i64 lw, .int .i64 co, .int .i64 ti, .slice tA tl.length tc, .slice oA os.length oc] 50)) (.cells zeroC 50)
  have hB2 : Below w.heap.size w W2 := by rw [hW2]; exact hb0.trans (hb1'.mono hb0.size)
  have hq2 : W2.heap[w.heap.size]? = some (.cells #[.int .i64 kd, .int .i64 fr, .int .i64 tt, .int .i64 g, .int .i64 nd, .int .i64 tr, .int .i64 lw, .int .i64 co, .int .i64 ti, .slice tA tl.length tc, .slice oA os.length oc] 50 (0, 0)) := by rw [hW2]; exact (hb1'.block _ (by rw [asz]; exact Nat.lt_succ_self _)).trans (alloc_at w _)
  have hr2 : W2.heap[w.heap.size + 1]? = some (.cells zeroC 50 (0, 0)) := by
    have := alloc_at (w.alloc (.cells #[.int .i64 kd, .int .i64 fr, .int .i64 tt, .int .i64 g, .int .i64 nd, .int .i64 tr, .int .i64 lw, .int .i64 co, .int .i64 ti, .slice tA tl.length tc, .slice oA os.length oc] 50)) (.cells zeroC 50)
    rw [asz] at this
    rw [hW2]
    exact this
  have HQ2 : Hid (∀ W, Below W2.heap.size W2 W → W.heap[w.heap.size]? = some (.cells #[.int .i64 kd, .int .i64 fr, .int .i64 tt, .int .i64 g, .int .i64 nd, .int .i64 tr, .int .i64 lw, .int .i64 co, .int .i64 ti, .slice tA tl.length tc, .slice oA os.length oc] 50 (0, 0))) := Lib.hid (fun W hW => (hW.block _ (heap_lt hq2)).trans hq2)
  have HR2 : Hid (∀ W, Below W2.heap.size W2 W → W.heap[w.heap.size + 1]? = some (.cells zeroC 50 (0, 0))) := Lib.hid (fun W hW => (hW.block _ (heap_lt hr2)).trans hr2)
  have HB2 := Lib.hid hB2
  have HS2 : Hid (W2.heap.size = w.heap.size + 2) := Lib.hid (by rw [hW2, asz, asz])
  have HKX := Lib.hid (h.keys x (List.mem_of_getElem? hj))
  have HW2 := Lib.hid hW2
  have m3 := cell_of hq2 3
  simp at m3
  clear hfb h hj hn hb0 hb1' hB2 hq2 hr2 hW2 hG
  go_enter Tryz.func41, Tryz.ntmps41
  go_upto_region 1 with fail
  rw [← HW2.out]
  go_wp2_with fail
  refine (HGT.out _ HB2.out).mono ?_
  rintro e w3 ⟨v3, rfl, hv3, hb3⟩
  have HV3 := Lib.hid (hv3.is HKX.out)
  obtain ⟨tB, td, oB, od, rfl, k1, k2, k3, k4⟩ := hv3
  have HK3 := Lib.hid (And.intro k3 k4)
  have HNO := Lib.hid (And.intro k1 k2)
  clear k1 k2 k3 k4
  obtain ⟨W4, hW4⟩ : ∃ W, W = w3.alloc (.cells (cellM x.m tB td oB od) 50) := ⟨_, rfl⟩
  have hb4 : Below w3.heap.size w3 W4 := by rw [hW4]; exact below_new _
  have hb24 : Below W2.heap.size W2 W4 := hb3.trans (hb4.mono hb3.size)
  have hq4 := HQ2.out _ hb24
  have hx4 : W4.heap[w3.heap.size]? = some (.cells (cellM x.m tB td oB od) 50 (0, 0)) := by rw [hW4]; exact alloc_at _ _
  have HX4 := Lib.hid hx4
  have HB4 := Lib.hid (HB2.out.trans (hb24.mono HB2.out.size))
  have HS4 := Lib.hid hb24
  have HFT4 := Lib.hid (HFT.out W4 HB4.out _ (HV3.out.below hb4))
  have HNO4 := Lib.hid (And.intro (HNO.out.1.below hb4) (HNO.out.2.below hb4))
  have m0 := cell_of hq4 0
  have m1 := cell_of hq4 1
  have m2 := cell_of hq4 2
  have m3 := cell_of hq4 3
  have m4 := cell_of hq4 4
  have m5 := cell_of hq4 5
  have m6 := cell_of hq4 6
  have m7 := cell_of hq4 7
  have m8 := cell_of hq4 8
  have m9 := cell_of hq4 9
  have m10 := cell_of hq4 10
  simp at m0 m1 m2 m3 m4 m5 m6 m7 m8 m9 m10
  have n0 := cell_of hx4 0
  have n1 := cell_of hx4 1
  have n2 := cell_of hx4 2
  have n3 := cell_of hx4 3
  have n4 := cell_of hx4 4
  have n5 := cell_of hx4 5
  have n6 := cell_of hx4 6
  have n7 := cell_of hx4 7
  have n8 := cell_of hx4 8
  have n9 := cell_of hx4 9
  have n10 := cell_of hx4 10
  simp at n0 n1 n2 n3 n4 n5 n6 n7 n8 n9 n10
  have HW4 := Lib.hid hW4
  clear hb3 hb4 hb24 hq4 hx4 hW4 HGT HFT
  go_upto_region 2 with fail
  rw [← HW4.out]
  go_wp2_with fail
  refine (HFT4.out).mono ?_
  rintro e w5 ⟨rfl, hb5⟩
  have hr5 := HR2.out _ (HS4.out.trans (hb5.mono HS4.out.size))
  have hx5 := (hb5.block _ (heap_lt HX4.out)).trans HX4.out
  have HV5 := Lib.hid (And.intro (HNO4.out.1.below hb5) (HNO4.out.2.below hb5))
  have HB5 := Lib.hid (HB4.out.trans (hb5.mono HB4.out.size))
  clear m0 m1 m2 m3 m4 m5 m6 m7 m8 m9 m10 n0 n1 n2 n3 n4 n5 n6 n7 n8 n9 n10 hb5
  have r0 := cell_of hr5 0
  have r1 := cell_of hr5 1
  have r2 := cell_of hr5 2
  have r3 := cell_of hr5 3
  have r4 := cell_of hr5 4
  have r5 := cell_of hr5 5
  have r6 := cell_of hr5 6
  have r7 := cell_of hr5 7
  have r8 := cell_of hr5 8
  have r9 := cell_of hr5 9
  have r10 := cell_of hr5 10
  simp at r0 r1 r2 r3 r4 r5 r6 r7 r8 r9 r10
  have f0 := free0 hr5 0
  have f1 := free0 hr5 1
  have f2 := free0 hr5 2
  have f3 := free0 hr5 3
  have f4 := free0 hr5 4
  have f5 := free0 hr5 5
  have f6 := free0 hr5 6
  have f7 := free0 hr5 7
  have f8 := free0 hr5 8
  have f9 := free0 hr5 9
  have f10 := free0 hr5 10
  have n0 := cell_of hx5 0
  have n1 := cell_of hx5 1
  have n2 := cell_of hx5 2
  have n3 := cell_of hx5 3
  have n4 := cell_of hx5 4
  have n5 := cell_of hx5 5
  have n6 := cell_of hx5 6
  have n7 := cell_of hx5 7
  have n8 := cell_of hx5 8
  have n9 := cell_of hx5 9
  have n10 := cell_of hx5 10
  simp at n0 n1 n2 n3 n4 n5 n6 n7 n8 n9 n10
  cases fb with
  | false =>
    have HZ5 := Lib.hid (setCells_at (w.heap.size + 1) zeroC.toList [] zeroC.toList w5 rfl hr5)
    have HT5 := Lib.hid (setCells_touch (S := fun k => k = w.heap.size + 1) (a := w5) (w.heap.size + 1) (fun _ => rfl) zeroC.toList 0 w5 (Touch.refl _ _))
    clear hr5 hx5
    go_wp2_with fail
    change bodyPost _ _ _ _ _ (World.setCells _ (w.heap.size + 1) 0 zeroC.toList)
    simp only [List.length_nil, List.nil_append] at HZ5
    generalize World.setCells _ (w.heap.size + 1) 0 zeroC.toList = W6 at *
    clear r0 r1 r2 r3 r4 r5 r6 r7 r8 r9 r10 f0 f1 f2 f3 f4 f5 f6 f7 f8 f9 f10 n0 n1 n2 n3 n4 n5 n6 n7 n8 n9 n10
    have j0 := cell_of HZ5.out 0
    have j1 := cell_of HZ5.out 1
    have j2 := cell_of HZ5.out 2
    have j3 := cell_of HZ5.out 3
    have j4 := cell_of HZ5.out 4
    have j5 := cell_of HZ5.out 5
    have j6 := cell_of HZ5.out 6
    have j7 := cell_of HZ5.out 7
    have j8 := cell_of HZ5.out 8
    have j9 := cell_of HZ5.out 9
    have j10 := cell_of HZ5.out 10
    simp at j0 j1 j2 j3 j4 j5 j6 j7 j8 j9 j10
    refine bodyPost_ret (v := .tuple #[zeroM, .bool false]) (by simp [results, Tryz.results41, go_sem, j0, j1, j2, j3, j4, j5, j6, j7, j8, j9, j10]) rfl ?_
    exact ⟨_, rfl, (fun h => by cases h), (fun _ => rfl), HB5.out.trans (HT5.out.below (fun i e => by omega) HB5.out.size)⟩
  | true =>
    have HZ5 := Lib.hid (setCells_at (w.heap.size + 1) (cellM x.m tB td oB od).toList [] zeroC.toList w5 rfl hr5)
    have HT5 := Lib.hid (setCells_touch (S := fun k => k = w.heap.size + 1) (a := w5) (w.heap.size + 1) (fun _ => rfl) (cellM x.m tB td oB od).toList 0 w5 (Touch.refl _ _))
    clear hr5 hx5
    go_wp2_with fail
    change bodyPost _ _ _ _ _ (World.setCells _ (w.heap.size + 1) 0 (cellM x.m tB td oB od).toList)
    simp only [List.length_nil, List.nil_append] at HZ5
    generalize World.setCells _ (w.heap.size + 1) 0 (cellM x.m tB td oB od).toList = W6 at *
    clear r0 r1 r2 r3 r4 r5 r6 r7 r8 r9 r10 f0 f1 f2 f3 f4 f5 f6 f7 f8 f9 f10 n0 n1 n2 n3 n4 n5 n6 n7 n8 n9 n10
    have j0 := cell_of HZ5.out 0
    have j1 := cell_of HZ5.out 1
    have j2 := cell_of HZ5.out 2
    have j3 := cell_of HZ5.out 3
    have j4 := cell_of HZ5.out 4
    have j5 := cell_of HZ5.out 5
    have j6 := cell_of HZ5.out 6
    have j7 := cell_of HZ5.out 7
    have j8 := cell_of HZ5.out 8
    have j9 := cell_of HZ5.out 9
    have j10 := cell_of HZ5.out 10
    simp at j0 j1 j2 j3 j4 j5 j6 j7 j8 j9 j10
    refine bodyPost_ret (v := .tuple #[.agg (cellM x.m tB td oB od), .bool true]) (by simp [results, Tryz.results41, go_sem, j0, j1, j2, j3, j4, j5, j6, j7, j8, j9, j10]) rfl ?_
    refine ⟨_, rfl, fun _ => ?_, (fun h => by cases h), HB5.out.trans (HT5.out.below (fun i e => by omega) HB5.out.size)⟩
    refine ⟨tB, td, oB, od, rfl, HV5.out.1.touch HT5.out (fun _ a e => ?_), HV5.out.2.touch HT5.out (fun _ a e => ?_), HKX.out⟩
    · have := (HK3.out.1 a e).1
      have := HS2.out
      omega
    · have := (HK3.out.2 a e).1
      have := HS2.out
      omega
end
set_option maxRecDepth 100000 in
set_option maxHeartbeats 4000000 in
theorem fits_nil {w : World} {v : Value} {r : MsgV} (hv : MsgIs w v r) :
    Calls Tryz.prog 41 #[.pointer none, v] w fun e w' => e = .returned (.tuple #[zeroM, .bool false]) ∧ Below w.heap.size w w' := by
  have HGT := Lib.hid (fun W (n : Int) => get_nil (w := W) n)
  obtain ⟨tA, tc, oA, oc, rfl, _⟩ := hv
  obtain ⟨kd, fr, tt, g, nd, tr, lw, co, ti, tl, os⟩ := r
  simp only
  obtain ⟨W2, hW2⟩ : ∃ W, W = (w.alloc (.cells #[.int .i64 kd, .int .i64 fr, .int .i64 tt, .int .i64 g, .int .i64 nd, .int .i64 tr, .int .i64 lw, .int .i64 co, .int .i64 ti, .slice tA tl.length tc, .slice oA os.length oc] 50)).alloc (.cells zeroC 50) := ⟨_, rfl⟩
  have hb0 := below_new (w := w) (.cells #[.int .i64 kd, .int .i64 fr, .int .i64 tt, .int .i64 g, .int .i64 nd, .int .i64 tr, .int .i64 lw, .int .i64 co, .int .i64 ti, .slice tA tl.length tc, .slice oA os.length oc] 50)
  have hb1' := below_new (w := w.alloc (.cells #[.int .i64 kd, .int .i64 fr, .int .i64 tt, .int .i64 g, .int .i64 nd, .int .i64 tr, .int .i64 lw, .int .i64 co, .int .i64 ti, .slice tA tl.length tc, .slice oA os.length oc] 50)) (.cells zeroC 50)
  have hB2 : Below w.heap.size w W2 := by rw [hW2]; exact hb0.trans (hb1'.mono hb0.size)
  have hq2 : W2.heap[w.heap.size]? = some (.cells #[.int .i64 kd, .int .i64 fr, .int .i64 tt, .int .i64 g, .int .i64 nd, .int .i64 tr, .int .i64 lw, .int .i64 co, .int .i64 ti, .slice tA tl.length tc, .slice oA os.length oc] 50 (0, 0)) := by rw [hW2]; exact (hb1'.block _ (by rw [asz]; exact Nat.lt_succ_self _)).trans (alloc_at w _)
  have hr2 : W2.heap[w.heap.size + 1]? = some (.cells zeroC 50 (0, 0)) := by
    have := alloc_at (w.alloc (.cells #[.int .i64 kd, .int .i64 fr, .int .i64 tt, .int .i64 g, .int .i64 nd, .int .i64 tr, .int .i64 lw, .int .i64 co, .int .i64 ti, .slice tA tl.length tc, .slice oA os.length oc] 50)) (.cells zeroC 50)
    rw [asz] at this
    rw [hW2]
    exact this
  have HR2 : Hid (∀ W, Below W2.heap.size W2 W → W.heap[w.heap.size + 1]? = some (.cells zeroC 50 (0, 0))) := Lib.hid (fun W hW => (hW.block _ (heap_lt hr2)).trans hr2)
  have HB2 := Lib.hid hB2
  have HW2 := Lib.hid hW2
  have m3 := cell_of hq2 3
  simp at m3
  clear hb0 hb1' hB2 hq2 hr2 hW2
  go_enter Tryz.func41, Tryz.ntmps41
  go_upto_region 1 with fail
  rw [← HW2.out]
  go_wp2_with fail
  refine (HGT.out _ _).mono ?_
  rintro e w3 ⟨rfl, hb3⟩
  obtain ⟨W4, hW4⟩ : ∃ W, W = w3.alloc (.cells zeroC 50) := ⟨_, rfl⟩
  have hb4 : Below w3.heap.size w3 W4 := by rw [hW4]; exact below_new _
  have hb24 : Below W2.heap.size W2 W4 := hb3.trans (hb4.mono hb3.size)
  have hr5 := HR2.out _ hb24
  have HB5 := Lib.hid (HB2.out.trans (hb24.mono HB2.out.size))
  have HW4 := Lib.hid hW4
  have HZ5 := Lib.hid (setCells_at (w.heap.size + 1) zeroC.toList [] zeroC.toList W4 rfl hr5)
  have HT5 := Lib.hid (setCells_touch (S := fun k => k = w.heap.size + 1) (a := W4) (w.heap.size + 1) (fun _ => rfl) zeroC.toList 0 W4 (Touch.refl _ _))
  have r0 := cell_of hr5 0
  have r1 := cell_of hr5 1
  have r2 := cell_of hr5 2
  have r3 := cell_of hr5 3
  have r4 := cell_of hr5 4
  have r5 := cell_of hr5 5
  have r6 := cell_of hr5 6
  have r7 := cell_of hr5 7
  have r8 := cell_of hr5 8
  have r9 := cell_of hr5 9
  have r10 := cell_of hr5 10
  simp at r0 r1 r2 r3 r4 r5 r6 r7 r8 r9 r10
  have f0 := free0 hr5 0
  have f1 := free0 hr5 1
  have f2 := free0 hr5 2
  have f3 := free0 hr5 3
  have f4 := free0 hr5 4
  have f5 := free0 hr5 5
  have f6 := free0 hr5 6
  have f7 := free0 hr5 7
  have f8 := free0 hr5 8
  have f9 := free0 hr5 9
  have f10 := free0 hr5 10
  clear hb3 hb4 hb24 hr5 hW4
  go_upto_region 2 with fail
  rw [← HW4.out]
  go_wp2_with fail
  change bodyPost _ _ _ _ _ (World.setCells _ (w.heap.size + 1) 0 zeroC.toList)
  simp only [List.length_nil, List.nil_append] at HZ5
  generalize World.setCells _ (w.heap.size + 1) 0 zeroC.toList = W6 at *
  clear r0 r1 r2 r3 r4 r5 r6 r7 r8 r9 r10 f0 f1 f2 f3 f4 f5 f6 f7 f8 f9 f10
  have j0 := cell_of HZ5.out 0
  have j1 := cell_of HZ5.out 1
  have j2 := cell_of HZ5.out 2
  have j3 := cell_of HZ5.out 3
  have j4 := cell_of HZ5.out 4
  have j5 := cell_of HZ5.out 5
  have j6 := cell_of HZ5.out 6
  have j7 := cell_of HZ5.out 7
  have j8 := cell_of HZ5.out 8
  have j9 := cell_of HZ5.out 9
  have j10 := cell_of HZ5.out 10
  simp at j0 j1 j2 j3 j4 j5 j6 j7 j8 j9 j10
  refine bodyPost_ret (v := .tuple #[zeroM, .bool false]) (by simp [results, Tryz.results41, go_sem, j0, j1, j2, j3, j4, j5, j6, j7, j8, j9, j10]) rfl ?_
  exact ⟨rfl, HB5.out.trans (HT5.out.below (fun i e => by omega) HB5.out.size)⟩
set_option maxRecDepth 100000 in
set_option maxHeartbeats 4000000 in
theorem done_nil {w : World} (n : Int) : Calls Tryz.prog 43 #[.pointer none, .int .i64 n] w fun e w' => e = .returned (.bool false) ∧ Below w.heap.size w w' := by
  have HGT := Lib.hid (get_nil (w := w) n)
  go_enter Tryz.func43, Tryz.ntmps43
  go_wp2_with fail
  refine (HGT.out).mono ?_
  rintro e w3 ⟨rfl, hb3⟩
  have HB := Lib.hid (hb3.trans ((below_new (w := w3) (.cells zeroC 50)).mono hb3.size))
  clear hb3
  go_wp2_with fail
  go_ret
  exact ⟨rfl, HB.out⟩
set_option maxRecDepth 100000 in
set_option maxHeartbeats 4000000 in
theorem due_nil {w : World} (now low : Int) : Calls Tryz.prog 40 #[.pointer none, .int .i64 now, .int .i64 low] w fun e w' => e = .returned (.slice none 0 0) ∧ Below w.heap.size w w' := by
  by_cases h1 : 0 ≤ now ∧ now ≤ 1099511627776
  · have HW1 := Lib.hid (fun W => pwithin_ok (w := W) h1.1 h1.2)
    by_cases h2 : 1 ≤ low ∧ low ≤ 1048577
    · have HW2 := Lib.hid (fun W => pwithin_ok (w := W) h2.1 h2.2)
      have HOP := Lib.hid (fun W => open_nil W)
      clear h1 h2
      go_enter Tryz.func40, Tryz.ntmps40
      go_wp2_with fail
      refine (HW1.out _).mono ?_
      rintro e w1 ⟨rfl, rfl⟩
      go_wp2_with fail
      refine (HW2.out _).mono ?_
      rintro e w2 ⟨rfl, rfl⟩
      go_wp2_with fail
      refine (HOP.out _).mono ?_
      rintro e w3 ⟨rfl, rfl⟩
      go_wp2_with fail
      refine wp_loop_rounds 1 ?_
      rw [rounds_succ]
      go_wp2_with fail
      go_ret
      exact ⟨rfl, Below.refl _ _⟩
    · have HW2 := Lib.hid (fun W => pwithin_no (w := W) h2)
      clear h1 h2
      go_enter Tryz.func40, Tryz.ntmps40
      go_wp2_with fail
      refine (HW1.out _).mono ?_
      rintro e w1 ⟨rfl, rfl⟩
      go_wp2_with fail
      refine (HW2.out _).mono ?_
      rintro e w2 ⟨v, rfl, ⟨t, u, rfl⟩, _, hb⟩
      have HB := Lib.hid hb
      clear hb
      go_wp2_with fail
      go_ret
      exact ⟨rfl, HB.out⟩
  · have HW1 := Lib.hid (fun W => pwithin_no (w := W) h1)
    clear h1
    go_enter Tryz.func40, Tryz.ntmps40
    go_wp2_with fail
    refine (HW1.out _).mono ?_
    rintro e w2 ⟨v, rfl, ⟨t, u, rfl⟩, _, hb⟩
    have HB := Lib.hid hb
    clear hb
    go_wp2_with fail
    go_ret
    exact ⟨rfl, HB.out⟩
end Go.Proofs.YtabfbnpbgdlinaaGreatDoor
