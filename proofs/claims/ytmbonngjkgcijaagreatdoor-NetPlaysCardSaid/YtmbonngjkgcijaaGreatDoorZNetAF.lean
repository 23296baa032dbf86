/- The law's step: one call of both. (gennetaf.py wrote it.) -/
import Derived.Test.YtmbonngjkgcijaaGreatDoorZNetAE
import Derived.Test.YtmbonngjkgcijaaGreatDoorZNetP
set_option linter.unusedSimpArgs false
set_option linter.unusedVariables false
set_option linter.unnecessarySimpa false
namespace Go.Proofs.YtmbonngjkgcijaaGreatDoor
open Go.RowKit Go.Shelf
section
variable {w0 w : World} {b r : Nat} {most : Int} {C : List Int} {Q : List RP} {ct : Nat → Bool} {v : Value} {F : Nat → Prop}
theorem NPF.keep {w' : World} {P : List P3} (h : NPF w0 w b r most P C Q ct v F) (hb : Below w.heap.size w w') : NPF w0 w' b r most P C Q ct v F where
  net := h.net.below hb
  ref := h.ref.below hb
  inr := h.inr
  own := h.own
  by_ := fun x hx W hW => h.by_ x hx W (((Touch.of_below hb : Touch (NpT w0 F r v) w w')).trans hW (fun k _ e => e))
set_option maxRecDepth 100000 in
set_option maxHeartbeats 16000000 in
theorem lstep_any (hG : Glob w0) (hM : Mov w0) (h : NPF w0 w b r most (Q.map RP.p) C Q ct v F) (hC : CutOk C ct) (hQ : QInv Q) (hl : Q.length ≤ 1000) (hmo : most ≤ 1024) {o : OpN} {tA oA : Option Addr} {tc oc : Nat} (hnm0 : NumsAt w0 (.slice tA o.m.tl.length tc) o.m.tl) (hops0 : OpsAt w0 (.slice oA o.m.os.length oc) o.m.os) (hin : MsgIn o.m) (hti : o.m.ti ≤ 9223372036854775807) (hoi : -9223372036854775808 ≤ o.i ∧ o.i ≤ 9223372036854775807) (hok : -9223372036854775808 ≤ o.k ∧ o.k ≤ 9223372036854775807) :
    Calls Tryz.prog 14 #[.pointer (some ⟨b, 0, none⟩), .pointer (some ⟨r, 0, none⟩), .agg (cellN o tA tc oA oc)] w fun e w' => e = .returned (.bool true) ∧ Alike w0 w' b r most (Q.length + 1) := by
  have hnm := hnm0.below h.net.bel
  have hops := hops0.below h.net.bel
  have HN0 := Lib.hid hnm0; have HBW := Lib.hid h.net.bel; clear hnm0 hops0; have hb1 := below_new (w := w) (.cells (cellN o tA tc oA oc) 39)
  have hat1 := alloc_at w (.cells (cellN o tA tc oA oc) 39)
  obtain ⟨W1, hW1⟩ : ∃ W, W = w.alloc (.cells (cellN o tA tc oA oc) 39) := ⟨_, rfl⟩
  rw [← hW1] at hb1 hat1; have HW1 := Lib.hid hW1; have HB1 := Lib.hid hb1; have HA1 := Lib.hid hat1; have HG := Lib.hid (And.intro hG hM)
  have HP := Lib.hid h; have HCQ := Lib.hid (And.intro hC (And.intro hQ hl))
  have HMO := Lib.hid hmo; have HMI := Lib.hid (And.intro (nmsg_cut hin) hti)
  have HNO := Lib.hid (And.intro hnm hops)
  obtain ⟨vA, cp, hv, _⟩ := id (RowIs.form h.ref.row)
  have HKR : Hid (∀ W, Below w.heap.size w W → W.cell? ⟨r, 1, none⟩ = some (.slice vA Q.length cp)) := Lib.hid (fun W hW => (cell_of (h.ref.below hW).head 1).trans (congrArg some hv))
  have HNR := Lib.hid (fun W => near_any (w := W) o Q.length (by omega) hoi hok tA oA tc oc)
  have HRL : Hid (r < w.heap.size) := Lib.hid (heap_lt h.ref.head)
  clear hb1 hat1 hW1 hG hM h hC hQ hl hmo hnm hops hin hti hoi hok hv; go_enter Tryz.func14, Tryz.ntmps14
  go_upto_region 1 with fail
  change Code.wp _ _ _ _ (World.alloc w (.cells (cellN o tA tc oA oc) 39))
  rw [← HW1.out]; go_cut [] (fun wx => ∃ i' k', wx.heap[w.heap.size]? = some (.cells (cellN { o with i := i', k := k' } tA tc oA oc) 39 (0, 0)) ∧ Below w.heap.size w wx)
  case first =>
    have hd2 : W1.drew.heap[w.heap.size]? = some (.cells (cellN o tA tc oA oc) 39 (0, 0)) := HA1.out
    have kr := HKR.out W1.drew (below_drew HB1.out)
    have c0 := cell_of hd2 0; have c1 := cell_of hd2 1; have c2 := cell_of hd2 2; have c3 := cell_of hd2 3; have c4 := cell_of hd2 4; have c5 := cell_of hd2 5; have c6 := cell_of hd2 6; have c7 := cell_of hd2 7; have c8 := cell_of hd2 8; have c9 := cell_of hd2 9; have c10 := cell_of hd2 10; have c11 := cell_of hd2 11; have c12 := cell_of hd2 12; have c13 := cell_of hd2 13; have c14 := cell_of hd2 14
    simp at c0 c1 c2 c3 c4 c5 c6 c7 c8 c9 c10 c11 c12 c13 c14
    refine wp_only ?_
    refine wp_region_held_drew (S := fun _ => True) (by kernel_rfl) trivial (fun hHeld => ?_)
    refine tkH (i := 1) (oi := ⟨some 14, .move (.tmp 1), 28, "law.go:92", #[], none⟩) (v := ?vv1) ?hy1 ?rest1
    case hy1 => (refine Or.inl ⟨by rfl, ?_⟩; intro W hSw; (try dsimp only at hSw); go_simp; (try with_reducible rfl))
    try simp only [Act.put, pzz]
    refine tkH (i := 2) (oi := ⟨some 15, .nilCheck (.tmp 14), 0, "law.go:92", #[⟨1, .data⟩], none⟩) (v := ?vv2) ?hy2 ?rest2
    case hy2 => (refine Or.inl ⟨by rfl, ?_⟩; intro W hSw; (try dsimp only at hSw); go_simp; (try with_reducible rfl))
    try simp only [Act.put, pzz]
    refine tkH (i := 3) (oi := ⟨some 16, .fieldAddr 32 (.tmp 15) 1, 0, "law.go:92", #[⟨2, .data⟩], none⟩) (v := ?vv3) ?hy3 ?rest3
    case hy3 => (refine Or.inl ⟨by rfl, ?_⟩; intro W hSw; (try dsimp only at hSw); go_simp; (try with_reducible rfl))
    try simp only [Act.put, pzz]
    refine wpAnyH_ready (rs := [0, 4]) (by kernel_rfl) (by simp) ?_
    refine AllReadyH.cons (o := ⟨some 13, .load 39 (.tmp 5), 39, "law.go:92", #[], none⟩) rfl (fun K hK => ?step4) ?more4
    ((go_simp; go_wp2_with fail))
    refine hK.out _ _ ?hS4 (fun hHeld => ?rr4)
    case hS4 => (exact trivial)
    clear hK K; try simp only [Act.put, pzz]
    · refine wpAnyH_ready (rs := [4]) (by kernel_rfl) (by simp) ?_
      refine AllReadyH.cons (o := ⟨some 17, .load 29 (.tmp 16), 29, "law.go:92", #[⟨3, .data⟩], none⟩) rfl (fun K hK => ?step5) ?more5
      case more5 => exact AllReadyH.nil
      ((go_simp; go_wp2_with fail))
      refine hK.out _ _ ?hS5 (fun hHeld => ?rr5)
      case hS5 => (exact trivial)
      clear hK K; try simp only [Act.put, pzz]
      refine tkH (i := 5) (oi := ⟨some 18, .call { callee := .builtin .len, args := #[.tmp 17], argTypes := #[29] }, 3, "law.go:92", #[⟨4, .data⟩], none⟩) (v := ?vv6) ?hy6 ?rest6
      case hy6 => (refine Or.inl ⟨by rfl, ?_⟩; intro W hSw; (try dsimp only at hSw); go_simp; (try with_reducible rfl))
      try simp only [Act.put, pzz]
      refine wpAnyH_ready (rs := [6]) (by kernel_rfl) (by simp) ?_
      refine AllReadyH.cons (o := ⟨some 19, .call { callee := .value (.func 15), args := #[.tmp 13, .tmp 18], argTypes := #[39, 3] }, 39, "law.go:92", #[⟨0, .data⟩, ⟨5, .data⟩], none⟩) rfl (fun K hK => ?step7) ?more7
      case more7 => exact AllReadyH.nil
      ((go_simp; go_at_call 15; refine (HNR.out _).mono ?_; rintro e x2 ⟨i', k', rfl, hi', hk', hb2⟩; have X2 := Lib.hid (And.intro hi' (And.intro hk' hb2)); clear hi' hk' hb2; go_wp2_with fail))
      refine hK.out _ _ ?hS7 (fun hHeld => ?rr7)
      case hS7 => (exact trivial)
      clear hK K; try simp only [Act.put, pzz]
      have hat3 := (X2.out.2.2.block _ (heap_lt hd2)).trans hd2
      have e0 := cell_of hat3 0; have e1 := cell_of hat3 1; have e2 := cell_of hat3 2; have e3 := cell_of hat3 3; have e4 := cell_of hat3 4; have e5 := cell_of hat3 5; have e6 := cell_of hat3 6; have e7 := cell_of hat3 7; have e8 := cell_of hat3 8; have e9 := cell_of hat3 9; have e10 := cell_of hat3 10; have e11 := cell_of hat3 11; have e12 := cell_of hat3 12; have e13 := cell_of hat3 13; have e14 := cell_of hat3 14
      simp at e0 e1 e2 e3 e4 e5 e6 e7 e8 e9 e10 e11 e12 e13 e14
      have f0 := free0 hat3 0; have f1 := free0 hat3 1; have f2 := free0 hat3 2; have f3 := free0 hat3 3; have f4 := free0 hat3 4; have f5 := free0 hat3 5; have f6 := free0 hat3 6; have f7 := free0 hat3 7; have f8 := free0 hat3 8; have f9 := free0 hat3 9; have f10 := free0 hat3 10; have f11 := free0 hat3 11; have f12 := free0 hat3 12; have f13 := free0 hat3 13; have f14 := free0 hat3 14
      clear c0 c1 c2 c3 c4 c5 c6 c7 c8 c9 c10 c11 c12 c13 c14 kr; refine wpAnyH_ready (rs := [7]) (by kernel_rfl) (by simp) ?_
      refine AllReadyH.cons (o := ⟨none, .store 39 (.tmp 5) (.tmp 19), 0, "law.go:92", #[⟨6, .data⟩, ⟨6, .chain⟩, ⟨0, .phase⟩, ⟨1, .phase⟩, ⟨2, .phase⟩, ⟨3, .phase⟩, ⟨4, .phase⟩, ⟨5, .phase⟩, ⟨6, .phase⟩], none⟩) rfl (fun K hK => ?step8) ?more8
      case more8 => exact AllReadyH.nil
      ((go_simp; go_wp2_with fail))
      refine hK.out _ _ ?hS8 (fun hHeld => ?rr8)
      case hS8 => (exact trivial)
      clear hK K; try simp only [Act.put, pzz]
      clear e0 e1 e2 e3 e4 e5 e6 e7 e8 e9 e10 e11 e12 e13 e14 f0 f1 f2 f3 f4 f5 f6 f7 f8 f9 f10 f11 f12 f13 f14; refine wpAnyH_done (by kernel_rfl) ?_ _
      clear hHeld; dsimp only [onlyN]; have hZ4 := setCells_at w.heap.size (cellN { o with i := i', k := k' } tA tc oA oc).toList [] (cellN o tA tc oA oc).toList x2 rfl hat3
      have hT4 := setCells_touch (S := fun k => k = w.heap.size) (a := x2) w.heap.size (fun _ => rfl) (cellN { o with i := i', k := k' } tA tc oA oc).toList 0 x2 (Touch.refl _ _)
      simp only [List.length_nil, List.nil_append] at hZ4
      have hb23 : Below w.heap.size w x2 := (below_drew HB1.out).trans (X2.out.2.2.mono HB1.out.size)
      go_wp2_with fail
      go_meet
      exact ⟨i', k', hZ4, hb23.trans (hT4.below (fun i e => by rw [e]; exact Nat.le_refl _) hb23.size)⟩
    · refine AllReadyH.cons (o := ⟨some 17, .load 29 (.tmp 16), 29, "law.go:92", #[⟨3, .data⟩], none⟩) rfl (fun K hK => ?step9) ?more9
      case more9 => exact AllReadyH.nil
      ((go_simp; go_wp2_with fail))
      refine hK.out _ _ ?hS9 (fun hHeld => ?rr9)
      case hS9 => (exact trivial)
      clear hK K; try simp only [Act.put, pzz]
      refine tkH (i := 5) (oi := ⟨some 18, .call { callee := .builtin .len, args := #[.tmp 17], argTypes := #[29] }, 3, "law.go:92", #[⟨4, .data⟩], none⟩) (v := ?vv10) ?hy10 ?rest10
      case hy10 => (refine Or.inl ⟨by rfl, ?_⟩; intro W hSw; (try dsimp only at hSw); go_simp; (try with_reducible rfl))
      try simp only [Act.put, pzz]
      refine wpAnyH_ready (rs := [0]) (by kernel_rfl) (by simp) ?_
      refine AllReadyH.cons (o := ⟨some 13, .load 39 (.tmp 5), 39, "law.go:92", #[], none⟩) rfl (fun K hK => ?step11) ?more11
      case more11 => exact AllReadyH.nil
      ((go_simp; go_wp2_with fail))
      refine hK.out _ _ ?hS11 (fun hHeld => ?rr11)
      case hS11 => (exact trivial)
      clear hK K; try simp only [Act.put, pzz]
      refine wpAnyH_ready (rs := [6]) (by kernel_rfl) (by simp) ?_
      refine AllReadyH.cons (o := ⟨some 19, .call { callee := .value (.func 15), args := #[.tmp 13, .tmp 18], argTypes := #[39, 3] }, 39, "law.go:92", #[⟨0, .data⟩, ⟨5, .data⟩], none⟩) rfl (fun K hK => ?step12) ?more12
      case more12 => exact AllReadyH.nil
      ((go_simp; go_at_call 15; refine (HNR.out _).mono ?_; rintro e x2 ⟨i', k', rfl, hi', hk', hb2⟩; have X2 := Lib.hid (And.intro hi' (And.intro hk' hb2)); clear hi' hk' hb2; go_wp2_with fail))
      refine hK.out _ _ ?hS12 (fun hHeld => ?rr12)
      case hS12 => (exact trivial)
      clear hK K; try simp only [Act.put, pzz]
      have hat3 := (X2.out.2.2.block _ (heap_lt hd2)).trans hd2
      have e0 := cell_of hat3 0; have e1 := cell_of hat3 1; have e2 := cell_of hat3 2; have e3 := cell_of hat3 3; have e4 := cell_of hat3 4; have e5 := cell_of hat3 5; have e6 := cell_of hat3 6; have e7 := cell_of hat3 7; have e8 := cell_of hat3 8; have e9 := cell_of hat3 9; have e10 := cell_of hat3 10; have e11 := cell_of hat3 11; have e12 := cell_of hat3 12; have e13 := cell_of hat3 13; have e14 := cell_of hat3 14
      simp at e0 e1 e2 e3 e4 e5 e6 e7 e8 e9 e10 e11 e12 e13 e14
      have f0 := free0 hat3 0; have f1 := free0 hat3 1; have f2 := free0 hat3 2; have f3 := free0 hat3 3; have f4 := free0 hat3 4; have f5 := free0 hat3 5; have f6 := free0 hat3 6; have f7 := free0 hat3 7; have f8 := free0 hat3 8; have f9 := free0 hat3 9; have f10 := free0 hat3 10; have f11 := free0 hat3 11; have f12 := free0 hat3 12; have f13 := free0 hat3 13; have f14 := free0 hat3 14
      clear c0 c1 c2 c3 c4 c5 c6 c7 c8 c9 c10 c11 c12 c13 c14 kr; refine wpAnyH_ready (rs := [7]) (by kernel_rfl) (by simp) ?_
      refine AllReadyH.cons (o := ⟨none, .store 39 (.tmp 5) (.tmp 19), 0, "law.go:92", #[⟨6, .data⟩, ⟨6, .chain⟩, ⟨0, .phase⟩, ⟨1, .phase⟩, ⟨2, .phase⟩, ⟨3, .phase⟩, ⟨4, .phase⟩, ⟨5, .phase⟩, ⟨6, .phase⟩], none⟩) rfl (fun K hK => ?step13) ?more13
      case more13 => exact AllReadyH.nil
      ((go_simp; go_wp2_with fail))
      refine hK.out _ _ ?hS13 (fun hHeld => ?rr13)
      case hS13 => (exact trivial)
      clear hK K; try simp only [Act.put, pzz]
      clear e0 e1 e2 e3 e4 e5 e6 e7 e8 e9 e10 e11 e12 e13 e14 f0 f1 f2 f3 f4 f5 f6 f7 f8 f9 f10 f11 f12 f13 f14; refine wpAnyH_done (by kernel_rfl) ?_ _
      clear hHeld; dsimp only [onlyN]; have hZ4 := setCells_at w.heap.size (cellN { o with i := i', k := k' } tA tc oA oc).toList [] (cellN o tA tc oA oc).toList x2 rfl hat3
      have hT4 := setCells_touch (S := fun k => k = w.heap.size) (a := x2) w.heap.size (fun _ => rfl) (cellN { o with i := i', k := k' } tA tc oA oc).toList 0 x2 (Touch.refl _ _)
      simp only [List.length_nil, List.nil_append] at hZ4
      have hb23 : Below w.heap.size w x2 := (below_drew HB1.out).trans (X2.out.2.2.mono HB1.out.size)
      go_wp2_with fail
      go_meet
      exact ⟨i', k', hZ4, hb23.trans (hT4.below (fun i e => by rw [e]; exact Nat.le_refl _) hb23.size)⟩
  case rest =>
  obtain ⟨i', k', hat3, hb3⟩ := hcut
  obtain ⟨kd, nr, m, oi, ok⟩ := o
  simp only at hat3 HNO HMI
  have HCU := Lib.hid (lawcut_cells (w := wc) (m := m) (HNO.out.1.below hb3) (HNO.out.2.below hb3))
  have HNU := Lib.hid (cut_nums HNO.out.1)
  have HNV := Lib.hid (cut_nums HN0.out)
  have HA3 := Lib.hid hat3; have HB3 := Lib.hid hb3; have c0 := cell_of hat3 0; have c1 := cell_of hat3 1; have c2 := cell_of hat3 2; have c3 := cell_of hat3 3; have c4 := cell_of hat3 4; have c5 := cell_of hat3 5; have c6 := cell_of hat3 6; have c7 := cell_of hat3 7; have c8 := cell_of hat3 8; have c9 := cell_of hat3 9; have c10 := cell_of hat3 10; have c11 := cell_of hat3 11; have c12 := cell_of hat3 12; have c13 := cell_of hat3 13; have c14 := cell_of hat3 14
  simp at c0 c1 c2 c3 c4 c5 c6 c7 c8 c9 c10 c11 c12 c13 c14
  clear hat3 hb3; go_upto_region 2 with fail
  clear c0 c1 c13 c14; go_wp2_with fail
  refine (HCU.out).mono ?_
  rintro e w4 ⟨oB, od, rfl, _, hro, hb4⟩
  clear c2 c3 c4 c5 c6 c7 c8 c9 c10 c11 c12; have hb5 := below_new (w := w4) (.cells (cellM (cutM m) tA tc oB od) 37)
  have hat5 := alloc_at w4 (.cells (cellM (cutM m) tA tc oB od) 37)
  obtain ⟨W5, hW5⟩ : ∃ W, W = w4.alloc (.cells (cellM (cutM m) tA tc oB od) 37) := ⟨_, rfl⟩
  rw [← hW5] at hb5 hat5; have hb35 : Below wc.heap.size wc W5 := hb4.trans (hb5.mono hb4.size)
  have hB5 := HB3.out.trans (hb35.mono HB3.out.size)
  have HM5 : Hid (MsgIs W5 (.agg (cellM (cutM m) tA tc oB od)) (cutM m)) := Lib.hid ⟨tA, tc, oB, od, rfl, HNU.out.below hB5, RowIs.ops (hro.1.below hb5) rfl, nkeys_cut m⟩
  have HO5 := Lib.hid ((hb35.block _ (heap_lt HA3.out)).trans HA3.out)
  have HA5 := Lib.hid hat5; have HB5 := Lib.hid hB5; have HRO := Lib.hid (And.intro hro (And.intro hb5 hb4.size))
  have HW5 := Lib.hid hW5; have HP5 := Lib.hid (HP.out.more hB5)
  have HOF : Hid (F w.heap.size ∨ (w.heap.size ≤ w.heap.size ∧ w.heap.size < W5.heap.size)) := Lib.hid (.inr ⟨Nat.le_refl _, heap_lt HO5.out⟩)
  have HOR : Hid (¬ w.heap.size = r) := Lib.hid (by have := HRL.out; omega)
  clear hro hb4 hb5 hat5 hW5 hb35 hB5 HCU; go_upto_region 3 with fail
  rw [← HW5.out]; have c0 := cell_of HO5.out 0; have c13 := cell_of HO5.out 13; have c14 := cell_of HO5.out 14
  simp at c0 c13 c14
  go_upto_block 0 with fail
  clear c13 c14; by_cases k01 : kd = 0 ∨ kd = 1
  · skip
    rcases k01 with rfl | rfl
    · go_upto_region 6 with fail
      have d0 := cell_of HA5.out 0; have d1 := cell_of HA5.out 1; have d2 := cell_of HA5.out 2; have d3 := cell_of HA5.out 3; have d4 := cell_of HA5.out 4; have d5 := cell_of HA5.out 5; have d6 := cell_of HA5.out 6; have d7 := cell_of HA5.out 7; have d8 := cell_of HA5.out 8; have d9 := cell_of HA5.out 9; have d10 := cell_of HA5.out 10
      simp at d0 d1 d2 d3 d4 d5 d6 d7 d8 d9 d10
      have HOU := Lib.hid (ours_any HM5.out)
      go_wp2_with fail
      refine (HOU.out).mono ?_
      rintro e w6 ⟨rfl, hb6⟩
      clear d0 d1 d2 d3 d4 d5 d6 d7 d8 d9 d10; have hb7 := below_new (w := w6) (.cells (cellM (cutM m) tA tc oB od) 50)
      have hat7 := alloc_at w6 (.cells (cellM (cutM m) tA tc oB od) 50)
      obtain ⟨W7, hW7⟩ : ∃ W, W = w6.alloc (.cells (cellM (cutM m) tA tc oB od) 50) := ⟨_, rfl⟩
      rw [← hW7] at hb7 hat7; have hb57 : Below W5.heap.size W5 W7 := hb6.trans (hb7.mono hb6.size)
      have hbr7 : Below w.heap.size w W7 := HB5.out.trans (hb57.mono HB5.out.size)
      have hP7 := HP5.out.more hb57
      have hro := HRO.out.1
      have hb47 : Below w4.heap.size w4 W7 := HRO.out.2.1.trans (hb57.mono HRO.out.2.1.size)
      have hst := cut_stays (sv := .slice none 0 0) HNV.out hro (HBW.out.trans (hbr7.mono HBW.out.size)) (fun k h1 h2 => hb47.block k h2) hb47.size (F := fun k => (F k ∨ (w.heap.size ≤ k ∧ k < W5.heap.size)) ∨ (W5.heap.size ≤ k ∧ k < W7.heap.size)) (fun k h1 h2 => .inl (.inr ⟨Nat.le_trans HB3.out.size h1, Nat.lt_of_lt_of_le h2 HRO.out.2.1.size⟩)) (fun k hk => by cases hk)
      have HST7 := Lib.hid hst; have hsend := nc_sends HG.out.1 HG.out.2 hP7.net HMO.out (g := w6.heap.size) (cap := 1) (ms := [cutM m]) (by simp) (by simp) (fun i' m' hi' => by
        match i', hi' with
        | 0, hi' =>
          cases hi'
          refine ⟨fun hmay => HMI.out.1, tA, tc, oB, od, fun W hW => ⟨?_, hst W (hW.mono (fun k _ e => .inl e))⟩⟩
          have hk := (hW.block _ (heap_lt hat7) (fun e => e.2 (.inr ⟨hb6.size, heap_lt hat7⟩))).trans hat7
          exact ⟨cell_of hk 0, cell_of hk 1, cell_of hk 2, cell_of hk 3, cell_of hk 4, cell_of hk 5, cell_of hk 6, cell_of hk 7, cell_of hk 8, cell_of hk 9, cell_of hk 10⟩)
      rw [List.foldl_cons, List.foldl_nil] at hsend; obtain ⟨a, hlen, hcall⟩ := send_alike (w0 := w0) (b := b) (r := r) (most := most) (v := v) HCQ.out.1 HCQ.out.2.1 HCQ.out.2.2 (m := cutM m) HMI.out.1 (by exact HMI.out.2)
      rw [hlen] at hsend; have HSE := Lib.hid hsend; have HCA := Lib.hid hcall; have HP7 := Lib.hid hP7; have HZ7 := Lib.hid ((hb57.block _ (heap_lt HA5.out)).trans HA5.out)
      have HW7 := Lib.hid hW7; clear hb6 hb7 hat7 hW7 hb57 hbr7 hP7 hro hb47 hst hsend hlen hcall; go_wp2_with fail
      rw [← HW7.out]; refine (HSE.out).mono ?_
      rintro e w8 ⟨rfl, hn8⟩
      have hz8 := (hn8.2.block _ (heap_lt HZ7.out) (fun e => e.2 (.inl (.inr ⟨Nat.le_trans HB3.out.size HRO.out.2.2, heap_lt HA5.out⟩)))).trans HZ7.out
      have c0 := cell_of hz8 0; have c1 := cell_of hz8 1; have c2 := cell_of hz8 2; have c3 := cell_of hz8 3; have c4 := cell_of hz8 4; have c5 := cell_of hz8 5; have c6 := cell_of hz8 6; have c7 := cell_of hz8 7; have c8 := cell_of hz8 8; have c9 := cell_of hz8 9; have c10 := cell_of hz8 10
      simp at c0 c1 c2 c3 c4 c5 c6 c7 c8 c9 c10
      have HR := Lib.hid (HCA.out w8 _ tA oB tc od (HP7.out.call hn8) (HST7.out w8 (hn8.2.mono (fun k _ e => .inl e))))
      clear hn8 hz8; go_upto_region 7 with fail
      cases a with
      | false =>
        simp only [if_false, Bool.false_eq_true] at *
        go_wp2_with fail
        refine (HR.out).mono ?_
        rintro e w9 ⟨rfl, hal⟩
        have HAL := Lib.hid hal; clear hal; go_wp2_with fail
        go_ret
        exact ⟨rfl, HAL.out⟩
      | true =>
        simp only [if_true] at *
        go_wp2_with fail
        refine (HR.out).mono ?_
        rintro e w9 ⟨rfl, hal⟩
        have HAL := Lib.hid hal; clear hal; go_wp2_with fail
        go_ret
        exact ⟨rfl, HAL.out⟩
    · go_upto_region 6 with fail
      have d0 := cell_of HA5.out 0; have d1 := cell_of HA5.out 1; have d2 := cell_of HA5.out 2; have d3 := cell_of HA5.out 3; have d4 := cell_of HA5.out 4; have d5 := cell_of HA5.out 5; have d6 := cell_of HA5.out 6; have d7 := cell_of HA5.out 7; have d8 := cell_of HA5.out 8; have d9 := cell_of HA5.out 9; have d10 := cell_of HA5.out 10
      simp at d0 d1 d2 d3 d4 d5 d6 d7 d8 d9 d10
      have HOU := Lib.hid (ours_any HM5.out)
      go_wp2_with fail
      refine (HOU.out).mono ?_
      rintro e w6 ⟨rfl, hb6⟩
      clear d0 d1 d2 d3 d4 d5 d6 d7 d8 d9 d10; have hb7 := below_new (w := w6) (.cells (cellM (cutM m) tA tc oB od) 50)
      have hat7 := alloc_at w6 (.cells (cellM (cutM m) tA tc oB od) 50)
      obtain ⟨W7, hW7⟩ : ∃ W, W = w6.alloc (.cells (cellM (cutM m) tA tc oB od) 50) := ⟨_, rfl⟩
      rw [← hW7] at hb7 hat7; have hb57 : Below W5.heap.size W5 W7 := hb6.trans (hb7.mono hb6.size)
      have hbr7 : Below w.heap.size w W7 := HB5.out.trans (hb57.mono HB5.out.size)
      have hP7 := HP5.out.more hb57
      have hro := HRO.out.1
      have hb47 : Below w4.heap.size w4 W7 := HRO.out.2.1.trans (hb57.mono HRO.out.2.1.size)
      have hst := cut_stays (sv := .slice none 0 0) HNV.out hro (HBW.out.trans (hbr7.mono HBW.out.size)) (fun k h1 h2 => hb47.block k h2) hb47.size (F := fun k => (F k ∨ (w.heap.size ≤ k ∧ k < W5.heap.size)) ∨ (W5.heap.size ≤ k ∧ k < W7.heap.size)) (fun k h1 h2 => .inl (.inr ⟨Nat.le_trans HB3.out.size h1, Nat.lt_of_lt_of_le h2 HRO.out.2.1.size⟩)) (fun k hk => by cases hk)
      have HST7 := Lib.hid hst; have hsend := nc_sends HG.out.1 HG.out.2 hP7.net HMO.out (g := w6.heap.size) (cap := 1) (ms := [cutM m]) (by simp) (by simp) (fun i' m' hi' => by
        match i', hi' with
        | 0, hi' =>
          cases hi'
          refine ⟨fun hmay => HMI.out.1, tA, tc, oB, od, fun W hW => ⟨?_, hst W (hW.mono (fun k _ e => .inl e))⟩⟩
          have hk := (hW.block _ (heap_lt hat7) (fun e => e.2 (.inr ⟨hb6.size, heap_lt hat7⟩))).trans hat7
          exact ⟨cell_of hk 0, cell_of hk 1, cell_of hk 2, cell_of hk 3, cell_of hk 4, cell_of hk 5, cell_of hk 6, cell_of hk 7, cell_of hk 8, cell_of hk 9, cell_of hk 10⟩)
      rw [List.foldl_cons, List.foldl_nil] at hsend; obtain ⟨a, hlen, hcall⟩ := send_alike (w0 := w0) (b := b) (r := r) (most := most) (v := v) HCQ.out.1 HCQ.out.2.1 HCQ.out.2.2 (m := cutM m) HMI.out.1 (by exact HMI.out.2)
      rw [hlen] at hsend; have HSE := Lib.hid hsend; have HCA := Lib.hid hcall; have HP7 := Lib.hid hP7; have HZ7 := Lib.hid ((hb57.block _ (heap_lt HA5.out)).trans HA5.out)
      have HW7 := Lib.hid hW7; clear hb6 hb7 hat7 hW7 hb57 hbr7 hP7 hro hb47 hst hsend hlen hcall; go_wp2_with fail
      rw [← HW7.out]; refine (HSE.out).mono ?_
      rintro e w8 ⟨rfl, hn8⟩
      have hz8 := (hn8.2.block _ (heap_lt HZ7.out) (fun e => e.2 (.inl (.inr ⟨Nat.le_trans HB3.out.size HRO.out.2.2, heap_lt HA5.out⟩)))).trans HZ7.out
      have c0 := cell_of hz8 0; have c1 := cell_of hz8 1; have c2 := cell_of hz8 2; have c3 := cell_of hz8 3; have c4 := cell_of hz8 4; have c5 := cell_of hz8 5; have c6 := cell_of hz8 6; have c7 := cell_of hz8 7; have c8 := cell_of hz8 8; have c9 := cell_of hz8 9; have c10 := cell_of hz8 10
      simp at c0 c1 c2 c3 c4 c5 c6 c7 c8 c9 c10
      have HR := Lib.hid (HCA.out w8 _ tA oB tc od (HP7.out.call hn8) (HST7.out w8 (hn8.2.mono (fun k _ e => .inl e))))
      clear hn8 hz8; go_upto_region 7 with fail
      cases a with
      | false =>
        simp only [if_false, Bool.false_eq_true] at *
        go_wp2_with fail
        refine (HR.out).mono ?_
        rintro e w9 ⟨rfl, hal⟩
        have HAL := Lib.hid hal; clear hal; go_wp2_with fail
        go_ret
        exact ⟨rfl, HAL.out⟩
      | true =>
        simp only [if_true] at *
        go_wp2_with fail
        refine (HR.out).mono ?_
        rintro e w9 ⟨rfl, hal⟩
        have HAL := Lib.hid hal; clear hal; go_wp2_with fail
        go_ret
        exact ⟨rfl, HAL.out⟩
  by_cases k23 : kd = 2 ∨ kd = 3
  · clear k01
    rcases k23 with rfl | rfl
    · have c13 := cell_of HO5.out 13
      simp at c13
      obtain ⟨mm, cd, P', ht1, ht2⟩ := two_deliver HG.out.1 HG.out.2 HP5.out HCQ.out.1 HCQ.out.2.1 HCQ.out.2.2 i'
      have HT1 := Lib.hid ht1; have HT2 := Lib.hid ht2; clear ht1 ht2; go_upto_region 10 with fail
      go_wp2_with fail
      refine (HT1.out).mono ?_
      rintro e w6 ⟨xA, xc, yA, yc, rfl, hn6, hm6⟩
      have hb7 := below_new (w := w6) (.cells (cellM mm xA xc yA yc) 50)
      have hat7 := alloc_at w6 (.cells (cellM mm xA xc yA yc) 50)
      obtain ⟨W7, hW7⟩ : ∃ W, W = w6.alloc (.cells (cellM mm xA xc yA yc) 50) := ⟨_, rfl⟩
      rw [← hW7] at hb7 hat7; have hO6 := (hn6.2.block _ (heap_lt HO5.out) (fun e => e.2 HOF.out)).trans HO5.out
      have HO7 := Lib.hid ((hb7.block _ (heap_lt hO6)).trans hO6)
      have HA7 := Lib.hid hat7; have HB7 := Lib.hid hb7; have HM7 := Lib.hid hm6; have HS6 : Hid (r < W5.heap.size ∧ W5.heap.size ≤ w6.heap.size) := Lib.hid ⟨Nat.lt_of_lt_of_le HRL.out HB5.out.size, hn6.2.size⟩
      have HT3 := Lib.hid (HT2.out W7 _ ((HP5.out.call hn6).more hb7))
      have HW7 := Lib.hid hW7; clear hn6 hm6 hb7 hat7 hW7 hO6 c13 HT2; go_upto_region 11 with fail
      rw [← HW7.out]; have c13 := cell_of HO7.out 13
      simp at c13
      go_wp2_with fail
      refine (HT3.out).mono ?_
      rintro e w8 ⟨zA, zc, uA, uc, rfl, hm8, hal, hT8⟩
      have hb9 := below_new (w := w8) (.cells (cellM mm zA zc uA uc) 37)
      have hat9 := alloc_at w8 (.cells (cellM mm zA zc uA uc) 37)
      obtain ⟨W9, hW9⟩ : ∃ W, W = w8.alloc (.cells (cellM mm zA zc uA uc) 37) := ⟨_, rfl⟩
      rw [← hW9] at hb9 hat9; have hata8 := (hT8.block _ (heap_lt HA7.out) (fun e => by have := HS6.out; omega)).trans HA7.out
      have hata := (hb9.block _ (heap_lt hata8)).trans hata8
      have HSC : Hid (∀ W, Below W9.heap.size W9 W → W.heap[w6.heap.size]? = some (.cells (cellM mm xA xc yA yc) 50 (0, 0)) ∧ W.heap[w8.heap.size]? = some (.cells (cellM mm zA zc uA uc) 37 (0, 0))) := Lib.hid (fun W hW => ⟨(hW.block _ (heap_lt hata)).trans hata, (hW.block _ (heap_lt hat9)).trans hat9⟩)
      have HMM : Hid (∀ W, Below W9.heap.size W9 W → MsgIs W (.agg (cellM mm xA xc yA yc)) mm ∧ MsgIs W (.agg (cellM mm zA zc uA uc)) mm) := Lib.hid (fun W hW => ⟨HM7.out W (((Touch.of_below HB7.out : Touch (fun k => k < W5.heap.size) w6 W7).trans hT8 (fun k _ e => by have := HS6.out; omega)).trans (Touch.of_below (S := fun k => k < W5.heap.size) (hb9.trans (hW.mono hb9.size))) (fun _ _ e => e)), (hm8.below hb9).below hW⟩)
      have HAL : Hid (∀ W, Below W9.heap.size W9 W → Alike w0 W b r most (Q.length + 1)) := Lib.hid (fun W hW => by
        obtain ⟨v', F', Q', C', ct', h1, h2, h3, h4⟩ := hal
        exact ⟨v', _, Q', C', ct', h1.more (hb9.trans (hW.mono hb9.size)), h2, h3, h4⟩)
      have HW9 := Lib.hid hW9; clear hm8 hal hT8 hb9 hat9 hW9 hata8 hata c13; go_upto_region 12 with fail
      rw [← HW9.out]; refine wp_only ?_
      refine wp_region_held_drew (S := fun W => W.heap[w6.heap.size]? = some (.cells (cellM mm xA xc yA yc) 50 (0, 0)) ∧ W.heap[w8.heap.size]? = some (.cells (cellM mm zA zc uA uc) 37 (0, 0))) (by kernel_rfl) (HSC.out _ (below_drew (Below.refl _ _))) (fun hHeld => ?_)
      refine tkH (i := 0) (oi := ⟨some 64, .move (.tmp 10), 24, "law.go:101", #[], none⟩) (v := ?vv14) ?hy14 ?rest14
      case hy14 => (refine Or.inl ⟨by rfl, ?_⟩; intro W hSw; (try dsimp only at hSw); go_simp; (try with_reducible rfl))
      try simp only [Act.put, pzz]
      refine tkH (i := 1) (oi := ⟨some 65, .move (.tmp 12), 24, "law.go:101", #[], none⟩) (v := ?vv15) ?hy15 ?rest15
      case hy15 => (refine Or.inl ⟨by rfl, ?_⟩; intro W hSw; (try dsimp only at hSw); go_simp; (try with_reducible rfl))
      try simp only [Act.put, pzz]
      refine tkH (i := 2) (oi := ⟨some 66, .binOp .eql 24 (.tmp 64) (.tmp 65) 24, 4, "law.go:101", #[⟨0, .data⟩, ⟨1, .data⟩], none⟩) (v := (.bool true)) ?hy16 ?rest16
      case hy16 => ((refine Or.inl ⟨by rfl, ?_⟩; intro W hSw; clear hSw; go_simp; (try simp)))
      try simp only [Act.put, pzz]
      refine tkH (i := 3) (oi := ⟨some 67, .move (.tmp 66), 4, "law.go:101", #[⟨2, .data⟩], none⟩) (v := ?vv17) ?hy17 ?rest17
      case hy17 => (refine Or.inl ⟨by rfl, ?_⟩; intro W hSw; (try dsimp only at hSw); go_simp; (try with_reducible rfl))
      try simp only [Act.put, pzz]
      refine tkH (i := 4) (oi := ⟨some 68, .load 50 (.tmp 9), 50, "law.go:101", #[⟨3, .guard⟩], some (3, true)⟩) (v := (.agg (cellM mm xA xc yA yc))) ?hy18 ?rest18
      case hy18 => ((refine Or.inl ⟨by rfl, ?_⟩; intro W hSw; have d0 := cell_of hSw.1 0; have d1 := cell_of hSw.1 1; have d2 := cell_of hSw.1 2; have d3 := cell_of hSw.1 3; have d4 := cell_of hSw.1 4; have d5 := cell_of hSw.1 5; have d6 := cell_of hSw.1 6; have d7 := cell_of hSw.1 7; have d8 := cell_of hSw.1 8; have d9 := cell_of hSw.1 9; have d10 := cell_of hSw.1 10; simp at d0 d1 d2 d3 d4 d5 d6 d7 d8 d9 d10; clear hSw; go_simp; (try with_reducible rfl)))
      try simp only [Act.put, pzz]
      refine tkH (i := 6) (oi := ⟨some 70, .load 37 (.tmp 11), 37, "law.go:101", #[⟨3, .guard⟩], some (3, true)⟩) (v := (.agg (cellM mm zA zc uA uc))) ?hy19 ?rest19
      case hy19 => ((refine Or.inl ⟨by rfl, ?_⟩; intro W hSw; have d0 := cell_of hSw.2 0; have d1 := cell_of hSw.2 1; have d2 := cell_of hSw.2 2; have d3 := cell_of hSw.2 3; have d4 := cell_of hSw.2 4; have d5 := cell_of hSw.2 5; have d6 := cell_of hSw.2 6; have d7 := cell_of hSw.2 7; have d8 := cell_of hSw.2 8; have d9 := cell_of hSw.2 9; have d10 := cell_of hSw.2 10; simp at d0 d1 d2 d3 d4 d5 d6 d7 d8 d9 d10; clear hSw; go_simp; (try with_reducible rfl)))
      try simp only [Act.put, pzz]
      refine wpAnyH_ready (rs := [5]) (by kernel_rfl) (by simp) ?_
      refine AllReadyH.cons (o := ⟨some 69, .call { callee := .value (.func 24), args := #[.tmp 68], argTypes := #[50] }, 37, "law.go:101", #[⟨4, .data⟩, ⟨3, .chain⟩, ⟨3, .guard⟩], some (3, true)⟩) rfl (fun K hK => ?step20) ?more20
      case more20 => exact AllReadyH.nil
      ((go_simp; go_at_call 24; refine (plain_m (HMM.out _ (below_drew (Below.refl _ W9))).1).mono ?_; rintro e x1 ⟨rfl, hbn⟩; have X1 := Lib.hid (below_of_drew hbn); clear hbn; go_wp2_with fail))
      refine hK.out _ _ ?hS20 (fun hHeld => ?rr20)
      case hS20 => (exact HSC.out _ X1.out)
      clear hK K; try simp only [Act.put, pzz]
      have HQ1 := Lib.hid (rsame_any (HMM.out _ X1.out).1 (HMM.out _ X1.out).2)
      rw [show decide (mm = mm) = true from decide_eq_true rfl] at HQ1; refine wpAnyH_ready (rs := [7]) (by kernel_rfl) (by simp) ?_
      refine AllReadyH.cons (o := ⟨some 71, .call { callee := .value (.func 23), args := #[.tmp 69, .tmp 70], argTypes := #[37, 37] }, 4, "law.go:101", #[⟨5, .data⟩, ⟨6, .data⟩, ⟨5, .chain⟩, ⟨3, .guard⟩], some (3, true)⟩) rfl (fun K hK => ?step21) ?more21
      case more21 => exact AllReadyH.nil
      ((go_simp; go_at_call 23; refine (HQ1.out).mono ?_; rintro e x2 ⟨rfl, hbn⟩; have X2 := Lib.hid (X1.out.trans (hbn.mono X1.out.size)); clear hbn; go_wp2_with fail))
      refine hK.out _ _ ?hS21 (fun hHeld => ?rr21)
      case hS21 => (exact HSC.out _ X2.out)
      clear hK K; try simp only [Act.put, pzz]
      refine tkH (i := 8) (oi := ⟨some 72, .pick (.tmp 67) (.tmp 71) (.const (.bool false)), 4, "law.go:101", #[⟨3, .data⟩, ⟨7, .data⟩], none⟩) (v := ?vv22) ?hy22 ?rest22
      case hy22 => (refine Or.inl ⟨by rfl, ?_⟩; intro W hSw; (try dsimp only at hSw); go_simp; (try with_reducible rfl))
      try simp only [Act.put, pzz]
      refine tkH (i := 9) (oi := ⟨some 6, .assign (.tmp 72), 4, "law.go:101", #[⟨8, .data⟩, ⟨7, .chain⟩, ⟨0, .phase⟩, ⟨1, .phase⟩, ⟨2, .phase⟩, ⟨3, .phase⟩, ⟨4, .phase⟩, ⟨5, .phase⟩, ⟨6, .phase⟩, ⟨7, .phase⟩, ⟨8, .phase⟩], none⟩) (v := ?vv23) ?hy23 ?rest23
      case hy23 => (refine Or.inl ⟨by rfl, ?_⟩; intro W hSw; (try dsimp only at hSw); go_simp; (try with_reducible rfl))
      try simp only [Act.put, pzz]
      refine wpAnyH_done (by kernel_rfl) ?_ _
      clear hHeld; dsimp only [onlyN]; go_wp2_with fail
      go_ret
      exact ⟨rfl, HAL.out _ X2.out⟩
    · have c13 := cell_of HO5.out 13
      simp at c13
      obtain ⟨mm, cd, P', ht1, ht2⟩ := two_deliver HG.out.1 HG.out.2 HP5.out HCQ.out.1 HCQ.out.2.1 HCQ.out.2.2 i'
      have HT1 := Lib.hid ht1; have HT2 := Lib.hid ht2; clear ht1 ht2; go_upto_region 10 with fail
      go_wp2_with fail
      refine (HT1.out).mono ?_
      rintro e w6 ⟨xA, xc, yA, yc, rfl, hn6, hm6⟩
      have hb7 := below_new (w := w6) (.cells (cellM mm xA xc yA yc) 50)
      have hat7 := alloc_at w6 (.cells (cellM mm xA xc yA yc) 50)
      obtain ⟨W7, hW7⟩ : ∃ W, W = w6.alloc (.cells (cellM mm xA xc yA yc) 50) := ⟨_, rfl⟩
      rw [← hW7] at hb7 hat7; have hO6 := (hn6.2.block _ (heap_lt HO5.out) (fun e => e.2 HOF.out)).trans HO5.out
      have HO7 := Lib.hid ((hb7.block _ (heap_lt hO6)).trans hO6)
      have HA7 := Lib.hid hat7; have HB7 := Lib.hid hb7; have HM7 := Lib.hid hm6; have HS6 : Hid (r < W5.heap.size ∧ W5.heap.size ≤ w6.heap.size) := Lib.hid ⟨Nat.lt_of_lt_of_le HRL.out HB5.out.size, hn6.2.size⟩
      have HT3 := Lib.hid (HT2.out W7 _ ((HP5.out.call hn6).more hb7))
      have HW7 := Lib.hid hW7; clear hn6 hm6 hb7 hat7 hW7 hO6 c13 HT2; go_upto_region 11 with fail
      rw [← HW7.out]; have c13 := cell_of HO7.out 13
      simp at c13
      go_wp2_with fail
      refine (HT3.out).mono ?_
      rintro e w8 ⟨zA, zc, uA, uc, rfl, hm8, hal, hT8⟩
      have hb9 := below_new (w := w8) (.cells (cellM mm zA zc uA uc) 37)
      have hat9 := alloc_at w8 (.cells (cellM mm zA zc uA uc) 37)
      obtain ⟨W9, hW9⟩ : ∃ W, W = w8.alloc (.cells (cellM mm zA zc uA uc) 37) := ⟨_, rfl⟩
      rw [← hW9] at hb9 hat9; have hata8 := (hT8.block _ (heap_lt HA7.out) (fun e => by have := HS6.out; omega)).trans HA7.out
      have hata := (hb9.block _ (heap_lt hata8)).trans hata8
      have HSC : Hid (∀ W, Below W9.heap.size W9 W → W.heap[w6.heap.size]? = some (.cells (cellM mm xA xc yA yc) 50 (0, 0)) ∧ W.heap[w8.heap.size]? = some (.cells (cellM mm zA zc uA uc) 37 (0, 0))) := Lib.hid (fun W hW => ⟨(hW.block _ (heap_lt hata)).trans hata, (hW.block _ (heap_lt hat9)).trans hat9⟩)
      have HMM : Hid (∀ W, Below W9.heap.size W9 W → MsgIs W (.agg (cellM mm xA xc yA yc)) mm ∧ MsgIs W (.agg (cellM mm zA zc uA uc)) mm) := Lib.hid (fun W hW => ⟨HM7.out W (((Touch.of_below HB7.out : Touch (fun k => k < W5.heap.size) w6 W7).trans hT8 (fun k _ e => by have := HS6.out; omega)).trans (Touch.of_below (S := fun k => k < W5.heap.size) (hb9.trans (hW.mono hb9.size))) (fun _ _ e => e)), (hm8.below hb9).below hW⟩)
      have HAL : Hid (∀ W, Below W9.heap.size W9 W → Alike w0 W b r most (Q.length + 1)) := Lib.hid (fun W hW => by
        obtain ⟨v', F', Q', C', ct', h1, h2, h3, h4⟩ := hal
        exact ⟨v', _, Q', C', ct', h1.more (hb9.trans (hW.mono hb9.size)), h2, h3, h4⟩)
      have HW9 := Lib.hid hW9; clear hm8 hal hT8 hb9 hat9 hW9 hata8 hata c13; go_upto_region 12 with fail
      rw [← HW9.out]; refine wp_only ?_
      refine wp_region_held_drew (S := fun W => W.heap[w6.heap.size]? = some (.cells (cellM mm xA xc yA yc) 50 (0, 0)) ∧ W.heap[w8.heap.size]? = some (.cells (cellM mm zA zc uA uc) 37 (0, 0))) (by kernel_rfl) (HSC.out _ (below_drew (Below.refl _ _))) (fun hHeld => ?_)
      refine tkH (i := 0) (oi := ⟨some 64, .move (.tmp 10), 24, "law.go:101", #[], none⟩) (v := ?vv24) ?hy24 ?rest24
      case hy24 => (refine Or.inl ⟨by rfl, ?_⟩; intro W hSw; (try dsimp only at hSw); go_simp; (try with_reducible rfl))
      try simp only [Act.put, pzz]
      refine tkH (i := 1) (oi := ⟨some 65, .move (.tmp 12), 24, "law.go:101", #[], none⟩) (v := ?vv25) ?hy25 ?rest25
      case hy25 => (refine Or.inl ⟨by rfl, ?_⟩; intro W hSw; (try dsimp only at hSw); go_simp; (try with_reducible rfl))
      try simp only [Act.put, pzz]
      refine tkH (i := 2) (oi := ⟨some 66, .binOp .eql 24 (.tmp 64) (.tmp 65) 24, 4, "law.go:101", #[⟨0, .data⟩, ⟨1, .data⟩], none⟩) (v := (.bool true)) ?hy26 ?rest26
      case hy26 => ((refine Or.inl ⟨by rfl, ?_⟩; intro W hSw; clear hSw; go_simp; (try simp)))
      try simp only [Act.put, pzz]
      refine tkH (i := 3) (oi := ⟨some 67, .move (.tmp 66), 4, "law.go:101", #[⟨2, .data⟩], none⟩) (v := ?vv27) ?hy27 ?rest27
      case hy27 => (refine Or.inl ⟨by rfl, ?_⟩; intro W hSw; (try dsimp only at hSw); go_simp; (try with_reducible rfl))
      try simp only [Act.put, pzz]
      refine tkH (i := 4) (oi := ⟨some 68, .load 50 (.tmp 9), 50, "law.go:101", #[⟨3, .guard⟩], some (3, true)⟩) (v := (.agg (cellM mm xA xc yA yc))) ?hy28 ?rest28
      case hy28 => ((refine Or.inl ⟨by rfl, ?_⟩; intro W hSw; have d0 := cell_of hSw.1 0; have d1 := cell_of hSw.1 1; have d2 := cell_of hSw.1 2; have d3 := cell_of hSw.1 3; have d4 := cell_of hSw.1 4; have d5 := cell_of hSw.1 5; have d6 := cell_of hSw.1 6; have d7 := cell_of hSw.1 7; have d8 := cell_of hSw.1 8; have d9 := cell_of hSw.1 9; have d10 := cell_of hSw.1 10; simp at d0 d1 d2 d3 d4 d5 d6 d7 d8 d9 d10; clear hSw; go_simp; (try with_reducible rfl)))
      try simp only [Act.put, pzz]
      refine tkH (i := 6) (oi := ⟨some 70, .load 37 (.tmp 11), 37, "law.go:101", #[⟨3, .guard⟩], some (3, true)⟩) (v := (.agg (cellM mm zA zc uA uc))) ?hy29 ?rest29
      case hy29 => ((refine Or.inl ⟨by rfl, ?_⟩; intro W hSw; have d0 := cell_of hSw.2 0; have d1 := cell_of hSw.2 1; have d2 := cell_of hSw.2 2; have d3 := cell_of hSw.2 3; have d4 := cell_of hSw.2 4; have d5 := cell_of hSw.2 5; have d6 := cell_of hSw.2 6; have d7 := cell_of hSw.2 7; have d8 := cell_of hSw.2 8; have d9 := cell_of hSw.2 9; have d10 := cell_of hSw.2 10; simp at d0 d1 d2 d3 d4 d5 d6 d7 d8 d9 d10; clear hSw; go_simp; (try with_reducible rfl)))
      try simp only [Act.put, pzz]
      refine wpAnyH_ready (rs := [5]) (by kernel_rfl) (by simp) ?_
      refine AllReadyH.cons (o := ⟨some 69, .call { callee := .value (.func 24), args := #[.tmp 68], argTypes := #[50] }, 37, "law.go:101", #[⟨4, .data⟩, ⟨3, .chain⟩, ⟨3, .guard⟩], some (3, true)⟩) rfl (fun K hK => ?step30) ?more30
      case more30 => exact AllReadyH.nil
      ((go_simp; go_at_call 24; refine (plain_m (HMM.out _ (below_drew (Below.refl _ W9))).1).mono ?_; rintro e x1 ⟨rfl, hbn⟩; have X1 := Lib.hid (below_of_drew hbn); clear hbn; go_wp2_with fail))
      refine hK.out _ _ ?hS30 (fun hHeld => ?rr30)
      case hS30 => (exact HSC.out _ X1.out)
      clear hK K; try simp only [Act.put, pzz]
      have HQ1 := Lib.hid (rsame_any (HMM.out _ X1.out).1 (HMM.out _ X1.out).2)
      rw [show decide (mm = mm) = true from decide_eq_true rfl] at HQ1; refine wpAnyH_ready (rs := [7]) (by kernel_rfl) (by simp) ?_
      refine AllReadyH.cons (o := ⟨some 71, .call { callee := .value (.func 23), args := #[.tmp 69, .tmp 70], argTypes := #[37, 37] }, 4, "law.go:101", #[⟨5, .data⟩, ⟨6, .data⟩, ⟨5, .chain⟩, ⟨3, .guard⟩], some (3, true)⟩) rfl (fun K hK => ?step31) ?more31
      case more31 => exact AllReadyH.nil
      ((go_simp; go_at_call 23; refine (HQ1.out).mono ?_; rintro e x2 ⟨rfl, hbn⟩; have X2 := Lib.hid (X1.out.trans (hbn.mono X1.out.size)); clear hbn; go_wp2_with fail))
      refine hK.out _ _ ?hS31 (fun hHeld => ?rr31)
      case hS31 => (exact HSC.out _ X2.out)
      clear hK K; try simp only [Act.put, pzz]
      refine tkH (i := 8) (oi := ⟨some 72, .pick (.tmp 67) (.tmp 71) (.const (.bool false)), 4, "law.go:101", #[⟨3, .data⟩, ⟨7, .data⟩], none⟩) (v := ?vv32) ?hy32 ?rest32
      case hy32 => (refine Or.inl ⟨by rfl, ?_⟩; intro W hSw; (try dsimp only at hSw); go_simp; (try with_reducible rfl))
      try simp only [Act.put, pzz]
      refine tkH (i := 9) (oi := ⟨some 6, .assign (.tmp 72), 4, "law.go:101", #[⟨8, .data⟩, ⟨7, .chain⟩, ⟨0, .phase⟩, ⟨1, .phase⟩, ⟨2, .phase⟩, ⟨3, .phase⟩, ⟨4, .phase⟩, ⟨5, .phase⟩, ⟨6, .phase⟩, ⟨7, .phase⟩, ⟨8, .phase⟩], none⟩) (v := ?vv33) ?hy33 ?rest33
      case hy33 => (refine Or.inl ⟨by rfl, ?_⟩; intro W hSw; (try dsimp only at hSw); go_simp; (try with_reducible rfl))
      try simp only [Act.put, pzz]
      refine wpAnyH_done (by kernel_rfl) ?_ _
      clear hHeld; dsimp only [onlyN]; go_wp2_with fail
      go_ret
      exact ⟨rfl, HAL.out _ X2.out⟩
  by_cases k4 : kd = 4
  · subst k4
    clear k01 k23 ; have HP5D := Lib.hid (HP5.out.keep (below_drew (Below.refl _ _)))
    obtain ⟨a, P', C', ht1, ht2⟩ := two_drop HG.out.1 HP5D.out HCQ.out.1 HCQ.out.2.1 HCQ.out.2.2 i' 0
    have HT1 := Lib.hid ht1; have HT2 := Lib.hid ht2; clear ht1 ht2; go_upto_region 14 with fail
    refine wp_only ?_
    refine wp_region_held_drew (S := fun W => W.heap[w.heap.size]? = some (.cells (cellN ⟨4, nr, m, i', k'⟩ tA tc oA oc) 39 (0, 0))) (by kernel_rfl) HO5.out (fun hHeld => ?_)
    refine tkH (i := 0) (oi := ⟨some 75, .move (.tmp 0), 23, "law.go:103", #[], none⟩) (v := ?vv34) ?hy34 ?rest34
    case hy34 => (refine Or.inl ⟨by rfl, ?_⟩; intro W hSw; (try dsimp only at hSw); go_simp; (try with_reducible rfl))
    try simp only [Act.put, pzz]
    refine tkH (i := 1) (oi := ⟨some 76, .fieldAddr 39 (.tmp 5) 3, 0, "law.go:103", #[], none⟩) (v := ?vv35) ?hy35 ?rest35
    case hy35 => (refine Or.inl ⟨by rfl, ?_⟩; intro W hSw; (try dsimp only at hSw); go_simp; (try with_reducible rfl))
    try simp only [Act.put, pzz]
    refine tkH (i := 2) (oi := ⟨some 77, .load 3 (.tmp 76), 3, "law.go:103", #[⟨1, .data⟩], none⟩) (v := (.int .i64 i')) ?hy36 ?rest36
    case hy36 => ((refine Or.inl ⟨by rfl, ?_⟩; intro W hSw; have d13 := cell_of hSw 13; have d14 := cell_of hSw 14; simp at d13 d14; clear hSw; go_simp; (try with_reducible rfl)))
    try simp only [Act.put, pzz]
    refine tkH (i := 4) (oi := ⟨some 79, .move (.tmp 1), 28, "law.go:103", #[], none⟩) (v := ?vv37) ?hy37 ?rest37
    case hy37 => (refine Or.inl ⟨by rfl, ?_⟩; intro W hSw; (try dsimp only at hSw); go_simp; (try with_reducible rfl))
    try simp only [Act.put, pzz]
    refine tkH (i := 5) (oi := ⟨some 80, .fieldAddr 39 (.tmp 5) 3, 0, "law.go:103", #[], none⟩) (v := ?vv38) ?hy38 ?rest38
    case hy38 => (refine Or.inl ⟨by rfl, ?_⟩; intro W hSw; (try dsimp only at hSw); go_simp; (try with_reducible rfl))
    try simp only [Act.put, pzz]
    refine tkH (i := 6) (oi := ⟨some 81, .load 3 (.tmp 80), 3, "law.go:103", #[⟨5, .data⟩], none⟩) (v := (.int .i64 i')) ?hy39 ?rest39
    case hy39 => ((refine Or.inl ⟨by rfl, ?_⟩; intro W hSw; have d13 := cell_of hSw 13; have d14 := cell_of hSw 14; simp at d13 d14; clear hSw; go_simp; (try with_reducible rfl)))
    try simp only [Act.put, pzz]
    refine wpAnyH_ready (rs := [3]) (by kernel_rfl) (by simp) ?_
    refine AllReadyH.cons (o := ⟨some 78, .call { callee := .value (.func 25), args := #[.tmp 75, .tmp 77], argTypes := #[23, 3] }, 24, "law.go:103", #[⟨0, .data⟩, ⟨2, .data⟩], none⟩) rfl (fun K hK => ?step40) ?more40
    case more40 => exact AllReadyH.nil
    ((go_simp; go_at_call 25; refine (HT1.out).mono ?_; rintro e x1 ⟨rfl, hn1⟩; have HN1 := Lib.hid hn1; clear hn1; go_wp2_with fail))
    refine hK.out _ _ ?hS40 (fun hHeld => ?rr40)
    case hS40 => (exact (HN1.out.2.block _ (heap_lt HO5.out) (fun e => e.2 HOF.out)).trans HO5.out)
    clear hK K; try simp only [Act.put, pzz]
    have HT3 := Lib.hid (HT2.out x1 (HP5D.out.call HN1.out))
    refine wpAnyH_ready (rs := [7]) (by kernel_rfl) (by simp) ?_
    refine AllReadyH.cons (o := ⟨some 82, .call { callee := .value (.func 51), args := #[.tmp 79, .const (.int .i64 0), .tmp 81, .const (.int .i64 0)], argTypes := #[28, 3, 3, 3] }, 24, "law.go:103", #[⟨4, .data⟩, ⟨6, .data⟩, ⟨3, .chain⟩], none⟩) rfl (fun K hK => ?step41) ?more41
    case more41 => exact AllReadyH.nil
    ((go_simp; go_at_call 51; refine (HT3.out).mono ?_; rintro e x2 ⟨rfl, hal, hT⟩; have HAL := Lib.hid (And.intro hal hT); clear hal hT; go_wp2_with fail))
    refine hK.out _ _ ?hS41 (fun hHeld => ?rr41)
    case hS41 => (exact (HAL.out.2.block _ (Nat.lt_of_lt_of_le (heap_lt HO5.out) HN1.out.2.size) HOR.out).trans ((HN1.out.2.block _ (heap_lt HO5.out) (fun e => e.2 HOF.out)).trans HO5.out))
    clear hK K; try simp only [Act.put, pzz]
    refine tkH (i := 8) (oi := ⟨some 83, .binOp .eql 24 (.tmp 78) (.tmp 82) 24, 4, "law.go:103", #[⟨3, .data⟩, ⟨7, .data⟩], none⟩) (v := (.bool true)) ?hy42 ?rest42
    case hy42 => ((refine Or.inl ⟨by rfl, ?_⟩; intro W hSw; clear hSw; go_simp; (try simp)))
    try simp only [Act.put, pzz]
    refine tkH (i := 9) (oi := ⟨some 6, .assign (.tmp 83), 4, "law.go:103", #[⟨8, .data⟩, ⟨7, .chain⟩, ⟨0, .phase⟩, ⟨1, .phase⟩, ⟨2, .phase⟩, ⟨3, .phase⟩, ⟨4, .phase⟩, ⟨5, .phase⟩, ⟨6, .phase⟩, ⟨7, .phase⟩, ⟨8, .phase⟩], none⟩) (v := ?vv43) ?hy43 ?rest43
    case hy43 => (refine Or.inl ⟨by rfl, ?_⟩; intro W hSw; (try dsimp only at hSw); go_simp; (try with_reducible rfl))
    try simp only [Act.put, pzz]
    refine wpAnyH_done (by kernel_rfl) ?_ _
    clear hHeld; dsimp only [onlyN]; go_wp2_with fail
    go_ret
    exact ⟨rfl, HAL.out.1⟩
  by_cases k5 : kd = 5
  · subst k5
    clear k01 k23 k4; have HP5D := Lib.hid (HP5.out.keep (below_drew (Below.refl _ _)))
    obtain ⟨a, P', C', ht1, ht2⟩ := two_twice HG.out.1 HP5D.out HCQ.out.1 HCQ.out.2.1 HCQ.out.2.2 HMO.out i' 0
    have HT1 := Lib.hid ht1; have HT2 := Lib.hid ht2; clear ht1 ht2; go_upto_region 16 with fail
    refine wp_only ?_
    refine wp_region_held_drew (S := fun W => W.heap[w.heap.size]? = some (.cells (cellN ⟨5, nr, m, i', k'⟩ tA tc oA oc) 39 (0, 0))) (by kernel_rfl) HO5.out (fun hHeld => ?_)
    refine tkH (i := 0) (oi := ⟨some 86, .move (.tmp 0), 23, "law.go:105", #[], none⟩) (v := ?vv44) ?hy44 ?rest44
    case hy44 => (refine Or.inl ⟨by rfl, ?_⟩; intro W hSw; (try dsimp only at hSw); go_simp; (try with_reducible rfl))
    try simp only [Act.put, pzz]
    refine tkH (i := 1) (oi := ⟨some 87, .fieldAddr 39 (.tmp 5) 3, 0, "law.go:105", #[], none⟩) (v := ?vv45) ?hy45 ?rest45
    case hy45 => (refine Or.inl ⟨by rfl, ?_⟩; intro W hSw; (try dsimp only at hSw); go_simp; (try with_reducible rfl))
    try simp only [Act.put, pzz]
    refine tkH (i := 2) (oi := ⟨some 88, .load 3 (.tmp 87), 3, "law.go:105", #[⟨1, .data⟩], none⟩) (v := (.int .i64 i')) ?hy46 ?rest46
    case hy46 => ((refine Or.inl ⟨by rfl, ?_⟩; intro W hSw; have d13 := cell_of hSw 13; have d14 := cell_of hSw 14; simp at d13 d14; clear hSw; go_simp; (try with_reducible rfl)))
    try simp only [Act.put, pzz]
    refine tkH (i := 4) (oi := ⟨some 90, .move (.tmp 1), 28, "law.go:105", #[], none⟩) (v := ?vv47) ?hy47 ?rest47
    case hy47 => (refine Or.inl ⟨by rfl, ?_⟩; intro W hSw; (try dsimp only at hSw); go_simp; (try with_reducible rfl))
    try simp only [Act.put, pzz]
    refine tkH (i := 5) (oi := ⟨some 91, .fieldAddr 39 (.tmp 5) 3, 0, "law.go:105", #[], none⟩) (v := ?vv48) ?hy48 ?rest48
    case hy48 => (refine Or.inl ⟨by rfl, ?_⟩; intro W hSw; (try dsimp only at hSw); go_simp; (try with_reducible rfl))
    try simp only [Act.put, pzz]
    refine tkH (i := 6) (oi := ⟨some 92, .load 3 (.tmp 91), 3, "law.go:105", #[⟨5, .data⟩], none⟩) (v := (.int .i64 i')) ?hy49 ?rest49
    case hy49 => ((refine Or.inl ⟨by rfl, ?_⟩; intro W hSw; have d13 := cell_of hSw 13; have d14 := cell_of hSw 14; simp at d13 d14; clear hSw; go_simp; (try with_reducible rfl)))
    try simp only [Act.put, pzz]
    refine wpAnyH_ready (rs := [3]) (by kernel_rfl) (by simp) ?_
    refine AllReadyH.cons (o := ⟨some 89, .call { callee := .value (.func 26), args := #[.tmp 86, .tmp 88], argTypes := #[23, 3] }, 24, "law.go:105", #[⟨0, .data⟩, ⟨2, .data⟩], none⟩) rfl (fun K hK => ?step50) ?more50
    case more50 => exact AllReadyH.nil
    ((go_simp; go_at_call 26; refine (HT1.out).mono ?_; rintro e x1 ⟨rfl, hn1⟩; have HN1 := Lib.hid hn1; clear hn1; go_wp2_with fail))
    refine hK.out _ _ ?hS50 (fun hHeld => ?rr50)
    case hS50 => (exact (HN1.out.2.block _ (heap_lt HO5.out) (fun e => e.2 HOF.out)).trans HO5.out)
    clear hK K; try simp only [Act.put, pzz]
    have HT3 := Lib.hid (HT2.out x1 (HP5D.out.call HN1.out))
    refine wpAnyH_ready (rs := [7]) (by kernel_rfl) (by simp) ?_
    refine AllReadyH.cons (o := ⟨some 93, .call { callee := .value (.func 51), args := #[.tmp 90, .const (.int .i64 1), .tmp 92, .const (.int .i64 0)], argTypes := #[28, 3, 3, 3] }, 24, "law.go:105", #[⟨4, .data⟩, ⟨6, .data⟩, ⟨3, .chain⟩], none⟩) rfl (fun K hK => ?step51) ?more51
    case more51 => exact AllReadyH.nil
    ((go_simp; go_at_call 51; refine (HT3.out).mono ?_; rintro e x2 ⟨rfl, hal, hT⟩; have HAL := Lib.hid (And.intro hal hT); clear hal hT; go_wp2_with fail))
    refine hK.out _ _ ?hS51 (fun hHeld => ?rr51)
    case hS51 => (exact (HAL.out.2.block _ (Nat.lt_of_lt_of_le (heap_lt HO5.out) HN1.out.2.size) HOR.out).trans ((HN1.out.2.block _ (heap_lt HO5.out) (fun e => e.2 HOF.out)).trans HO5.out))
    clear hK K; try simp only [Act.put, pzz]
    refine tkH (i := 8) (oi := ⟨some 94, .binOp .eql 24 (.tmp 89) (.tmp 93) 24, 4, "law.go:105", #[⟨3, .data⟩, ⟨7, .data⟩], none⟩) (v := (.bool true)) ?hy52 ?rest52
    case hy52 => ((refine Or.inl ⟨by rfl, ?_⟩; intro W hSw; clear hSw; go_simp; (try simp)))
    try simp only [Act.put, pzz]
    refine tkH (i := 9) (oi := ⟨some 6, .assign (.tmp 94), 4, "law.go:105", #[⟨8, .data⟩, ⟨7, .chain⟩, ⟨0, .phase⟩, ⟨1, .phase⟩, ⟨2, .phase⟩, ⟨3, .phase⟩, ⟨4, .phase⟩, ⟨5, .phase⟩, ⟨6, .phase⟩, ⟨7, .phase⟩, ⟨8, .phase⟩], none⟩) (v := ?vv53) ?hy53 ?rest53
    case hy53 => (refine Or.inl ⟨by rfl, ?_⟩; intro W hSw; (try dsimp only at hSw); go_simp; (try with_reducible rfl))
    try simp only [Act.put, pzz]
    refine wpAnyH_done (by kernel_rfl) ?_ _
    clear hHeld; dsimp only [onlyN]; go_wp2_with fail
    go_ret
    exact ⟨rfl, HAL.out.1⟩
  by_cases k6 : kd = 6
  · subst k6
    clear k01 k23 k4 k5; have HP5D := Lib.hid (HP5.out.keep (below_drew (Below.refl _ _)))
    obtain ⟨a, P', C', ht1, ht2⟩ := two_move HG.out.1 HP5D.out HCQ.out.1 HCQ.out.2.1 HCQ.out.2.2 i' k'
    have HT1 := Lib.hid ht1; have HT2 := Lib.hid ht2; clear ht1 ht2; go_upto_region 18 with fail
    refine wp_only ?_
    refine wp_region_held_drew (S := fun W => W.heap[w.heap.size]? = some (.cells (cellN ⟨6, nr, m, i', k'⟩ tA tc oA oc) 39 (0, 0))) (by kernel_rfl) HO5.out (fun hHeld => ?_)
    refine tkH (i := 0) (oi := ⟨some 97, .move (.tmp 0), 23, "law.go:107", #[], none⟩) (v := ?vv54) ?hy54 ?rest54
    case hy54 => (refine Or.inl ⟨by rfl, ?_⟩; intro W hSw; (try dsimp only at hSw); go_simp; (try with_reducible rfl))
    try simp only [Act.put, pzz]
    refine tkH (i := 1) (oi := ⟨some 98, .fieldAddr 39 (.tmp 5) 3, 0, "law.go:107", #[], none⟩) (v := ?vv55) ?hy55 ?rest55
    case hy55 => (refine Or.inl ⟨by rfl, ?_⟩; intro W hSw; (try dsimp only at hSw); go_simp; (try with_reducible rfl))
    try simp only [Act.put, pzz]
    refine tkH (i := 2) (oi := ⟨some 99, .load 3 (.tmp 98), 3, "law.go:107", #[⟨1, .data⟩], none⟩) (v := (.int .i64 i')) ?hy56 ?rest56
    case hy56 => ((refine Or.inl ⟨by rfl, ?_⟩; intro W hSw; have d13 := cell_of hSw 13; have d14 := cell_of hSw 14; simp at d13 d14; clear hSw; go_simp; (try with_reducible rfl)))
    try simp only [Act.put, pzz]
    refine tkH (i := 3) (oi := ⟨some 100, .fieldAddr 39 (.tmp 5) 4, 0, "law.go:107", #[], none⟩) (v := ?vv57) ?hy57 ?rest57
    case hy57 => (refine Or.inl ⟨by rfl, ?_⟩; intro W hSw; (try dsimp only at hSw); go_simp; (try with_reducible rfl))
    try simp only [Act.put, pzz]
    refine tkH (i := 4) (oi := ⟨some 101, .load 3 (.tmp 100), 3, "law.go:107", #[⟨3, .data⟩], none⟩) (v := (.int .i64 k')) ?hy58 ?rest58
    case hy58 => ((refine Or.inl ⟨by rfl, ?_⟩; intro W hSw; have d13 := cell_of hSw 13; have d14 := cell_of hSw 14; simp at d13 d14; clear hSw; go_simp; (try with_reducible rfl)))
    try simp only [Act.put, pzz]
    refine tkH (i := 6) (oi := ⟨some 103, .move (.tmp 1), 28, "law.go:107", #[], none⟩) (v := ?vv59) ?hy59 ?rest59
    case hy59 => (refine Or.inl ⟨by rfl, ?_⟩; intro W hSw; (try dsimp only at hSw); go_simp; (try with_reducible rfl))
    try simp only [Act.put, pzz]
    refine tkH (i := 7) (oi := ⟨some 104, .fieldAddr 39 (.tmp 5) 3, 0, "law.go:107", #[], none⟩) (v := ?vv60) ?hy60 ?rest60
    case hy60 => (refine Or.inl ⟨by rfl, ?_⟩; intro W hSw; (try dsimp only at hSw); go_simp; (try with_reducible rfl))
    try simp only [Act.put, pzz]
    refine tkH (i := 8) (oi := ⟨some 105, .load 3 (.tmp 104), 3, "law.go:107", #[⟨7, .data⟩], none⟩) (v := (.int .i64 i')) ?hy61 ?rest61
    case hy61 => ((refine Or.inl ⟨by rfl, ?_⟩; intro W hSw; have d13 := cell_of hSw 13; have d14 := cell_of hSw 14; simp at d13 d14; clear hSw; go_simp; (try with_reducible rfl)))
    try simp only [Act.put, pzz]
    refine tkH (i := 9) (oi := ⟨some 106, .fieldAddr 39 (.tmp 5) 4, 0, "law.go:107", #[], none⟩) (v := ?vv62) ?hy62 ?rest62
    case hy62 => (refine Or.inl ⟨by rfl, ?_⟩; intro W hSw; (try dsimp only at hSw); go_simp; (try with_reducible rfl))
    try simp only [Act.put, pzz]
    refine tkH (i := 10) (oi := ⟨some 107, .load 3 (.tmp 106), 3, "law.go:107", #[⟨9, .data⟩], none⟩) (v := (.int .i64 k')) ?hy63 ?rest63
    case hy63 => ((refine Or.inl ⟨by rfl, ?_⟩; intro W hSw; have d13 := cell_of hSw 13; have d14 := cell_of hSw 14; simp at d13 d14; clear hSw; go_simp; (try with_reducible rfl)))
    try simp only [Act.put, pzz]
    refine wpAnyH_ready (rs := [5]) (by kernel_rfl) (by simp) ?_
    refine AllReadyH.cons (o := ⟨some 102, .call { callee := .value (.func 27), args := #[.tmp 97, .tmp 99, .tmp 101], argTypes := #[23, 3, 3] }, 24, "law.go:107", #[⟨0, .data⟩, ⟨2, .data⟩, ⟨4, .data⟩], none⟩) rfl (fun K hK => ?step64) ?more64
    case more64 => exact AllReadyH.nil
    ((go_simp; go_at_call 27; refine (HT1.out).mono ?_; rintro e x1 ⟨rfl, hn1⟩; have HN1 := Lib.hid hn1; clear hn1; go_wp2_with fail))
    refine hK.out _ _ ?hS64 (fun hHeld => ?rr64)
    case hS64 => (exact (HN1.out.2.block _ (heap_lt HO5.out) (fun e => e.2 HOF.out)).trans HO5.out)
    clear hK K; try simp only [Act.put, pzz]
    have HT3 := Lib.hid (HT2.out x1 (HP5D.out.call HN1.out))
    refine wpAnyH_ready (rs := [11]) (by kernel_rfl) (by simp) ?_
    refine AllReadyH.cons (o := ⟨some 108, .call { callee := .value (.func 51), args := #[.tmp 103, .const (.int .i64 2), .tmp 105, .tmp 107], argTypes := #[28, 3, 3, 3] }, 24, "law.go:107", #[⟨6, .data⟩, ⟨8, .data⟩, ⟨10, .data⟩, ⟨5, .chain⟩], none⟩) rfl (fun K hK => ?step65) ?more65
    case more65 => exact AllReadyH.nil
    ((go_simp; go_at_call 51; refine (HT3.out).mono ?_; rintro e x2 ⟨rfl, hal, hT⟩; have HAL := Lib.hid (And.intro hal hT); clear hal hT; go_wp2_with fail))
    refine hK.out _ _ ?hS65 (fun hHeld => ?rr65)
    case hS65 => (exact (HAL.out.2.block _ (Nat.lt_of_lt_of_le (heap_lt HO5.out) HN1.out.2.size) HOR.out).trans ((HN1.out.2.block _ (heap_lt HO5.out) (fun e => e.2 HOF.out)).trans HO5.out))
    clear hK K; try simp only [Act.put, pzz]
    refine tkH (i := 12) (oi := ⟨some 109, .binOp .eql 24 (.tmp 102) (.tmp 108) 24, 4, "law.go:107", #[⟨5, .data⟩, ⟨11, .data⟩], none⟩) (v := (.bool true)) ?hy66 ?rest66
    case hy66 => ((refine Or.inl ⟨by rfl, ?_⟩; intro W hSw; clear hSw; go_simp; (try simp)))
    try simp only [Act.put, pzz]
    refine tkH (i := 13) (oi := ⟨some 6, .assign (.tmp 109), 4, "law.go:107", #[⟨12, .data⟩, ⟨11, .chain⟩, ⟨0, .phase⟩, ⟨1, .phase⟩, ⟨2, .phase⟩, ⟨3, .phase⟩, ⟨4, .phase⟩, ⟨5, .phase⟩, ⟨6, .phase⟩, ⟨7, .phase⟩, ⟨8, .phase⟩, ⟨9, .phase⟩, ⟨10, .phase⟩, ⟨11, .phase⟩, ⟨12, .phase⟩], none⟩) (v := ?vv67) ?hy67 ?rest67
    case hy67 => (refine Or.inl ⟨by rfl, ?_⟩; intro W hSw; (try dsimp only at hSw); go_simp; (try with_reducible rfl))
    try simp only [Act.put, pzz]
    refine wpAnyH_done (by kernel_rfl) ?_ _
    clear hHeld; dsimp only [onlyN]; go_wp2_with fail
    go_ret
    exact ⟨rfl, HAL.out.1⟩
  by_cases k7 : kd = 7
  · subst k7
    clear k01 k23 k4 k5 k6; have HP5D := Lib.hid (HP5.out.keep (below_drew (Below.refl _ _)))
    obtain ⟨a, P', C', ht1, ht2⟩ := two_hold HG.out.1 HP5D.out HCQ.out.1 HCQ.out.2.1 HCQ.out.2.2 i' k'
    have HT1 := Lib.hid ht1; have HT2 := Lib.hid ht2; clear ht1 ht2; go_upto_region 20 with fail
    refine wp_only ?_
    refine wp_region_held_drew (S := fun W => W.heap[w.heap.size]? = some (.cells (cellN ⟨7, nr, m, i', k'⟩ tA tc oA oc) 39 (0, 0))) (by kernel_rfl) HO5.out (fun hHeld => ?_)
    refine tkH (i := 0) (oi := ⟨some 112, .move (.tmp 0), 23, "law.go:109", #[], none⟩) (v := ?vv68) ?hy68 ?rest68
    case hy68 => (refine Or.inl ⟨by rfl, ?_⟩; intro W hSw; (try dsimp only at hSw); go_simp; (try with_reducible rfl))
    try simp only [Act.put, pzz]
    refine tkH (i := 1) (oi := ⟨some 113, .fieldAddr 39 (.tmp 5) 3, 0, "law.go:109", #[], none⟩) (v := ?vv69) ?hy69 ?rest69
    case hy69 => (refine Or.inl ⟨by rfl, ?_⟩; intro W hSw; (try dsimp only at hSw); go_simp; (try with_reducible rfl))
    try simp only [Act.put, pzz]
    refine tkH (i := 2) (oi := ⟨some 114, .load 3 (.tmp 113), 3, "law.go:109", #[⟨1, .data⟩], none⟩) (v := (.int .i64 i')) ?hy70 ?rest70
    case hy70 => ((refine Or.inl ⟨by rfl, ?_⟩; intro W hSw; have d13 := cell_of hSw 13; have d14 := cell_of hSw 14; simp at d13 d14; clear hSw; go_simp; (try with_reducible rfl)))
    try simp only [Act.put, pzz]
    refine tkH (i := 3) (oi := ⟨some 115, .fieldAddr 39 (.tmp 5) 4, 0, "law.go:109", #[], none⟩) (v := ?vv71) ?hy71 ?rest71
    case hy71 => (refine Or.inl ⟨by rfl, ?_⟩; intro W hSw; (try dsimp only at hSw); go_simp; (try with_reducible rfl))
    try simp only [Act.put, pzz]
    refine tkH (i := 4) (oi := ⟨some 116, .load 3 (.tmp 115), 3, "law.go:109", #[⟨3, .data⟩], none⟩) (v := (.int .i64 k')) ?hy72 ?rest72
    case hy72 => ((refine Or.inl ⟨by rfl, ?_⟩; intro W hSw; have d13 := cell_of hSw 13; have d14 := cell_of hSw 14; simp at d13 d14; clear hSw; go_simp; (try with_reducible rfl)))
    try simp only [Act.put, pzz]
    refine tkH (i := 6) (oi := ⟨some 118, .move (.tmp 1), 28, "law.go:109", #[], none⟩) (v := ?vv73) ?hy73 ?rest73
    case hy73 => (refine Or.inl ⟨by rfl, ?_⟩; intro W hSw; (try dsimp only at hSw); go_simp; (try with_reducible rfl))
    try simp only [Act.put, pzz]
    refine tkH (i := 7) (oi := ⟨some 119, .fieldAddr 39 (.tmp 5) 3, 0, "law.go:109", #[], none⟩) (v := ?vv74) ?hy74 ?rest74
    case hy74 => (refine Or.inl ⟨by rfl, ?_⟩; intro W hSw; (try dsimp only at hSw); go_simp; (try with_reducible rfl))
    try simp only [Act.put, pzz]
    refine tkH (i := 8) (oi := ⟨some 120, .load 3 (.tmp 119), 3, "law.go:109", #[⟨7, .data⟩], none⟩) (v := (.int .i64 i')) ?hy75 ?rest75
    case hy75 => ((refine Or.inl ⟨by rfl, ?_⟩; intro W hSw; have d13 := cell_of hSw 13; have d14 := cell_of hSw 14; simp at d13 d14; clear hSw; go_simp; (try with_reducible rfl)))
    try simp only [Act.put, pzz]
    refine tkH (i := 9) (oi := ⟨some 121, .fieldAddr 39 (.tmp 5) 4, 0, "law.go:109", #[], none⟩) (v := ?vv76) ?hy76 ?rest76
    case hy76 => (refine Or.inl ⟨by rfl, ?_⟩; intro W hSw; (try dsimp only at hSw); go_simp; (try with_reducible rfl))
    try simp only [Act.put, pzz]
    refine tkH (i := 10) (oi := ⟨some 122, .load 3 (.tmp 121), 3, "law.go:109", #[⟨9, .data⟩], none⟩) (v := (.int .i64 k')) ?hy77 ?rest77
    case hy77 => ((refine Or.inl ⟨by rfl, ?_⟩; intro W hSw; have d13 := cell_of hSw 13; have d14 := cell_of hSw 14; simp at d13 d14; clear hSw; go_simp; (try with_reducible rfl)))
    try simp only [Act.put, pzz]
    refine wpAnyH_ready (rs := [5]) (by kernel_rfl) (by simp) ?_
    refine AllReadyH.cons (o := ⟨some 117, .call { callee := .value (.func 28), args := #[.tmp 112, .tmp 114, .tmp 116], argTypes := #[23, 3, 3] }, 24, "law.go:109", #[⟨0, .data⟩, ⟨2, .data⟩, ⟨4, .data⟩], none⟩) rfl (fun K hK => ?step78) ?more78
    case more78 => exact AllReadyH.nil
    ((go_simp; go_at_call 28; refine (HT1.out).mono ?_; rintro e x1 ⟨rfl, hn1⟩; have HN1 := Lib.hid hn1; clear hn1; go_wp2_with fail))
    refine hK.out _ _ ?hS78 (fun hHeld => ?rr78)
    case hS78 => (exact (HN1.out.2.block _ (heap_lt HO5.out) (fun e => e.2 HOF.out)).trans HO5.out)
    clear hK K; try simp only [Act.put, pzz]
    have HT3 := Lib.hid (HT2.out x1 (HP5D.out.call HN1.out))
    refine wpAnyH_ready (rs := [11]) (by kernel_rfl) (by simp) ?_
    refine AllReadyH.cons (o := ⟨some 123, .call { callee := .value (.func 51), args := #[.tmp 118, .const (.int .i64 3), .tmp 120, .tmp 122], argTypes := #[28, 3, 3, 3] }, 24, "law.go:109", #[⟨6, .data⟩, ⟨8, .data⟩, ⟨10, .data⟩, ⟨5, .chain⟩], none⟩) rfl (fun K hK => ?step79) ?more79
    case more79 => exact AllReadyH.nil
    ((go_simp; go_at_call 51; refine (HT3.out).mono ?_; rintro e x2 ⟨rfl, hal, hT⟩; have HAL := Lib.hid (And.intro hal hT); clear hal hT; go_wp2_with fail))
    refine hK.out _ _ ?hS79 (fun hHeld => ?rr79)
    case hS79 => (exact (HAL.out.2.block _ (Nat.lt_of_lt_of_le (heap_lt HO5.out) HN1.out.2.size) HOR.out).trans ((HN1.out.2.block _ (heap_lt HO5.out) (fun e => e.2 HOF.out)).trans HO5.out))
    clear hK K; try simp only [Act.put, pzz]
    refine tkH (i := 12) (oi := ⟨some 124, .binOp .eql 24 (.tmp 117) (.tmp 123) 24, 4, "law.go:109", #[⟨5, .data⟩, ⟨11, .data⟩], none⟩) (v := (.bool true)) ?hy80 ?rest80
    case hy80 => ((refine Or.inl ⟨by rfl, ?_⟩; intro W hSw; clear hSw; go_simp; (try simp)))
    try simp only [Act.put, pzz]
    refine tkH (i := 13) (oi := ⟨some 6, .assign (.tmp 124), 4, "law.go:109", #[⟨12, .data⟩, ⟨11, .chain⟩, ⟨0, .phase⟩, ⟨1, .phase⟩, ⟨2, .phase⟩, ⟨3, .phase⟩, ⟨4, .phase⟩, ⟨5, .phase⟩, ⟨6, .phase⟩, ⟨7, .phase⟩, ⟨8, .phase⟩, ⟨9, .phase⟩, ⟨10, .phase⟩, ⟨11, .phase⟩, ⟨12, .phase⟩], none⟩) (v := ?vv81) ?hy81 ?rest81
    case hy81 => (refine Or.inl ⟨by rfl, ?_⟩; intro W hSw; (try dsimp only at hSw); go_simp; (try with_reducible rfl))
    try simp only [Act.put, pzz]
    refine wpAnyH_done (by kernel_rfl) ?_ _
    clear hHeld; dsimp only [onlyN]; go_wp2_with fail
    go_ret
    exact ⟨rfl, HAL.out.1⟩
  by_cases k8 : kd = 8
  · subst k8
    clear k01 k23 k4 k5 k6 k7; have HP5D := Lib.hid (HP5.out.keep (below_drew (Below.refl _ _)))
    obtain ⟨a, P', C', ht1, ht2⟩ := two_spoil HG.out.1 HP5D.out HCQ.out.1 HCQ.out.2.1 HCQ.out.2.2 i' k'
    have HT1 := Lib.hid ht1; have HT2 := Lib.hid ht2; clear ht1 ht2; go_upto_region 22 with fail
    refine wp_only ?_
    refine wp_region_held_drew (S := fun W => W.heap[w.heap.size]? = some (.cells (cellN ⟨8, nr, m, i', k'⟩ tA tc oA oc) 39 (0, 0))) (by kernel_rfl) HO5.out (fun hHeld => ?_)
    refine tkH (i := 0) (oi := ⟨some 127, .move (.tmp 0), 23, "law.go:111", #[], none⟩) (v := ?vv82) ?hy82 ?rest82
    case hy82 => (refine Or.inl ⟨by rfl, ?_⟩; intro W hSw; (try dsimp only at hSw); go_simp; (try with_reducible rfl))
    try simp only [Act.put, pzz]
    refine tkH (i := 1) (oi := ⟨some 128, .fieldAddr 39 (.tmp 5) 3, 0, "law.go:111", #[], none⟩) (v := ?vv83) ?hy83 ?rest83
    case hy83 => (refine Or.inl ⟨by rfl, ?_⟩; intro W hSw; (try dsimp only at hSw); go_simp; (try with_reducible rfl))
    try simp only [Act.put, pzz]
    refine tkH (i := 2) (oi := ⟨some 129, .load 3 (.tmp 128), 3, "law.go:111", #[⟨1, .data⟩], none⟩) (v := (.int .i64 i')) ?hy84 ?rest84
    case hy84 => ((refine Or.inl ⟨by rfl, ?_⟩; intro W hSw; have d13 := cell_of hSw 13; have d14 := cell_of hSw 14; simp at d13 d14; clear hSw; go_simp; (try with_reducible rfl)))
    try simp only [Act.put, pzz]
    refine tkH (i := 3) (oi := ⟨some 130, .fieldAddr 39 (.tmp 5) 4, 0, "law.go:111", #[], none⟩) (v := ?vv85) ?hy85 ?rest85
    case hy85 => (refine Or.inl ⟨by rfl, ?_⟩; intro W hSw; (try dsimp only at hSw); go_simp; (try with_reducible rfl))
    try simp only [Act.put, pzz]
    refine tkH (i := 4) (oi := ⟨some 131, .load 3 (.tmp 130), 3, "law.go:111", #[⟨3, .data⟩], none⟩) (v := (.int .i64 k')) ?hy86 ?rest86
    case hy86 => ((refine Or.inl ⟨by rfl, ?_⟩; intro W hSw; have d13 := cell_of hSw 13; have d14 := cell_of hSw 14; simp at d13 d14; clear hSw; go_simp; (try with_reducible rfl)))
    try simp only [Act.put, pzz]
    refine tkH (i := 6) (oi := ⟨some 133, .move (.tmp 1), 28, "law.go:111", #[], none⟩) (v := ?vv87) ?hy87 ?rest87
    case hy87 => (refine Or.inl ⟨by rfl, ?_⟩; intro W hSw; (try dsimp only at hSw); go_simp; (try with_reducible rfl))
    try simp only [Act.put, pzz]
    refine tkH (i := 7) (oi := ⟨some 134, .fieldAddr 39 (.tmp 5) 3, 0, "law.go:111", #[], none⟩) (v := ?vv88) ?hy88 ?rest88
    case hy88 => (refine Or.inl ⟨by rfl, ?_⟩; intro W hSw; (try dsimp only at hSw); go_simp; (try with_reducible rfl))
    try simp only [Act.put, pzz]
    refine tkH (i := 8) (oi := ⟨some 135, .load 3 (.tmp 134), 3, "law.go:111", #[⟨7, .data⟩], none⟩) (v := (.int .i64 i')) ?hy89 ?rest89
    case hy89 => ((refine Or.inl ⟨by rfl, ?_⟩; intro W hSw; have d13 := cell_of hSw 13; have d14 := cell_of hSw 14; simp at d13 d14; clear hSw; go_simp; (try with_reducible rfl)))
    try simp only [Act.put, pzz]
    refine tkH (i := 9) (oi := ⟨some 136, .fieldAddr 39 (.tmp 5) 4, 0, "law.go:111", #[], none⟩) (v := ?vv90) ?hy90 ?rest90
    case hy90 => (refine Or.inl ⟨by rfl, ?_⟩; intro W hSw; (try dsimp only at hSw); go_simp; (try with_reducible rfl))
    try simp only [Act.put, pzz]
    refine tkH (i := 10) (oi := ⟨some 137, .load 3 (.tmp 136), 3, "law.go:111", #[⟨9, .data⟩], none⟩) (v := (.int .i64 k')) ?hy91 ?rest91
    case hy91 => ((refine Or.inl ⟨by rfl, ?_⟩; intro W hSw; have d13 := cell_of hSw 13; have d14 := cell_of hSw 14; simp at d13 d14; clear hSw; go_simp; (try with_reducible rfl)))
    try simp only [Act.put, pzz]
    refine wpAnyH_ready (rs := [5]) (by kernel_rfl) (by simp) ?_
    refine AllReadyH.cons (o := ⟨some 132, .call { callee := .value (.func 29), args := #[.tmp 127, .tmp 129, .tmp 131], argTypes := #[23, 3, 3] }, 24, "law.go:111", #[⟨0, .data⟩, ⟨2, .data⟩, ⟨4, .data⟩], none⟩) rfl (fun K hK => ?step92) ?more92
    case more92 => exact AllReadyH.nil
    ((go_simp; go_at_call 29; refine (HT1.out).mono ?_; rintro e x1 ⟨rfl, hn1⟩; have HN1 := Lib.hid hn1; clear hn1; go_wp2_with fail))
    refine hK.out _ _ ?hS92 (fun hHeld => ?rr92)
    case hS92 => (exact (HN1.out.2.block _ (heap_lt HO5.out) (fun e => e.2 HOF.out)).trans HO5.out)
    clear hK K; try simp only [Act.put, pzz]
    have HT3 := Lib.hid (HT2.out x1 (HP5D.out.call HN1.out))
    refine wpAnyH_ready (rs := [11]) (by kernel_rfl) (by simp) ?_
    refine AllReadyH.cons (o := ⟨some 138, .call { callee := .value (.func 51), args := #[.tmp 133, .const (.int .i64 4), .tmp 135, .tmp 137], argTypes := #[28, 3, 3, 3] }, 24, "law.go:111", #[⟨6, .data⟩, ⟨8, .data⟩, ⟨10, .data⟩, ⟨5, .chain⟩], none⟩) rfl (fun K hK => ?step93) ?more93
    case more93 => exact AllReadyH.nil
    ((go_simp; go_at_call 51; refine (HT3.out).mono ?_; rintro e x2 ⟨rfl, hal, hT⟩; have HAL := Lib.hid (And.intro hal hT); clear hal hT; go_wp2_with fail))
    refine hK.out _ _ ?hS93 (fun hHeld => ?rr93)
    case hS93 => (exact (HAL.out.2.block _ (Nat.lt_of_lt_of_le (heap_lt HO5.out) HN1.out.2.size) HOR.out).trans ((HN1.out.2.block _ (heap_lt HO5.out) (fun e => e.2 HOF.out)).trans HO5.out))
    clear hK K; try simp only [Act.put, pzz]
    refine tkH (i := 12) (oi := ⟨some 139, .binOp .eql 24 (.tmp 132) (.tmp 138) 24, 4, "law.go:111", #[⟨5, .data⟩, ⟨11, .data⟩], none⟩) (v := (.bool true)) ?hy94 ?rest94
    case hy94 => ((refine Or.inl ⟨by rfl, ?_⟩; intro W hSw; clear hSw; go_simp; (try simp)))
    try simp only [Act.put, pzz]
    refine tkH (i := 13) (oi := ⟨some 6, .assign (.tmp 139), 4, "law.go:111", #[⟨12, .data⟩, ⟨11, .chain⟩, ⟨0, .phase⟩, ⟨1, .phase⟩, ⟨2, .phase⟩, ⟨3, .phase⟩, ⟨4, .phase⟩, ⟨5, .phase⟩, ⟨6, .phase⟩, ⟨7, .phase⟩, ⟨8, .phase⟩, ⟨9, .phase⟩, ⟨10, .phase⟩, ⟨11, .phase⟩, ⟨12, .phase⟩], none⟩) (v := ?vv95) ?hy95 ?rest95
    case hy95 => (refine Or.inl ⟨by rfl, ?_⟩; intro W hSw; (try dsimp only at hSw); go_simp; (try with_reducible rfl))
    try simp only [Act.put, pzz]
    refine wpAnyH_done (by kernel_rfl) ?_ _
    clear hHeld; dsimp only [onlyN]; go_wp2_with fail
    go_ret
    exact ⟨rfl, HAL.out.1⟩
  by_cases k9 : kd = 9
  · subst k9
    clear k01 k23 k4 k5 k6 k7 k8; have HP5D := Lib.hid (HP5.out.keep (below_drew (Below.refl _ _)))
    obtain ⟨a, P', C', ht1, ht2⟩ := two_part HG.out.1 HP5D.out HCQ.out.1 HCQ.out.2.1 i'
    have HT1 := Lib.hid ht1; have HT2 := Lib.hid ht2; clear ht1 ht2; go_upto_region 24 with fail
    refine wp_only ?_
    refine wp_region_held_drew (S := fun W => W.heap[w.heap.size]? = some (.cells (cellN ⟨9, nr, m, i', k'⟩ tA tc oA oc) 39 (0, 0))) (by kernel_rfl) HO5.out (fun hHeld => ?_)
    refine tkH (i := 0) (oi := ⟨some 142, .move (.tmp 0), 23, "law.go:113", #[], none⟩) (v := ?vv96) ?hy96 ?rest96
    case hy96 => (refine Or.inl ⟨by rfl, ?_⟩; intro W hSw; (try dsimp only at hSw); go_simp; (try with_reducible rfl))
    try simp only [Act.put, pzz]
    refine tkH (i := 1) (oi := ⟨some 143, .fieldAddr 39 (.tmp 5) 3, 0, "law.go:113", #[], none⟩) (v := ?vv97) ?hy97 ?rest97
    case hy97 => (refine Or.inl ⟨by rfl, ?_⟩; intro W hSw; (try dsimp only at hSw); go_simp; (try with_reducible rfl))
    try simp only [Act.put, pzz]
    refine tkH (i := 2) (oi := ⟨some 144, .load 3 (.tmp 143), 3, "law.go:113", #[⟨1, .data⟩], none⟩) (v := (.int .i64 i')) ?hy98 ?rest98
    case hy98 => ((refine Or.inl ⟨by rfl, ?_⟩; intro W hSw; have d13 := cell_of hSw 13; have d14 := cell_of hSw 14; simp at d13 d14; clear hSw; go_simp; (try with_reducible rfl)))
    try simp only [Act.put, pzz]
    refine tkH (i := 4) (oi := ⟨some 146, .move (.tmp 1), 28, "law.go:113", #[], none⟩) (v := ?vv99) ?hy99 ?rest99
    case hy99 => (refine Or.inl ⟨by rfl, ?_⟩; intro W hSw; (try dsimp only at hSw); go_simp; (try with_reducible rfl))
    try simp only [Act.put, pzz]
    refine tkH (i := 5) (oi := ⟨some 147, .fieldAddr 39 (.tmp 5) 3, 0, "law.go:113", #[], none⟩) (v := ?vv100) ?hy100 ?rest100
    case hy100 => (refine Or.inl ⟨by rfl, ?_⟩; intro W hSw; (try dsimp only at hSw); go_simp; (try with_reducible rfl))
    try simp only [Act.put, pzz]
    refine tkH (i := 6) (oi := ⟨some 148, .load 3 (.tmp 147), 3, "law.go:113", #[⟨5, .data⟩], none⟩) (v := (.int .i64 i')) ?hy101 ?rest101
    case hy101 => ((refine Or.inl ⟨by rfl, ?_⟩; intro W hSw; have d13 := cell_of hSw 13; have d14 := cell_of hSw 14; simp at d13 d14; clear hSw; go_simp; (try with_reducible rfl)))
    try simp only [Act.put, pzz]
    refine wpAnyH_ready (rs := [3]) (by kernel_rfl) (by simp) ?_
    refine AllReadyH.cons (o := ⟨some 145, .call { callee := .value (.func 32), args := #[.tmp 142, .tmp 144], argTypes := #[23, 3] }, 24, "law.go:113", #[⟨0, .data⟩, ⟨2, .data⟩], none⟩) rfl (fun K hK => ?step102) ?more102
    case more102 => exact AllReadyH.nil
    ((go_simp; go_at_call 32; refine (HT1.out).mono ?_; rintro e x1 ⟨rfl, hn1⟩; have HN1 := Lib.hid hn1; clear hn1; go_wp2_with fail))
    refine hK.out _ _ ?hS102 (fun hHeld => ?rr102)
    case hS102 => (exact (HN1.out.2.block _ (heap_lt HO5.out) (fun e => e.2 HOF.out)).trans HO5.out)
    clear hK K; try simp only [Act.put, pzz]
    have HT3 := Lib.hid (HT2.out x1 (HP5D.out.call HN1.out))
    refine wpAnyH_ready (rs := [7]) (by kernel_rfl) (by simp) ?_
    refine AllReadyH.cons (o := ⟨some 149, .call { callee := .value (.func 52), args := #[.tmp 146, .tmp 148, .const (.bool true)], argTypes := #[28, 3, 4] }, 24, "law.go:113", #[⟨4, .data⟩, ⟨6, .data⟩, ⟨3, .chain⟩], none⟩) rfl (fun K hK => ?step103) ?more103
    case more103 => exact AllReadyH.nil
    ((go_simp; go_at_call 52; refine (HT3.out).mono ?_; rintro e x2 ⟨rfl, hal, hT⟩; have HAL := Lib.hid (And.intro hal hT); clear hal hT; go_wp2_with fail))
    refine hK.out _ _ ?hS103 (fun hHeld => ?rr103)
    case hS103 => (exact (HAL.out.2.block _ (Nat.lt_of_lt_of_le (heap_lt HO5.out) HN1.out.2.size) HOR.out).trans ((HN1.out.2.block _ (heap_lt HO5.out) (fun e => e.2 HOF.out)).trans HO5.out))
    clear hK K; try simp only [Act.put, pzz]
    refine tkH (i := 8) (oi := ⟨some 150, .binOp .eql 24 (.tmp 145) (.tmp 149) 24, 4, "law.go:113", #[⟨3, .data⟩, ⟨7, .data⟩], none⟩) (v := (.bool true)) ?hy104 ?rest104
    case hy104 => ((refine Or.inl ⟨by rfl, ?_⟩; intro W hSw; clear hSw; go_simp; (try simp)))
    try simp only [Act.put, pzz]
    refine tkH (i := 9) (oi := ⟨some 6, .assign (.tmp 150), 4, "law.go:113", #[⟨8, .data⟩, ⟨7, .chain⟩, ⟨0, .phase⟩, ⟨1, .phase⟩, ⟨2, .phase⟩, ⟨3, .phase⟩, ⟨4, .phase⟩, ⟨5, .phase⟩, ⟨6, .phase⟩, ⟨7, .phase⟩, ⟨8, .phase⟩], none⟩) (v := ?vv105) ?hy105 ?rest105
    case hy105 => (refine Or.inl ⟨by rfl, ?_⟩; intro W hSw; (try dsimp only at hSw); go_simp; (try with_reducible rfl))
    try simp only [Act.put, pzz]
    refine wpAnyH_done (by kernel_rfl) ?_ _
    clear hHeld; dsimp only [onlyN]; go_wp2_with fail
    go_ret
    exact ⟨rfl, HAL.out.1⟩
  by_cases k10 : kd = 10
  · subst k10
    clear k01 k23 k4 k5 k6 k7 k8 k9; have HP5D := Lib.hid (HP5.out.keep (below_drew (Below.refl _ _)))
    obtain ⟨a, P', C', ht1, ht2⟩ := two_heal HG.out.1 HP5D.out HCQ.out.1 HCQ.out.2.1 i'
    have HT1 := Lib.hid ht1; have HT2 := Lib.hid ht2; clear ht1 ht2; go_upto_region 26 with fail
    refine wp_only ?_
    refine wp_region_held_drew (S := fun W => W.heap[w.heap.size]? = some (.cells (cellN ⟨10, nr, m, i', k'⟩ tA tc oA oc) 39 (0, 0))) (by kernel_rfl) HO5.out (fun hHeld => ?_)
    refine tkH (i := 0) (oi := ⟨some 153, .move (.tmp 0), 23, "law.go:115", #[], none⟩) (v := ?vv106) ?hy106 ?rest106
    case hy106 => (refine Or.inl ⟨by rfl, ?_⟩; intro W hSw; (try dsimp only at hSw); go_simp; (try with_reducible rfl))
    try simp only [Act.put, pzz]
    refine tkH (i := 1) (oi := ⟨some 154, .fieldAddr 39 (.tmp 5) 3, 0, "law.go:115", #[], none⟩) (v := ?vv107) ?hy107 ?rest107
    case hy107 => (refine Or.inl ⟨by rfl, ?_⟩; intro W hSw; (try dsimp only at hSw); go_simp; (try with_reducible rfl))
    try simp only [Act.put, pzz]
    refine tkH (i := 2) (oi := ⟨some 155, .load 3 (.tmp 154), 3, "law.go:115", #[⟨1, .data⟩], none⟩) (v := (.int .i64 i')) ?hy108 ?rest108
    case hy108 => ((refine Or.inl ⟨by rfl, ?_⟩; intro W hSw; have d13 := cell_of hSw 13; have d14 := cell_of hSw 14; simp at d13 d14; clear hSw; go_simp; (try with_reducible rfl)))
    try simp only [Act.put, pzz]
    refine tkH (i := 4) (oi := ⟨some 157, .move (.tmp 1), 28, "law.go:115", #[], none⟩) (v := ?vv109) ?hy109 ?rest109
    case hy109 => (refine Or.inl ⟨by rfl, ?_⟩; intro W hSw; (try dsimp only at hSw); go_simp; (try with_reducible rfl))
    try simp only [Act.put, pzz]
    refine tkH (i := 5) (oi := ⟨some 158, .fieldAddr 39 (.tmp 5) 3, 0, "law.go:115", #[], none⟩) (v := ?vv110) ?hy110 ?rest110
    case hy110 => (refine Or.inl ⟨by rfl, ?_⟩; intro W hSw; (try dsimp only at hSw); go_simp; (try with_reducible rfl))
    try simp only [Act.put, pzz]
    refine tkH (i := 6) (oi := ⟨some 159, .load 3 (.tmp 158), 3, "law.go:115", #[⟨5, .data⟩], none⟩) (v := (.int .i64 i')) ?hy111 ?rest111
    case hy111 => ((refine Or.inl ⟨by rfl, ?_⟩; intro W hSw; have d13 := cell_of hSw 13; have d14 := cell_of hSw 14; simp at d13 d14; clear hSw; go_simp; (try with_reducible rfl)))
    try simp only [Act.put, pzz]
    refine wpAnyH_ready (rs := [3]) (by kernel_rfl) (by simp) ?_
    refine AllReadyH.cons (o := ⟨some 156, .call { callee := .value (.func 33), args := #[.tmp 153, .tmp 155], argTypes := #[23, 3] }, 24, "law.go:115", #[⟨0, .data⟩, ⟨2, .data⟩], none⟩) rfl (fun K hK => ?step112) ?more112
    case more112 => exact AllReadyH.nil
    ((go_simp; go_at_call 33; refine (HT1.out).mono ?_; rintro e x1 ⟨rfl, hn1⟩; have HN1 := Lib.hid hn1; clear hn1; go_wp2_with fail))
    refine hK.out _ _ ?hS112 (fun hHeld => ?rr112)
    case hS112 => (exact (HN1.out.2.block _ (heap_lt HO5.out) (fun e => e.2 HOF.out)).trans HO5.out)
    clear hK K; try simp only [Act.put, pzz]
    have HT3 := Lib.hid (HT2.out x1 (HP5D.out.call HN1.out))
    refine wpAnyH_ready (rs := [7]) (by kernel_rfl) (by simp) ?_
    refine AllReadyH.cons (o := ⟨some 160, .call { callee := .value (.func 52), args := #[.tmp 157, .tmp 159, .const (.bool false)], argTypes := #[28, 3, 4] }, 24, "law.go:115", #[⟨4, .data⟩, ⟨6, .data⟩, ⟨3, .chain⟩], none⟩) rfl (fun K hK => ?step113) ?more113
    case more113 => exact AllReadyH.nil
    ((go_simp; go_at_call 52; refine (HT3.out).mono ?_; rintro e x2 ⟨rfl, hal, hT⟩; have HAL := Lib.hid (And.intro hal hT); clear hal hT; go_wp2_with fail))
    refine hK.out _ _ ?hS113 (fun hHeld => ?rr113)
    case hS113 => (exact (HAL.out.2.block _ (Nat.lt_of_lt_of_le (heap_lt HO5.out) HN1.out.2.size) HOR.out).trans ((HN1.out.2.block _ (heap_lt HO5.out) (fun e => e.2 HOF.out)).trans HO5.out))
    clear hK K; try simp only [Act.put, pzz]
    refine tkH (i := 8) (oi := ⟨some 161, .binOp .eql 24 (.tmp 156) (.tmp 160) 24, 4, "law.go:115", #[⟨3, .data⟩, ⟨7, .data⟩], none⟩) (v := (.bool true)) ?hy114 ?rest114
    case hy114 => ((refine Or.inl ⟨by rfl, ?_⟩; intro W hSw; clear hSw; go_simp; (try simp)))
    try simp only [Act.put, pzz]
    refine tkH (i := 9) (oi := ⟨some 6, .assign (.tmp 161), 4, "law.go:115", #[⟨8, .data⟩, ⟨7, .chain⟩, ⟨0, .phase⟩, ⟨1, .phase⟩, ⟨2, .phase⟩, ⟨3, .phase⟩, ⟨4, .phase⟩, ⟨5, .phase⟩, ⟨6, .phase⟩, ⟨7, .phase⟩, ⟨8, .phase⟩], none⟩) (v := ?vv115) ?hy115 ?rest115
    case hy115 => (refine Or.inl ⟨by rfl, ?_⟩; intro W hSw; (try dsimp only at hSw); go_simp; (try with_reducible rfl))
    try simp only [Act.put, pzz]
    refine wpAnyH_done (by kernel_rfl) ?_ _
    clear hHeld; dsimp only [onlyN]; go_wp2_with fail
    go_ret
    exact ⟨rfl, HAL.out.1⟩
  by_cases k11 : kd = 11
  · subst k11
    clear k01 k23 k4 k5 k6 k7 k8 k9 k10; have hl5 := HCQ.out.2.2
    have HTI := Lib.hid (nc_tick HP5.out.net (fun p hp => by
      obtain ⟨x, hx, rfl⟩ := List.mem_map.1 hp
      exact (HCQ.out.2.1 x hx).1))
    have htk : (Q.map RP.p).map tickP = (Q.map RP.tick).map RP.p := by rw [List.map_map, List.map_map]; rfl
    rw [htk] at HTI; clear htk hl5; go_wp2_with fail
    refine (HTI.out).mono ?_
    rintro e x1 ⟨rfl, hn1⟩
    have HP6 := Lib.hid (HP5.out.call hn1)
    have HRT := Lib.hid (rntick_any HP6.out.ref (by have := HCQ.out.2.2; omega) (fun x hx => (HCQ.out.2.1 x hx).1))
    clear hn1; go_wp2_with fail
    refine (HRT.out).mono ?_
    rintro e x2 ⟨rfl, hp⟩
    have HAL : Hid (Alike w0 x2 b r most (Q.length + 1)) := Lib.hid (by
      obtain ⟨v', hv⟩ := HP6.out.row hp (fun y hy => by
        obtain ⟨x, hx, rfl⟩ := List.mem_map.1 hy
        exact ⟨x, hx, rfl, rfl⟩)
      refine ⟨v', _, _, C, ct, hv, HCQ.out.1, fun y hy => ?_, by rw [List.length_map]; omega⟩
      obtain ⟨x, hx, rfl⟩ := List.mem_map.1 hy
      have := (HCQ.out.2.1 x hx)
      refine ⟨?_, this.2⟩
      show 0 ≤ max (x.waits - 1) 0 ∧ max (x.waits - 1) 0 ≤ 1000
      omega)
    clear hp; go_wp2_with fail
    go_ret
    exact ⟨rfl, HAL.out⟩
  · have b0 : (kd == 0) = false := by rw [beq_eq_false_iff_ne]; omega
    have b1 : (kd == 1) = false := by rw [beq_eq_false_iff_ne]; omega
    have b2 : (kd == 2) = false := by rw [beq_eq_false_iff_ne]; omega
    have b3 : (kd == 3) = false := by rw [beq_eq_false_iff_ne]; omega
    have b4 : (kd == 4) = false := by rw [beq_eq_false_iff_ne]; omega
    have b5 : (kd == 5) = false := by rw [beq_eq_false_iff_ne]; omega
    have b6 : (kd == 6) = false := by rw [beq_eq_false_iff_ne]; omega
    have b7 : (kd == 7) = false := by rw [beq_eq_false_iff_ne]; omega
    have b8 : (kd == 8) = false := by rw [beq_eq_false_iff_ne]; omega
    have b9 : (kd == 9) = false := by rw [beq_eq_false_iff_ne]; omega
    have b10 : (kd == 10) = false := by rw [beq_eq_false_iff_ne]; omega
    have b11 : (kd == 11) = false := by rw [beq_eq_false_iff_ne]; omega
    clear k01 k23 k4 k5 k6 k7 k8 k9 k10 k11; have HAL : Hid (Alike w0 W5 b r most (Q.length + 1)) := Lib.hid ⟨v, _, Q, C, ct, HP5.out, HCQ.out.1, HCQ.out.2.1, by omega⟩
    go_wp2_with fail
    go_ret
    exact ⟨rfl, HAL.out⟩
end
end Go.Proofs.YtmbonngjkgcijaaGreatDoor
