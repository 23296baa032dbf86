/- NetCarries: its walk. -/
import Derived.Test.YtfddlhcdlgdofaaGreatDoorZNetV
import Derived.Test.YtfddlhcdlgdofaaGreatDoorZNetL
set_option linter.unusedSimpArgs false
set_option linter.unusedVariables false
set_option linter.unnecessarySimpa false
namespace Go.Proofs.YtfddlhcdlgdofaaGreatDoor
open Go.RowKit Go.Shelf
set_option maxRecDepth 100000 in
set_option maxHeartbeats 16000000 in
theorem law_carries {w : World} (hG : Glob w) (hM : Mov w) {v : Value} {l : List OpN} (hv : OpnsAt w v l) (hin : ∀ o ∈ l, MsgIn o.m ∧ (-9223372036854775808 ≤ o.i ∧ o.i ≤ 9223372036854775807) ∧ (-9223372036854775808 ≤ o.k ∧ o.k ≤ 9223372036854775807)) :
    Calls Tryz.prog 4 #[v] w fun e w' => e = .returned (.bool true) ∧ Below w.heap.size w w' := by
  have HG := Lib.hid (And.intro hG hM)
  obtain ⟨A, cap, rfl, hc1, hc2, hel⟩ := hv
  unfold maxLen at hc2
  obtain ⟨n, hn⟩ : ∃ n, l.length = n := ⟨_, rfl⟩
  rw [hn] at hc1 ⊢
  have HEL := Lib.hid hel
  have HN := Lib.hid hn
  have HIN := Lib.hid hin
  have HNE := Lib.hid (nc_new (w := w) (most := 100) (by decide) (by decide))
  clear hG hM hel hn hin
  go_enter Tryz.func4, Tryz.ntmps4
  go_wp2_with fail
  refine (HNE.out).mono ?_
  rintro e w1 ⟨b, rfl, hn1⟩
  have HST : Hid (CarI w w1 b 0 (.slice none 0 0) [] (fun _ => False)) := Lib.hid ⟨[], OrdM.none hn1.bel, hn1, QOk.nil, Nat.le_refl _, Nat.le_refl _⟩
  clear hn1 HNE
  go_wp2_with fail
  go_loopw [5, 28] (fun sv iv wr => ∃ (i : Nat) (S : List Ot) (F : Nat → Prop), i ≤ n ∧ i ≤ 60 ∧ iv = .int .i64 i ∧ CarI w wr b i sv S F) (fun _ iv _ => n - (intOf iv).toNat)
  case atStart => exact ⟨0, [], _, Nat.zero_le _, Nat.zero_le _, rfl, HST.out⟩
  case round =>
    obtain ⟨i, S, F, hi, hi60, rfl, P, hS, hN, hQ, hPl, hSl⟩ := hrel
    by_cases hlt : i < n
    · obtain ⟨o, ho⟩ : ∃ o, l[i]? = some o := ⟨_, List.getElem?_eq_getElem (by rw [HN.out]; exact hlt)⟩
      obtain ⟨hom, hoi, hok⟩ := HIN.out o (List.mem_of_getElem? ho)
      have HMI := Lib.hid (nmsg_cut hom)
      obtain ⟨a, tA, tc, oA, oc, rfl, q1, hM, hnm, hops⟩ := HEL.out i o ho
      have hM' := hM.below (by rw [add_block]; exact q1) hS.bel
      unfold N15 at hM'
      obtain ⟨m0, m1, m2, m3, m4, m5, m6, m7, m8, m9, m10, m11, m12, m13, m14⟩ := hM'
      obtain ⟨W2, hW2⟩ : ∃ W, W = wr.alloc (.cells (cellN o tA tc oA oc) 39) := ⟨_, rfl⟩
      have hb2 : Below wr.heap.size wr W2 := by rw [hW2]; exact below_new _
      have hB2 := hS.bel.trans (hb2.mono hS.bel.size)
      have hat2 : W2.heap[wr.heap.size]? = some (.cells (cellN o tA tc oA oc) 39 (0, 0)) := by rw [hW2]; exact alloc_at _ _
      have HCN := Lib.hid (And.intro hnm hops)
      have HS := Lib.hid (And.intro hS (And.intro hN hQ))
      have HL := Lib.hid (And.intro hPl (And.intro hSl (And.intro hlt hi60)))
      have HB2 := Lib.hid (And.intro hb2 hB2)
      have HA2 := Lib.hid hat2
      have HW2 := Lib.hid hW2
      obtain ⟨sA, sc, rfl, _⟩ := id hS.row.form
      have hiI : (i : Int) < (n : Int) := by omega
      by_cases h60 : i < 60
      · have hq60 : decide ((i : Int) ≥ 60) = false := by simp; omega
        have H60 := Lib.hid h60
        have HLE := Lib.hid (fun W (hW : Below wr.heap.size wr W) => nc_len (hN.below hW))
        have HNR := Lib.hid (fun W => near_any (w := W) o P.length (by omega) hoi hok tA oA tc oc)
        clear hM hnm hops hom hoi hok ho hS hN hQ hPl hSl hlt hi60 h60 hb2 hB2 hW2 q1
        go_upto_region 9 with fail
        rw [← HW2.out]
        clear m0 m1 m2 m3 m4 m5 m6 m7 m8 m9 m10 m11 m12 m13 m14
        go_cut [] (fun wx => ∃ i' k', (-9223372036854775808 ≤ i' ∧ i' ≤ 9223372036854775807) ∧ (-9223372036854775808 ≤ k' ∧ k' ≤ 9223372036854775807) ∧ wx.heap[wr.heap.size]? = some (.cells (cellN { o with i := i', k := k' } tA tc oA oc) 39 (0, 0)) ∧ Below wr.heap.size wr wx)
        case first =>
          have hd2 : W2.drew.heap[wr.heap.size]? = some (.cells (cellN o tA tc oA oc) 39 (0, 0)) := HA2.out
          have HLD := Lib.hid (HLE.out W2.drew (below_drew HB2.out.1))
          have c0 := cell_of hd2 0
          have c1 := cell_of hd2 1
          have c2 := cell_of hd2 2
          have c3 := cell_of hd2 3
          have c4 := cell_of hd2 4
          have c5 := cell_of hd2 5
          have c6 := cell_of hd2 6
          have c7 := cell_of hd2 7
          have c8 := cell_of hd2 8
          have c9 := cell_of hd2 9
          have c10 := cell_of hd2 10
          have c11 := cell_of hd2 11
          have c12 := cell_of hd2 12
          have c13 := cell_of hd2 13
          have c14 := cell_of hd2 14
          simp at c0 c1 c2 c3 c4 c5 c6 c7 c8 c9 c10 c11 c12 c13 c14
          refine wp_only ?_
          refine wp_region_held_drew (S := fun _ => True) (by kernel_rfl) trivial (fun hHeld => ?_)
          refine wpAnyH_take (i := 1) (oi := { dst := some 36, op := Op.move (Operand.tmp 3), type := 23, pos := "law.go:151", after := #[], guard := none }) (v := ?vv1) rfl (by kernel_rfl) (by kernel_rfl) (by kernel_rfl) (fun _ _ _ h => h) ?hy1 (by assumption) ?rest1
          case hy1 => (refine Or.inl ⟨by rfl, ?_⟩; intro W hSw; (try dsimp only at hSw); go_simp; (try with_reducible rfl))
          try simp only [Act.put, List.setIfInBounds_toArray, List.set_cons_zero, List.set_cons_succ]
          refine wpAnyH_ready (rs := [0, 2]) (by kernel_rfl) (by simp) ?_
          refine AllReadyH.cons (o := { dst := some 35, op := Op.load 39 (Operand.tmp 7), type := 39, pos := "law.go:151", after := #[], guard := none }) rfl (fun K hK => ?step2) ?more2
          ((go_simp; go_wp2_with fail))
          refine hK.out _ _ ?hS2 (fun hHeld => ?rr2)
          case hS2 => (exact trivial)
          clear hK K
          try simp only [Act.put, List.setIfInBounds_toArray, List.set_cons_zero, List.set_cons_succ]
          · refine wpAnyH_ready (rs := [2]) (by kernel_rfl) (by simp) ?_
            refine AllReadyH.cons (o := { dst := some 37, op := Op.call { callee := Callee.value (Operand.func 16), args := #[Operand.tmp 36], argTypes := #[23] }, type := 3, pos := "law.go:151", after := #[{ on := 1, ground := Ground.data }], guard := none }) rfl (fun K hK => ?step3) ?more3
            case more3 => exact AllReadyH.nil
            ((go_simp; go_at_call 16; refine (HLD.out).mono ?_; rintro e x1 ⟨rfl, rfl⟩; go_wp2_with fail))
            refine hK.out _ _ ?hS3 (fun hHeld => ?rr3)
            case hS3 => (exact trivial)
            clear hK K
            try simp only [Act.put, List.setIfInBounds_toArray, List.set_cons_zero, List.set_cons_succ]
            refine wpAnyH_ready (rs := [3]) (by kernel_rfl) (by simp) ?_
            refine AllReadyH.cons (o := { dst := some 38, op := Op.call { callee := Callee.value (Operand.func 15), args := #[Operand.tmp 35, Operand.tmp 37], argTypes := #[39, 3] }, type := 39, pos := "law.go:151", after := #[{ on := 0, ground := Ground.data }, { on := 2, ground := Ground.data }, { on := 2, ground := Ground.chain }], guard := none }) rfl (fun K hK => ?step4) ?more4
            case more4 => exact AllReadyH.nil
            ((go_simp; go_at_call 15; refine (HNR.out _).mono ?_; rintro e x2 ⟨i', k', rfl, hi', hk', hb2⟩; have X2 := Lib.hid (And.intro hi' (And.intro hk' hb2)); clear hi' hk' hb2; go_wp2_with fail))
            refine hK.out _ _ ?hS4 (fun hHeld => ?rr4)
            case hS4 => (exact trivial)
            clear hK K
            try simp only [Act.put, List.setIfInBounds_toArray, List.set_cons_zero, List.set_cons_succ]
            have hat3 := (X2.out.2.2.block _ (heap_lt hd2)).trans hd2
            have e0 := cell_of hat3 0
            have e1 := cell_of hat3 1
            have e2 := cell_of hat3 2
            have e3 := cell_of hat3 3
            have e4 := cell_of hat3 4
            have e5 := cell_of hat3 5
            have e6 := cell_of hat3 6
            have e7 := cell_of hat3 7
            have e8 := cell_of hat3 8
            have e9 := cell_of hat3 9
            have e10 := cell_of hat3 10
            have e11 := cell_of hat3 11
            have e12 := cell_of hat3 12
            have e13 := cell_of hat3 13
            have e14 := cell_of hat3 14
            simp at e0 e1 e2 e3 e4 e5 e6 e7 e8 e9 e10 e11 e12 e13 e14
            have f0 := free0 hat3 0
            have f1 := free0 hat3 1
            have f2 := free0 hat3 2
            have f3 := free0 hat3 3
            have f4 := free0 hat3 4
            have f5 := free0 hat3 5
            have f6 := free0 hat3 6
            have f7 := free0 hat3 7
            have f8 := free0 hat3 8
            have f9 := free0 hat3 9
            have f10 := free0 hat3 10
            have f11 := free0 hat3 11
            have f12 := free0 hat3 12
            have f13 := free0 hat3 13
            have f14 := free0 hat3 14
            clear c0 c1 c2 c3 c4 c5 c6 c7 c8 c9 c10 c11 c12 c13 c14
            refine wpAnyH_ready (rs := [4]) (by kernel_rfl) (by simp) ?_
            refine AllReadyH.cons (o := { dst := none, op := Op.store 39 (Operand.tmp 7) (Operand.tmp 38), type := 0, pos := "law.go:151", after := #[{ on := 3, ground := Ground.data }, { on := 3, ground := Ground.chain }, { on := 0, ground := Ground.phase }, { on := 1, ground := Ground.phase }, { on := 2, ground := Ground.phase }, { on := 3, ground := Ground.phase }], guard := none }) rfl (fun K hK => ?step5) ?more5
            case more5 => exact AllReadyH.nil
            ((go_simp; go_wp2_with fail))
            refine hK.out _ _ ?hS5 (fun hHeld => ?rr5)
            case hS5 => (exact trivial)
            clear hK K
            try simp only [Act.put, List.setIfInBounds_toArray, List.set_cons_zero, List.set_cons_succ]
            clear e0 e1 e2 e3 e4 e5 e6 e7 e8 e9 e10 e11 e12 e13 e14 f0 f1 f2 f3 f4 f5 f6 f7 f8 f9 f10 f11 f12 f13 f14
            refine wpAnyH_done (by kernel_rfl) ?_ _
            clear hHeld
            dsimp only [onlyN]
            have hZ4 := setCells_at wr.heap.size (cellN { o with i := i', k := k' } tA tc oA oc).toList [] (cellN o tA tc oA oc).toList x2 rfl hat3
            have hT4 := setCells_touch (S := fun k => k = wr.heap.size) (a := x2) wr.heap.size (fun _ => rfl) (cellN { o with i := i', k := k' } tA tc oA oc).toList 0 x2 (Touch.refl _ _)
            simp only [List.length_nil, List.nil_append] at hZ4
            have hb23 : Below wr.heap.size wr x2 := (below_drew HB2.out.1).trans (X2.out.2.2.mono HB2.out.1.size)
            go_wp2_with fail
            go_meet
            exact ⟨i', k', X2.out.1, X2.out.2.1, hZ4, hb23.trans (hT4.below (fun i e => by rw [e]; exact Nat.le_refl _) hb23.size)⟩
          · refine AllReadyH.cons (o := { dst := some 37, op := Op.call { callee := Callee.value (Operand.func 16), args := #[Operand.tmp 36], argTypes := #[23] }, type := 3, pos := "law.go:151", after := #[{ on := 1, ground := Ground.data }], guard := none }) rfl (fun K hK => ?step6) ?more6
            case more6 => exact AllReadyH.nil
            ((go_simp; go_at_call 16; refine (HLD.out).mono ?_; rintro e x1 ⟨rfl, rfl⟩; go_wp2_with fail))
            refine hK.out _ _ ?hS6 (fun hHeld => ?rr6)
            case hS6 => (exact trivial)
            clear hK K
            try simp only [Act.put, List.setIfInBounds_toArray, List.set_cons_zero, List.set_cons_succ]
            refine wpAnyH_ready (rs := [0]) (by kernel_rfl) (by simp) ?_
            refine AllReadyH.cons (o := { dst := some 35, op := Op.load 39 (Operand.tmp 7), type := 39, pos := "law.go:151", after := #[], guard := none }) rfl (fun K hK => ?step7) ?more7
            case more7 => exact AllReadyH.nil
            ((go_simp; go_wp2_with fail))
            refine hK.out _ _ ?hS7 (fun hHeld => ?rr7)
            case hS7 => (exact trivial)
            clear hK K
            try simp only [Act.put, List.setIfInBounds_toArray, List.set_cons_zero, List.set_cons_succ]
            refine wpAnyH_ready (rs := [3]) (by kernel_rfl) (by simp) ?_
            refine AllReadyH.cons (o := { dst := some 38, op := Op.call { callee := Callee.value (Operand.func 15), args := #[Operand.tmp 35, Operand.tmp 37], argTypes := #[39, 3] }, type := 39, pos := "law.go:151", after := #[{ on := 0, ground := Ground.data }, { on := 2, ground := Ground.data }, { on := 2, ground := Ground.chain }], guard := none }) rfl (fun K hK => ?step8) ?more8
            case more8 => exact AllReadyH.nil
            ((go_simp; go_at_call 15; refine (HNR.out _).mono ?_; rintro e x2 ⟨i', k', rfl, hi', hk', hb2⟩; have X2 := Lib.hid (And.intro hi' (And.intro hk' hb2)); clear hi' hk' hb2; go_wp2_with fail))
            refine hK.out _ _ ?hS8 (fun hHeld => ?rr8)
            case hS8 => (exact trivial)
            clear hK K
            try simp only [Act.put, List.setIfInBounds_toArray, List.set_cons_zero, List.set_cons_succ]
            have hat3 := (X2.out.2.2.block _ (heap_lt hd2)).trans hd2
            have e0 := cell_of hat3 0
            have e1 := cell_of hat3 1
            have e2 := cell_of hat3 2
            have e3 := cell_of hat3 3
            have e4 := cell_of hat3 4
            have e5 := cell_of hat3 5
            have e6 := cell_of hat3 6
            have e7 := cell_of hat3 7
            have e8 := cell_of hat3 8
            have e9 := cell_of hat3 9
            have e10 := cell_of hat3 10
            have e11 := cell_of hat3 11
            have e12 := cell_of hat3 12
            have e13 := cell_of hat3 13
            have e14 := cell_of hat3 14
            simp at e0 e1 e2 e3 e4 e5 e6 e7 e8 e9 e10 e11 e12 e13 e14
            have f0 := free0 hat3 0
            have f1 := free0 hat3 1
            have f2 := free0 hat3 2
            have f3 := free0 hat3 3
            have f4 := free0 hat3 4
            have f5 := free0 hat3 5
            have f6 := free0 hat3 6
            have f7 := free0 hat3 7
            have f8 := free0 hat3 8
            have f9 := free0 hat3 9
            have f10 := free0 hat3 10
            have f11 := free0 hat3 11
            have f12 := free0 hat3 12
            have f13 := free0 hat3 13
            have f14 := free0 hat3 14
            clear c0 c1 c2 c3 c4 c5 c6 c7 c8 c9 c10 c11 c12 c13 c14
            refine wpAnyH_ready (rs := [4]) (by kernel_rfl) (by simp) ?_
            refine AllReadyH.cons (o := { dst := none, op := Op.store 39 (Operand.tmp 7) (Operand.tmp 38), type := 0, pos := "law.go:151", after := #[{ on := 3, ground := Ground.data }, { on := 3, ground := Ground.chain }, { on := 0, ground := Ground.phase }, { on := 1, ground := Ground.phase }, { on := 2, ground := Ground.phase }, { on := 3, ground := Ground.phase }], guard := none }) rfl (fun K hK => ?step9) ?more9
            case more9 => exact AllReadyH.nil
            ((go_simp; go_wp2_with fail))
            refine hK.out _ _ ?hS9 (fun hHeld => ?rr9)
            case hS9 => (exact trivial)
            clear hK K
            try simp only [Act.put, List.setIfInBounds_toArray, List.set_cons_zero, List.set_cons_succ]
            clear e0 e1 e2 e3 e4 e5 e6 e7 e8 e9 e10 e11 e12 e13 e14 f0 f1 f2 f3 f4 f5 f6 f7 f8 f9 f10 f11 f12 f13 f14
            refine wpAnyH_done (by kernel_rfl) ?_ _
            clear hHeld
            dsimp only [onlyN]
            have hZ4 := setCells_at wr.heap.size (cellN { o with i := i', k := k' } tA tc oA oc).toList [] (cellN o tA tc oA oc).toList x2 rfl hat3
            have hT4 := setCells_touch (S := fun k => k = wr.heap.size) (a := x2) wr.heap.size (fun _ => rfl) (cellN { o with i := i', k := k' } tA tc oA oc).toList 0 x2 (Touch.refl _ _)
            simp only [List.length_nil, List.nil_append] at hZ4
            have hb23 : Below wr.heap.size wr x2 := (below_drew HB2.out.1).trans (X2.out.2.2.mono HB2.out.1.size)
            go_wp2_with fail
            go_meet
            exact ⟨i', k', X2.out.1, X2.out.2.1, hZ4, hb23.trans (hT4.below (fun i e => by rw [e]; exact Nat.le_refl _) hb23.size)⟩
        case rest =>
        obtain ⟨i', k', hi', hk', hat3, hb3⟩ := hcut
        obtain ⟨kd, nr, m, oi, ok⟩ := o
        simp only at hat3 HCN HMI
        have hB3 := HS.out.1.bel.trans (hb3.mono HS.out.1.bel.size)
        have HCU := Lib.hid (lawcut_cells (w := wc) (m := m) (HCN.out.1.below hB3) (HCN.out.2.below hB3))
        have HNU := Lib.hid (cut_nums HCN.out.1)
        have HIK := Lib.hid (And.intro hi' hk')
        have HA3 := Lib.hid hat3
        have HB3 := Lib.hid (And.intro hb3 hB3)
        have c0 := cell_of hat3 0
        have c1 := cell_of hat3 1
        have c2 := cell_of hat3 2
        have c3 := cell_of hat3 3
        have c4 := cell_of hat3 4
        have c5 := cell_of hat3 5
        have c6 := cell_of hat3 6
        have c7 := cell_of hat3 7
        have c8 := cell_of hat3 8
        have c9 := cell_of hat3 9
        have c10 := cell_of hat3 10
        have c11 := cell_of hat3 11
        have c12 := cell_of hat3 12
        have c13 := cell_of hat3 13
        have c14 := cell_of hat3 14
        simp at c0 c1 c2 c3 c4 c5 c6 c7 c8 c9 c10 c11 c12 c13 c14
        clear hi' hk' hat3 hb3 hB3
        go_upto_region 10 with fail
        clear c0 c1 c13 c14
        go_wp2_with fail
        refine (HCU.out).mono ?_
        rintro e w4 ⟨oB, od, rfl, _, hro, hb4⟩
        clear c2 c3 c4 c5 c6 c7 c8 c9 c10 c11 c12
        have hb5 := below_new (w := w4) (.cells (cellM (cutM m) tA tc oB od) 37)
        have hat5 := alloc_at w4 (.cells (cellM (cutM m) tA tc oB od) 37)
        obtain ⟨W5, hW5⟩ : ∃ W, W = w4.alloc (.cells (cellM (cutM m) tA tc oB od) 37) := ⟨_, rfl⟩
        rw [← hW5] at hb5 hat5
        have hb35 : Below wc.heap.size wc W5 := hb4.trans (hb5.mono hb4.size)
        have hbr5 : Below wr.heap.size wr W5 := HB3.out.1.trans (hb35.mono HB3.out.1.size)
        have hB5 := HS.out.1.bel.trans (hbr5.mono HS.out.1.bel.size)
        have HM5 : Hid (MsgIs W5 (.agg (cellM (cutM m) tA tc oB od)) (cutM m)) := Lib.hid ⟨tA, tc, oB, od, rfl, HNU.out.below hB5, RowIs.ops (hro.1.below hb5) rfl, nkeys_cut m⟩
        have HO5 := Lib.hid ((hb35.block _ (heap_lt HA3.out)).trans HA3.out)
        have HA5 := Lib.hid hat5
        have HB5 := Lib.hid (And.intro hbr5 hB5)
        have HS5 := Lib.hid (And.intro (HS.out.1.more hbr5) (HS.out.2.1.add hbr5))
        have HRO := Lib.hid (And.intro hro (And.intro hb5 hb4.size))
        have HW5 := Lib.hid hW5
        have HQ := Lib.hid HS.out.2.2
        clear hro hb4 hb5 hat5 hW5 hb35 hbr5 hB5 HCU
        go_upto_region 11 with fail
        rw [← HW5.out]
        have c0 := cell_of HO5.out 0
        have c13 := cell_of HO5.out 13
        have c14 := cell_of HO5.out 14
        simp at c0 c13 c14
        go_upto_block 2 with fail
        have hwk : IntKind.i64.wrap ((i : Int) + 1) = (i : Int) + 1 := IntWalk.i64_in _ (by have := H60.out; omega)
        · have HLI := Lib.hid (And.intro HL.out.1 HL.out.2.1)
          by_cases k01 : kd = 0 ∨ kd = 1
          · have hbk : ((kd == 0) = true) ∨ ((kd == 0) = false ∧ (kd == 1) = true) := by rcases k01 with rfl | rfl; exact .inl rfl; exact .inr ⟨rfl, rfl⟩
            clear c13 c14 k01
            go_upto_if 44 with fail
            go_cut [44] (fun v wx => v = .bool true ∧ W5 = wx)
            case first =>
              rcases hbk with h0 | ⟨h0, h1⟩
              · go_wp2_with fail
                go_meet
                first | exact ⟨rfl, rfl⟩ | exact ⟨congrArg Value.bool h0, rfl⟩
              · go_wp2_with fail
                go_meet
                first | exact ⟨rfl, rfl⟩ | exact ⟨congrArg Value.bool h1, rfl⟩
            case rest =>
            obtain ⟨rfl, rfl⟩ := hcut
            clear hbk
            go_upto_region 14 with fail
            have d0 := cell_of HA5.out 0
            have d1 := cell_of HA5.out 1
            have d2 := cell_of HA5.out 2
            have d3 := cell_of HA5.out 3
            have d4 := cell_of HA5.out 4
            have d5 := cell_of HA5.out 5
            have d6 := cell_of HA5.out 6
            have d7 := cell_of HA5.out 7
            have d8 := cell_of HA5.out 8
            have d9 := cell_of HA5.out 9
            have d10 := cell_of HA5.out 10
            simp at d0 d1 d2 d3 d4 d5 d6 d7 d8 d9 d10
            have HOU := Lib.hid (ours_any HM5.out)
            go_wp2_with fail
            refine (HOU.out).mono ?_
            rintro e w6 ⟨rfl, hb6⟩
            clear d0 d1 d2 d3 d4 d5 d6 d7 d8 d9 d10
            have hb7 := below_new (w := w6) (.cells (cellM (cutM m) tA tc oB od) 50)
            have hat7 := alloc_at w6 (.cells (cellM (cutM m) tA tc oB od) 50)
            obtain ⟨W7, hW7⟩ : ∃ W, W = w6.alloc (.cells (cellM (cutM m) tA tc oB od) 50) := ⟨_, rfl⟩
            rw [← hW7] at hb7 hat7
            have hb57 : Below W5.heap.size W5 W7 := hb6.trans (hb7.mono hb6.size)
            have hbr7 : Below wr.heap.size wr W7 := HB5.out.1.trans (hb57.mono HB5.out.1.size)
            have hS7 := HS.out.1.more hbr7
            have hN7 := HS.out.2.1.add hbr7
            have hst : ∀ W', Touch (OrdT w (fun k => F k ∨ (wr.heap.size ≤ k ∧ k < W7.heap.size)) (.slice sA S.length sc)) W7 W' → MsgIs W' (.agg (cellM (cutM m) tA tc oB od)) (cutM m) := cut_stays HNU.out HRO.out.1 (HS.out.1.bel.trans (hbr7.mono HS.out.1.bel.size)) (fun k h1 h2 => ((HRO.out.2.1.trans (hb57.mono HRO.out.2.1.size)).block k h2)) (HRO.out.2.1.trans (hb57.mono HRO.out.2.1.size)).size (fun k h1 h2 => .inr ⟨Nat.le_trans HB3.out.1.size h1, Nat.lt_of_lt_of_le h2 (HRO.out.2.1.trans (hb57.mono HRO.out.2.1.size)).size⟩) (fun k hk => ⟨(HS.out.1.own k hk).2, by
              rcases HS.out.1.row with ⟨e, _⟩ | ⟨g, cp, e, _, _, hr⟩
              · rw [e] at hk; cases hk
              · rw [e] at hk; cases hk; exact Nat.lt_of_lt_of_le hr.lt HB3.out.1.size⟩)
            have HST7 := Lib.hid hst
            have hsend := nc_send HG.out.1 HG.out.2 hN7 (by decide) (g := w6.heap.size) (cap := 1) (ms := [cutM m]) (by simp) (by simp) (fun i' m' hi' => by
              match i', hi' with
              | 0, hi' =>
                cases hi'
                refine ⟨fun hmay => ⟨HMI.out, by simp⟩, tA, tc, oB, od, fun W hW => ⟨?_, hst W (hW.mono (fun k _ e => .inl e))⟩⟩
                have hk := (hW.block _ (heap_lt hat7) (fun e => e.2 (.inr ⟨Nat.le_trans HB5.out.1.size hb6.size, heap_lt hat7⟩))).trans hat7
                exact ⟨cell_of hk 0, cell_of hk 1, cell_of hk 2, cell_of hk 3, cell_of hk 4, cell_of hk 5, cell_of hk 6, cell_of hk 7, cell_of hk 8, cell_of hk 9, cell_of hk 10⟩)
            rw [List.foldl_cons, List.foldl_nil] at hsend
            have HS7 := Lib.hid hS7
            have HZ7 := Lib.hid ((hb57.block _ (heap_lt HA5.out)).trans HA5.out)
            have HBR7 := Lib.hid hbr7
            have HW7 := Lib.hid hW7
            have h100 : (P.length : Int) < 100 := by have := HLI.out.1; have := H60.out; omega
            cases hmay : mayM (cutM m) with
            | false =>
              have hsl : sendL 100 P (cutM m) = P := sentP_not hmay 100
              rw [hsl, Int.sub_self] at hsend
              have HSE := Lib.hid hsend
              clear hb6 hb7 hat7 hW7 hb57 hbr7 hS7 hN7 hst hsend hmay hsl h100
              go_wp2_with fail
              rw [← HW7.out]
              refine (HSE.out).mono ?_
              rintro e w8 ⟨rfl, hn8⟩
              have HF := Lib.hid (CarI.step HS7.out hn8 HQ.out (Nat.le_succ_of_le HLI.out.1) HLI.out.2)
              clear hn8
              go_wp2_with fail
              go_roundw
              case rel => exact ⟨i + 1, _, _, HL.out.2.2.1, H60.out, by go_num, HF.out⟩
              case measure => have := HL.out.2.2.1; simp [intOf]; omega
            | true =>
              have hsl : sendL 100 P (cutM m) = P ++ [(encM (cutM m), siteM (cutM m), 0)] := by rw [sendL, if_pos ⟨hmay, h100⟩]
              have hq8 := HQ.out.send hmay HMI.out (most := 100)
              have hl8 : (sendL 100 P (cutM m)).length ≤ i + 1 := by rw [hsl, List.length_append, List.length_singleton]; have := HLI.out.1; omega
              have hlen : ((sendL 100 P (cutM m)).length : Int) - (P.length : Int) = 1 := by rw [hsl, List.length_append, List.length_singleton]; omega
              rw [hlen] at hsend
              have HSE := Lib.hid hsend
              have HQ8 := Lib.hid (And.intro hq8 (And.intro hl8 hmay))
              clear hb6 hb7 hat7 hW7 hb57 hbr7 hS7 hN7 hst hsend hmay hsl h100 hq8 hl8 hlen
              go_wp2_with fail
              rw [← HW7.out]
              refine (HSE.out).mono ?_
              rintro e w8 ⟨rfl, hn8, ht8⟩
              have hS8 := HS7.out.call ht8
              have hz8 := (ht8.block _ (heap_lt HZ7.out) (fun e => e.2 (.inr ⟨Nat.le_trans HB3.out.1.size HRO.out.2.2, heap_lt HZ7.out⟩))).trans HZ7.out
              have c0 := cell_of hz8 0
              have c1 := cell_of hz8 1
              have c2 := cell_of hz8 2
              have c3 := cell_of hz8 3
              have c4 := cell_of hz8 4
              have c5 := cell_of hz8 5
              have c6 := cell_of hz8 6
              have c7 := cell_of hz8 7
              have c8 := cell_of hz8 8
              have c9 := cell_of hz8 9
              have c10 := cell_of hz8 10
              simp at c0 c1 c2 c3 c4 c5 c6 c7 c8 c9 c10
              have hb9 := below_new (w := w8) (.cells (cellM (cutM m) tA tc oB od) 37)
              have hat9 := alloc_at w8 (.cells (cellM (cutM m) tA tc oB od) 37)
              have hS9 := hS8.more hb9
              have hN9 := hn8.add hb9
              have h11 : (S.flatMap Ot.c).length = S.length * 11 := ots_len S
              obtain ⟨v9, w9, hr9, hrow9, hg9, hblk9⟩ := run_append_row (w8.alloc (.cells (cellM (cutM m) tA tc oB od) 37)) 42 37 42 42 Tryz.underlying42 infoRM rfl (by omega) (by omega) (.slice sA S.length sc) S.length 1 (S.flatMap Ot.c) (cellM (cutM m) tA tc oB od).toList (.slice (some ⟨w8.heap.size, 0, none⟩) 1 1) hS9.row
                (Src.ofSlice _ Tryz.underlying42 ⟨w8.heap.size, 0, none⟩ 1 1 (cellM (cutM m) tA tc oB od).toList rfl (fun k u hu => by
                  rw [add0, cell_of hat9 k]
                  simpa using hu) (by simp [Value.oneCell'])) (by have := HLI.out; have := H60.out; omega)
              have hpush := hS9.push (W1 := w9) (sv' := v9) (o := Ot.mk (cutM m) tA tc oB od) (by
                rw [List.length_append, List.length_singleton, List.flatMap_append]
                simpa [Ot.c] using hrow9) hg9 hblk9 (fun W' hW => HST7.out W' (((ht8.mono (fun k _ e => Or.inl e)).trans ((Touch.of_below hb9 : Touch (OrdT w (fun k => F k ∨ (wr.heap.size ≤ k ∧ k < W7.heap.size)) (.slice sA S.length sc)) _ _)) (fun _ _ e => e)).trans hW (fun k _ e => by
                  rcases e with e | e
                  · exact .inl ⟨e.1, fun q => e.2 (.inl q)⟩
                  · exact .inr e))) ⟨HQ8.out.2.2, HMI.out⟩
              obtain ⟨zA, zc, rfl, _⟩ := id hrow9.form
              have HF : Hid (CarI w w9 b (i + 1) (.slice zA (S.length + 1) zc) (S ++ [Ot.mk (cutM m) tA tc oB od]) _) := Lib.hid ⟨_, hpush, NC.grown hN9 hS9.own hg9, by rw [List.map_append]; exact HQ8.out.1, HQ8.out.2.1, by rw [List.length_append, List.length_singleton]; have := HLI.out.2; omega⟩
              clear hn8 ht8 hS8 hz8 hb9 hat9 hS9 hN9 hrow9 hg9 hblk9 hpush h11
              go_wp2_with (at_builtin; refine wpList_app_run rfl _ _ _ _ rfl rfl rfl hr9 ?_)
              go_roundw
              case rel => exact ⟨i + 1, _, _, HL.out.2.2.1, H60.out, by go_num, HF.out⟩
              case measure => have := HL.out.2.2.1; simp [intOf]; omega
          by_cases k23 : kd = 2 ∨ kd = 3
          · have hbk : (kd == 0) = false ∧ (kd == 1) = false ∧ ((kd == 2) = true ∨ ((kd == 2) = false ∧ (kd == 3) = true)) := by rcases k23 with rfl | rfl; exact ⟨rfl, rfl, .inl rfl⟩; exact ⟨rfl, rfl, .inr ⟨rfl, rfl⟩⟩
            obtain ⟨n0, n1, hbk⟩ := hbk
            clear k01 k23 c14
            go_upto_if 57 with fail
            go_cut [57] (fun v wx => v = .bool true ∧ W5 = wx)
            case first =>
              rcases hbk with h2 | ⟨h2, h3⟩
              · go_wp2_with fail
                go_meet
                first | exact ⟨rfl, rfl⟩ | exact ⟨congrArg Value.bool h2, rfl⟩
              · go_wp2_with fail
                go_meet
                first | exact ⟨rfl, rfl⟩ | exact ⟨congrArg Value.bool h3, rfl⟩
            case rest =>
            obtain ⟨rfl, rfl⟩ := hcut
            clear hbk n0 n1
            as_aux_lemma =>
              have HPK := Lib.hid (nc_packet HS5.out.2 i')
              go_wp2_with fail
              refine (HPK.out).mono ?_
              rintro e w6 ⟨v6, rfl, ho6, hb6⟩
              have hB6 := HB5.out.2.trans (hb6.mono HB5.out.2.size)
              have HDE := Lib.hid (decode_u (HG.out.1.below hB6) (HG.out.2.below hB6) ho6.bis)
              have HB6 := Lib.hid hb6
              obtain ⟨dc, hdc⟩ : ∃ dc : Int, (if (decM (bytesL P i')).isSome = true then (0 : Int) else 6) = dc := ⟨_, rfl⟩
              rw [hdc] at HDE
              have HDC := Lib.hid hdc
              clear hdc
              clear ho6 hb6 hB6
              go_wp2_with fail
              refine (HDE.out).mono ?_
              rintro e w7 ⟨m0, xA, xc, yA, yc, rfl, _, hb7⟩
              have hb8 := below_new (w := w7) (.cells (cellM m0 xA xc yA yc) 50)
              obtain ⟨W8, hW8⟩ : ∃ W, W = w7.alloc (.cells (cellM m0 xA xc yA yc) 50) := ⟨_, rfl⟩
              rw [← hW8] at hb8
              have HB8 : Hid (Below W5.heap.size W5 W8) := Lib.hid ((HB6.out.trans (hb7.mono HB6.out.size)).trans (hb8.mono (Nat.le_trans HB6.out.size hb7.size)))
              have HO8 := Lib.hid ((HB8.out.block _ (heap_lt HO5.out)).trans HO5.out)
              have HS8 := Lib.hid (And.intro (HS5.out.1.more HB8.out) (HS5.out.2.add HB8.out))
              have HW8 := Lib.hid hW8
              clear hb7 hb8 hW8 c13
              go_upto_region 19 with fail
              rw [← HW8.out]
              have HDV := Lib.hid (deliver_u HG.out.1 HG.out.2 HS8.out.2 HQ.out i')
              have c13 := cell_of HO8.out 13
              simp at c13
              go_wp2_with fail
              refine (HDV.out).mono ?_
              rintro e w9 ⟨P9, m1, zA, zc, uA, uc, cd, rfl, hn9, hm1, hcd, hq9, hl9⟩
              clear c13
              have hS9 := HS8.out.1.call hn9.2
              have hb10 := below_new (w := w9) (.cells (cellM m1 zA zc uA uc) 50)
              have hat10 := alloc_at w9 (.cells (cellM m1 zA zc uA uc) 50)
              obtain ⟨W10, hW10⟩ : ∃ W, W = w9.alloc (.cells (cellM m1 zA zc uA uc) 50) := ⟨_, rfl⟩
              rw [← hW10] at hb10 hat10
              have HS10 := Lib.hid (And.intro (hS9.more hb10) (hn9.1.add hb10))
              have HM10 := Lib.hid (And.intro (hm1.below hb10) hat10)
              have HC10 := Lib.hid (And.intro hcd (And.intro hq9 (Nat.le_trans hl9 HLI.out.1)))
              have HW10 := Lib.hid hW10
              clear hn9 hm1 hcd hq9 hl9 hS9 hb10 hat10 hW10
              go_upto_region 20 with fail
              rw [← HW10.out]
              obtain ⟨wo, rfl⟩ : ∃ wo, wo = wr := ⟨_, rfl⟩
              have HWO := Lib.hid (show (decide (m1 ∈ (S.map (·.m)).take 0)) = false by simp)
              go_wp2_with fail
              go_loopw [13, 77] (fun fv jv wr => ∃ j : Nat, j ≤ S.length ∧ jv = .int .i64 j ∧ fv = .bool (decide (m1 ∈ (S.map (·.m)).take j)) ∧ Below W10.heap.size W10 wr) (fun _ jv _ => S.length - (intOf jv).toNat)
              case atStart => exact ⟨0, Nat.zero_le _, rfl, by rw [HWO.out], Below.refl _ _⟩
              case round =>
                obtain ⟨j, hj, rfl, rfl, hbj⟩ := hrel
                by_cases hjl : j < S.length
                · obtain ⟨x, hx⟩ : ∃ x, S[j]? = some x := ⟨_, List.getElem?_eq_getElem hjl⟩
                  have hSj := HS10.out.1.more hbj
                  have hrj := hSj.row
                  obtain ⟨A9, cp9, he9, _, _, _, _, h59⟩ := hrj.form
                  obtain ⟨gs, hgs, _⟩ := h59 (j * 11 + 0) (.int .i64 x.m.kd) ((nots_get hx (by decide : 0 < 11)).trans rfl)
                  cases he9
                  subst hgs
                  have hg := fun (i : Nat) (hi : i < 11) (u : Value) (hu : x.c[i]? = some u) => row_cell hrj ((nots_get hx hi).trans hu)
                  have g0 := hg 0 (by decide) _ rfl
                  rw [Nat.add_zero] at g0
                  have g1 := hg 1 (by decide) _ rfl
                  have g2 := hg 2 (by decide) _ rfl
                  have g3 := hg 3 (by decide) _ rfl
                  have g4 := hg 4 (by decide) _ rfl
                  have g5 := hg 5 (by decide) _ rfl
                  have g6 := hg 6 (by decide) _ rfl
                  have g7 := hg 7 (by decide) _ rfl
                  have g8 := hg 8 (by decide) _ rfl
                  have g9 := hg 9 (by decide) _ rfl
                  have g10 := hg 10 (by decide) _ rfl
                  have hb11 := below_new (w := wr) (.cells (cellM x.m x.tA x.tc x.oA x.oc) 37)
                  have hat11 := alloc_at wr (.cells (cellM x.m x.tA x.tc x.oA x.oc) 37)
                  obtain ⟨W11, hW11⟩ : ∃ W, W = wr.alloc (.cells (cellM x.m x.tA x.tc x.oA x.oc) 37) := ⟨_, rfl⟩
                  rw [← hW11] at hb11 hat11
                  have hb1011 := hbj.trans (hb11.mono hbj.size)
                  have hata := (hb1011.block _ (heap_lt HM10.out.2)).trans HM10.out.2
                  have HSC : Hid (∀ W, Below W11.heap.size W11 W → W.heap[w9.heap.size]? = some (.cells (cellM m1 zA zc uA uc) 50 (0, 0)) ∧ W.heap[wr.heap.size]? = some (.cells (cellM x.m x.tA x.tc x.oA x.oc) 37 (0, 0))) := Lib.hid (fun W hW => ⟨(hW.block _ (heap_lt hata)).trans hata, (hW.block _ (heap_lt hat11)).trans hat11⟩)
                  have HMM : Hid (∀ W, Below W11.heap.size W11 W → MsgIs W (.agg (cellM m1 zA zc uA uc)) m1 ∧ MsgIs W (.agg (cellM x.m x.tA x.tc x.oA x.oc)) x.m) := Lib.hid (fun W hW => ⟨(HM10.out.1.below hb1011).below hW, HS10.out.1.msgs x (List.mem_of_getElem? hx) W (.of_below (hb1011.trans (hW.mono hb1011.size)))⟩)
                  have hts : decide (m1 ∈ (S.map (·.m)).take (j + 1)) = (decide (m1 ∈ (S.map (·.m)).take j) || decide (m1 = x.m)) := mem_take_succ (by rw [List.getElem?_map, hx]; rfl)
                  have HTS := Lib.hid hts
                  have HJ := Lib.hid (And.intro hjl hb1011)
                  have HW11 := Lib.hid hW11
                  obtain ⟨fb, hfb⟩ : ∃ fb, decide (m1 ∈ (S.map (·.m)).take j) = fb := ⟨_, rfl⟩
                  rw [hfb] at HTS ⊢
                  have hjI : (j : Int) < (S.length : Int) := by omega
                  have hwj : IntKind.i64.wrap ((j : Int) + 1) = (j : Int) + 1 := IntWalk.i64_in _ (by have := HLI.out.2; have := H60.out; omega)
                  clear hSj hrj h59 hg hb11 hat11 hW11 hb1011 hata hts hfb hx hj hbj
                  go_upto_region 24 with fail
                  rw [← HW11.out]
                  clear g0 g1 g2 g3 g4 g5 g6 g7 g8 g9 g10
                  refine wp_only ?_
                  cases fb with
                  | true =>
                    refine wp_region_held_drew (S := fun _ => True) (by kernel_rfl) trivial (fun hHeld => ?_)
                    refine wpAnyH_take (i := 0) (oi := { dst := some 81, op := Op.move (Operand.tmp 13), type := 4, pos := "law.go:163", after := #[], guard := none }) (v := ?vv10) rfl (by kernel_rfl) (by kernel_rfl) (by kernel_rfl) (fun _ _ _ h => h) ?hy10 (by assumption) ?rest10
                    case hy10 => (refine Or.inl ⟨by rfl, ?_⟩; intro W hSw; (try dsimp only at hSw); go_simp; (try with_reducible rfl))
                    try simp only [Act.put, List.setIfInBounds_toArray, List.set_cons_zero, List.set_cons_succ]
                    refine wpAnyH_take (i := 1) (oi := { dst := some 82, op := Op.move (Operand.tmp 81), type := 4, pos := "law.go:163", after := #[{ on := 0, ground := Ground.data }], guard := none }) (v := ?vv11) rfl (by kernel_rfl) (by kernel_rfl) (by kernel_rfl) (fun _ _ _ h => h) ?hy11 (by assumption) ?rest11
                    case hy11 => (refine Or.inl ⟨by rfl, ?_⟩; intro W hSw; (try dsimp only at hSw); go_simp; (try with_reducible rfl))
                    try simp only [Act.put, List.setIfInBounds_toArray, List.set_cons_zero, List.set_cons_succ]
                    refine wpAnyH_take (i := 2) (oi := { dst := some 83, op := Op.load 50 (Operand.tmp 11), type := 50, pos := "law.go:163", after := #[{ on := 1, ground := Ground.guard }], guard := some (1, false) }) (v := undef) rfl (by kernel_rfl) (by kernel_rfl) (by kernel_rfl) (fun _ _ _ h => h) ?hy12 (by assumption) ?rest12
                    case hy12 => (exact Or.inr ⟨by rfl, rfl⟩)
                    try simp only [Act.put, List.setIfInBounds_toArray, List.set_cons_zero, List.set_cons_succ]
                    refine wpAnyH_take (i := 3) (oi := { dst := some 84, op := Op.call { callee := Callee.value (Operand.func 24), args := #[Operand.tmp 83], argTypes := #[50] }, type := 37, pos := "law.go:163", after := #[{ on := 2, ground := Ground.data }, { on := 1, ground := Ground.chain }, { on := 1, ground := Ground.guard }], guard := some (1, false) }) (v := undef) rfl (by kernel_rfl) (by kernel_rfl) (by kernel_rfl) (fun _ _ _ h => h) ?hy13 (by assumption) ?rest13
                    case hy13 => (exact Or.inr ⟨by rfl, rfl⟩)
                    try simp only [Act.put, List.setIfInBounds_toArray, List.set_cons_zero, List.set_cons_succ]
                    refine wpAnyH_take (i := 4) (oi := { dst := some 85, op := Op.load 37 (Operand.tmp 15), type := 37, pos := "law.go:163", after := #[{ on := 1, ground := Ground.guard }], guard := some (1, false) }) (v := undef) rfl (by kernel_rfl) (by kernel_rfl) (by kernel_rfl) (fun _ _ _ h => h) ?hy14 (by assumption) ?rest14
                    case hy14 => (exact Or.inr ⟨by rfl, rfl⟩)
                    try simp only [Act.put, List.setIfInBounds_toArray, List.set_cons_zero, List.set_cons_succ]
                    refine wpAnyH_take (i := 5) (oi := { dst := some 86, op := Op.call { callee := Callee.value (Operand.func 23), args := #[Operand.tmp 84, Operand.tmp 85], argTypes := #[37, 37] }, type := 4, pos := "law.go:163", after := #[{ on := 3, ground := Ground.data }, { on := 4, ground := Ground.data }, { on := 3, ground := Ground.chain }, { on := 1, ground := Ground.guard }], guard := some (1, false) }) (v := undef) rfl (by kernel_rfl) (by kernel_rfl) (by kernel_rfl) (fun _ _ _ h => h) ?hy15 (by assumption) ?rest15
                    case hy15 => (exact Or.inr ⟨by rfl, rfl⟩)
                    try simp only [Act.put, List.setIfInBounds_toArray, List.set_cons_zero, List.set_cons_succ]
                    refine wpAnyH_take (i := 6) (oi := { dst := some 87, op := Op.pick (Operand.tmp 82) (Operand.const (Value.bool true)) (Operand.tmp 86), type := 4, pos := "law.go:163", after := #[{ on := 1, ground := Ground.data }, { on := 5, ground := Ground.data }], guard := none }) (v := ?vv16) rfl (by kernel_rfl) (by kernel_rfl) (by kernel_rfl) (fun _ _ _ h => h) ?hy16 (by assumption) ?rest16
                    case hy16 => (refine Or.inl ⟨by rfl, ?_⟩; intro W hSw; (try dsimp only at hSw); go_simp; (try with_reducible rfl))
                    try simp only [Act.put, List.setIfInBounds_toArray, List.set_cons_zero, List.set_cons_succ]
                    refine wpAnyH_take (i := 7) (oi := { dst := some 13, op := Op.assign (Operand.tmp 87), type := 4, pos := "law.go:163", after := #[{ on := 6, ground := Ground.data }, { on := 5, ground := Ground.chain }, { on := 0, ground := Ground.phase }, { on := 1, ground := Ground.phase }, { on := 2, ground := Ground.phase }, { on := 3, ground := Ground.phase }, { on := 4, ground := Ground.phase }, { on := 5, ground := Ground.phase }, { on := 6, ground := Ground.phase }], guard := none }) (v := ?vv17) rfl (by kernel_rfl) (by kernel_rfl) (by kernel_rfl) (fun _ _ _ h => h) ?hy17 (by assumption) ?rest17
                    case hy17 => (refine Or.inl ⟨by rfl, ?_⟩; intro W hSw; (try dsimp only at hSw); go_simp; (try with_reducible rfl))
                    try simp only [Act.put, List.setIfInBounds_toArray, List.set_cons_zero, List.set_cons_succ]
                    refine wpAnyH_done (by kernel_rfl) ?_ _
                    clear hHeld
                    dsimp only [onlyN]
                    go_wp2_with fail
                    go_roundw
                    case rel => exact ⟨j + 1, HJ.out.1, by go_num, by rw [HTS.out]; rfl, below_drew HJ.out.2⟩
                    case measure => have := HJ.out.1; simp [intOf]; omega
                  | false =>
                    refine wp_region_held_drew (S := fun W => W.heap[w9.heap.size]? = some (.cells (cellM m1 zA zc uA uc) 50 (0, 0)) ∧ W.heap[wr.heap.size]? = some (.cells (cellM x.m x.tA x.tc x.oA x.oc) 37 (0, 0))) (by kernel_rfl) (HSC.out _ (below_drew (Below.refl _ _))) (fun hHeld => ?_)
                    refine wpAnyH_take (i := 0) (oi := { dst := some 81, op := Op.move (Operand.tmp 13), type := 4, pos := "law.go:163", after := #[], guard := none }) (v := ?vv18) rfl (by kernel_rfl) (by kernel_rfl) (by kernel_rfl) (fun _ _ _ h => h) ?hy18 (by assumption) ?rest18
                    case hy18 => (refine Or.inl ⟨by rfl, ?_⟩; intro W hSw; (try dsimp only at hSw); go_simp; (try with_reducible rfl))
                    try simp only [Act.put, List.setIfInBounds_toArray, List.set_cons_zero, List.set_cons_succ]
                    refine wpAnyH_take (i := 1) (oi := { dst := some 82, op := Op.move (Operand.tmp 81), type := 4, pos := "law.go:163", after := #[{ on := 0, ground := Ground.data }], guard := none }) (v := ?vv19) rfl (by kernel_rfl) (by kernel_rfl) (by kernel_rfl) (fun _ _ _ h => h) ?hy19 (by assumption) ?rest19
                    case hy19 => (refine Or.inl ⟨by rfl, ?_⟩; intro W hSw; (try dsimp only at hSw); go_simp; (try with_reducible rfl))
                    try simp only [Act.put, List.setIfInBounds_toArray, List.set_cons_zero, List.set_cons_succ]
                    refine wpAnyH_take (i := 2) (oi := { dst := some 83, op := Op.load 50 (Operand.tmp 11), type := 50, pos := "law.go:163", after := #[{ on := 1, ground := Ground.guard }], guard := some (1, false) }) (v := (.agg (cellM m1 zA zc uA uc))) rfl (by kernel_rfl) (by kernel_rfl) (by kernel_rfl) (fun _ _ _ h => h) ?hy20 (by assumption) ?rest20
                    case hy20 => ((refine Or.inl ⟨by rfl, ?_⟩; intro W hSw; have d0 := cell_of hSw.1 0; have d1 := cell_of hSw.1 1; have d2 := cell_of hSw.1 2; have d3 := cell_of hSw.1 3; have d4 := cell_of hSw.1 4; have d5 := cell_of hSw.1 5; have d6 := cell_of hSw.1 6; have d7 := cell_of hSw.1 7; have d8 := cell_of hSw.1 8; have d9 := cell_of hSw.1 9; have d10 := cell_of hSw.1 10; simp at d0 d1 d2 d3 d4 d5 d6 d7 d8 d9 d10; clear hSw; go_simp; (try with_reducible rfl)))
                    try simp only [Act.put, List.setIfInBounds_toArray, List.set_cons_zero, List.set_cons_succ]
                    refine wpAnyH_take (i := 4) (oi := { dst := some 85, op := Op.load 37 (Operand.tmp 15), type := 37, pos := "law.go:163", after := #[{ on := 1, ground := Ground.guard }], guard := some (1, false) }) (v := (.agg (cellM x.m x.tA x.tc x.oA x.oc))) rfl (by kernel_rfl) (by kernel_rfl) (by kernel_rfl) (fun _ _ _ h => h) ?hy21 (by assumption) ?rest21
                    case hy21 => ((refine Or.inl ⟨by rfl, ?_⟩; intro W hSw; have d0 := cell_of hSw.2 0; have d1 := cell_of hSw.2 1; have d2 := cell_of hSw.2 2; have d3 := cell_of hSw.2 3; have d4 := cell_of hSw.2 4; have d5 := cell_of hSw.2 5; have d6 := cell_of hSw.2 6; have d7 := cell_of hSw.2 7; have d8 := cell_of hSw.2 8; have d9 := cell_of hSw.2 9; have d10 := cell_of hSw.2 10; simp at d0 d1 d2 d3 d4 d5 d6 d7 d8 d9 d10; clear hSw; go_simp; (try with_reducible rfl)))
                    try simp only [Act.put, List.setIfInBounds_toArray, List.set_cons_zero, List.set_cons_succ]
                    refine wpAnyH_ready (rs := [3]) (by kernel_rfl) (by simp) ?_
                    refine AllReadyH.cons (o := { dst := some 84, op := Op.call { callee := Callee.value (Operand.func 24), args := #[Operand.tmp 83], argTypes := #[50] }, type := 37, pos := "law.go:163", after := #[{ on := 2, ground := Ground.data }, { on := 1, ground := Ground.chain }, { on := 1, ground := Ground.guard }], guard := some (1, false) }) rfl (fun K hK => ?step22) ?more22
                    case more22 => exact AllReadyH.nil
                    ((go_simp; go_at_call 24; refine (plain_m (HMM.out _ (below_drew (Below.refl _ W11))).1).mono ?_; rintro e x1 ⟨rfl, hbn⟩; have X1 := Lib.hid (below_of_drew hbn); clear hbn; go_wp2_with fail))
                    refine hK.out _ _ ?hS22 (fun hHeld => ?rr22)
                    case hS22 => (exact HSC.out _ X1.out)
                    clear hK K
                    try simp only [Act.put, List.setIfInBounds_toArray, List.set_cons_zero, List.set_cons_succ]
                    have HQ1 := Lib.hid (rsame_any (HMM.out _ X1.out).1 (HMM.out _ X1.out).2)
                    obtain ⟨sb, hsb⟩ : ∃ sb, decide (m1 = x.m) = sb := ⟨_, rfl⟩
                    rw [hsb] at HQ1 HTS
                    clear hsb
                    refine wpAnyH_ready (rs := [5]) (by kernel_rfl) (by simp) ?_
                    refine AllReadyH.cons (o := { dst := some 86, op := Op.call { callee := Callee.value (Operand.func 23), args := #[Operand.tmp 84, Operand.tmp 85], argTypes := #[37, 37] }, type := 4, pos := "law.go:163", after := #[{ on := 3, ground := Ground.data }, { on := 4, ground := Ground.data }, { on := 3, ground := Ground.chain }, { on := 1, ground := Ground.guard }], guard := some (1, false) }) rfl (fun K hK => ?step23) ?more23
                    case more23 => exact AllReadyH.nil
                    ((go_simp; go_at_call 23; refine (HQ1.out).mono ?_; rintro e x2 ⟨rfl, hbn⟩; have X2 := Lib.hid (X1.out.trans (hbn.mono X1.out.size)); clear hbn; go_wp2_with fail))
                    refine hK.out _ _ ?hS23 (fun hHeld => ?rr23)
                    case hS23 => (exact HSC.out _ X2.out)
                    clear hK K
                    try simp only [Act.put, List.setIfInBounds_toArray, List.set_cons_zero, List.set_cons_succ]
                    refine wpAnyH_take (i := 6) (oi := { dst := some 87, op := Op.pick (Operand.tmp 82) (Operand.const (Value.bool true)) (Operand.tmp 86), type := 4, pos := "law.go:163", after := #[{ on := 1, ground := Ground.data }, { on := 5, ground := Ground.data }], guard := none }) (v := ?vv24) rfl (by kernel_rfl) (by kernel_rfl) (by kernel_rfl) (fun _ _ _ h => h) ?hy24 (by assumption) ?rest24
                    case hy24 => (refine Or.inl ⟨by rfl, ?_⟩; intro W hSw; (try dsimp only at hSw); go_simp; (try with_reducible rfl))
                    try simp only [Act.put, List.setIfInBounds_toArray, List.set_cons_zero, List.set_cons_succ]
                    refine wpAnyH_take (i := 7) (oi := { dst := some 13, op := Op.assign (Operand.tmp 87), type := 4, pos := "law.go:163", after := #[{ on := 6, ground := Ground.data }, { on := 5, ground := Ground.chain }, { on := 0, ground := Ground.phase }, { on := 1, ground := Ground.phase }, { on := 2, ground := Ground.phase }, { on := 3, ground := Ground.phase }, { on := 4, ground := Ground.phase }, { on := 5, ground := Ground.phase }, { on := 6, ground := Ground.phase }], guard := none }) (v := ?vv25) rfl (by kernel_rfl) (by kernel_rfl) (by kernel_rfl) (fun _ _ _ h => h) ?hy25 (by assumption) ?rest25
                    case hy25 => (refine Or.inl ⟨by rfl, ?_⟩; intro W hSw; (try dsimp only at hSw); go_simp; (try with_reducible rfl))
                    try simp only [Act.put, List.setIfInBounds_toArray, List.set_cons_zero, List.set_cons_succ]
                    refine wpAnyH_done (by kernel_rfl) ?_ _
                    clear hHeld
                    dsimp only [onlyN]
                    go_wp2_with fail
                    go_roundw
                    case rel => exact ⟨j + 1, HJ.out.1, by go_num, by rw [HTS.out, Bool.false_or], HJ.out.2.trans (X2.out.mono HJ.out.2.size)⟩
                    case measure => have := HJ.out.1; simp [intOf]; omega
                · obtain rfl : j = S.length := by omega
                  have HF := Lib.hid (CarI.stay HS10.out.1 HS10.out.2 hbj HC10.out.2.1 HC10.out.2.2 HLI.out.2)
                  obtain ⟨fb, hfb⟩ : ∃ fb, decide (m1 ∈ (S.map (·.m)).take S.length) = fb := ⟨_, rfl⟩
                  rw [hfb]
                  by_cases hc : cd = 0
                  · have hin := HC10.out.1 hc
                    rw [← HDC.out, hin.2, if_pos rfl]
                    have e : fb = true := by
                      rw [← hfb, List.take_of_length_le (by rw [List.length_map]; exact Nat.le_refl _)]
                      exact decide_eq_true hin.1
                    subst e hc
                    clear hfb hin hbj hj hjl
                    go_wp2_with fail
                    go_roundw
                    case rel => exact ⟨i + 1, _, _, HL.out.2.2.1, H60.out, by go_num, HF.out⟩
                    case measure => have := HL.out.2.2.1; simp [intOf]; omega
                  · have hcb : (cd == 0) = false := by rw [beq_eq_false_iff_ne]; exact hc
                    clear hfb hbj hj hjl
                    go_wp2_with fail
                    go_roundw
                    case rel => exact ⟨i + 1, _, _, HL.out.2.2.1, H60.out, by go_num, HF.out⟩
                    case measure => have := HL.out.2.2.1; simp [intOf]; omega
          by_cases k4 : kd = 4
          · subst k4
            as_aux_lemma =>
              have HX := Lib.hid (nc_drop HG.out.1 HS5.out.2 i')
              clear k01 k23
              go_wp2_with fail
              refine (HX.out).mono ?_
              rintro e w6 ⟨rfl, hn6⟩
              have HF := Lib.hid (CarI.step HS5.out.1 hn6 (.ite (HQ.out.erase _) HQ.out) (len_ite (Nat.le_trans (erase_len _ _) (Nat.le_succ_of_le HLI.out.1)) (Nat.le_succ_of_le HLI.out.1)) HLI.out.2)
              clear hn6
              go_wp2_with fail
              go_roundw
              case rel => exact ⟨i + 1, _, _, HL.out.2.2.1, H60.out, by go_num, HF.out⟩
              case measure => have := HL.out.2.2.1; simp [intOf]; omega
          by_cases k5 : kd = 5
          · subst k5
            as_aux_lemma =>
              have HX := Lib.hid (nc_twice HG.out.1 HS5.out.2 (by decide) (by have := HLI.out.1; have := H60.out; omega) i')
              clear k01 k23
              go_wp2_with fail
              refine (HX.out).mono ?_
              rintro e w6 ⟨rfl, hn6⟩
              have HF := Lib.hid (CarI.step HS5.out.1 hn6 (.ite (HQ.out.dup _) HQ.out) (len_ite (Nat.le_trans (dupL_len _ _) (Nat.succ_le_succ HLI.out.1)) (Nat.le_succ_of_le HLI.out.1)) HLI.out.2)
              clear hn6
              go_wp2_with fail
              go_roundw
              case rel => exact ⟨i + 1, _, _, HL.out.2.2.1, H60.out, by go_num, HF.out⟩
              case measure => have := HL.out.2.2.1; simp [intOf]; omega
          by_cases k6 : kd = 6
          · subst k6
            as_aux_lemma =>
              have HX := Lib.hid (nc_move HG.out.1 HS5.out.2 i' k')
              clear k01 k23
              go_wp2_with fail
              refine (HX.out).mono ?_
              rintro e w6 ⟨rfl, hn6⟩
              have HF := Lib.hid (CarI.step HS5.out.1 hn6 (.ite (HQ.out.move _ _) HQ.out) (len_ite (Nat.le_trans (moveL_len _ _ _) (Nat.le_succ_of_le HLI.out.1)) (Nat.le_succ_of_le HLI.out.1)) HLI.out.2)
              clear hn6
              go_wp2_with fail
              go_roundw
              case rel => exact ⟨i + 1, _, _, HL.out.2.2.1, H60.out, by go_num, HF.out⟩
              case measure => have := HL.out.2.2.1; simp [intOf]; omega
          by_cases k7 : kd = 7
          · subst k7
            as_aux_lemma =>
              have HX := Lib.hid (nc_hold HG.out.1 HS5.out.2 i' k')
              clear k01 k23
              go_wp2_with fail
              refine (HX.out).mono ?_
              rintro e w6 ⟨rfl, hn6⟩
              have HF := Lib.hid (CarI.step HS5.out.1 hn6 (by split; exact HQ.out.hold _ (by rename_i h; exact h.2); exact HQ.out) (len_ite (by rw [holdL_len]; exact Nat.le_succ_of_le HLI.out.1) (Nat.le_succ_of_le HLI.out.1)) HLI.out.2)
              clear hn6
              go_wp2_with fail
              go_roundw
              case rel => exact ⟨i + 1, _, _, HL.out.2.2.1, H60.out, by go_num, HF.out⟩
              case measure => have := HL.out.2.2.1; simp [intOf]; omega
          by_cases k8 : kd = 8
          · subst k8
            clear k01 k23
            as_aux_lemma =>
              have HPK := Lib.hid (nc_packet HS5.out.2 i')
              go_wp2_with fail
              refine (HPK.out).mono ?_
              rintro e w6 ⟨v6, rfl, ho6, hb6⟩
              have hB6 := HB5.out.2.trans (hb6.mono HB5.out.2.size)
              have HDE0 := Lib.hid (decode_u (HG.out.1.below hB6) (HG.out.2.below hB6) ho6.bis)
              have HB6 := Lib.hid hb6
              cases hd : decM (bytesL P i') with
              | none =>
                have HDE := HDE0
                rw [hd, show (if (none : Option MsgV).isSome = true then (0 : Int) else 6) = 6 from rfl] at HDE
                clear hd HDE0
                clear ho6 hb6 hB6
                go_wp2_with fail
                refine (HDE.out).mono ?_
                rintro e w7 ⟨m0, xA, xc, yA, yc, rfl, _, hb7⟩
                have hb8 := below_new (w := w7) (.cells (cellM m0 xA xc yA yc) 50)
                obtain ⟨W8, hW8⟩ : ∃ W, W = w7.alloc (.cells (cellM m0 xA xc yA yc) 50) := ⟨_, rfl⟩
                rw [← hW8] at hb8
                have HB8 : Hid (Below W5.heap.size W5 W8) := Lib.hid ((HB6.out.trans (hb7.mono HB6.out.size)).trans (hb8.mono (Nat.le_trans HB6.out.size hb7.size)))
                have HO8 := Lib.hid ((HB8.out.block _ (heap_lt HO5.out)).trans HO5.out)
                have HS8 := Lib.hid (And.intro (HS5.out.1.more HB8.out) (HS5.out.2.add HB8.out))
                have HW8 := Lib.hid hW8
                clear hb7 hb8 hW8 c13
                clear c14
                go_upto_region 38 with fail
                rw [← HW8.out]
                have HF := Lib.hid (CarI.stay HS8.out.1 HS8.out.2 (Below.refl _ _) HQ.out HLI.out.1 HLI.out.2)
                go_wp2_with fail
                go_roundw
                case rel => exact ⟨i + 1, _, _, HL.out.2.2.1, H60.out, by go_num, HF.out⟩
                case measure => have := HL.out.2.2.1; simp [intOf]; omega
              | some dm =>
                have HDE := HDE0
                rw [hd, show (if (some dm : Option MsgV).isSome = true then (0 : Int) else 6) = 0 from rfl] at HDE
                have HD := Lib.hid hd
                clear hd HDE0
                clear ho6 hb6 hB6
                go_wp2_with fail
                refine (HDE.out).mono ?_
                rintro e w7 ⟨m0, xA, xc, yA, yc, rfl, _, hb7⟩
                have hb8 := below_new (w := w7) (.cells (cellM m0 xA xc yA yc) 50)
                obtain ⟨W8, hW8⟩ : ∃ W, W = w7.alloc (.cells (cellM m0 xA xc yA yc) 50) := ⟨_, rfl⟩
                rw [← hW8] at hb8
                have HB8 : Hid (Below W5.heap.size W5 W8) := Lib.hid ((HB6.out.trans (hb7.mono HB6.out.size)).trans (hb8.mono (Nat.le_trans HB6.out.size hb7.size)))
                have HO8 := Lib.hid ((HB8.out.block _ (heap_lt HO5.out)).trans HO5.out)
                have HS8 := Lib.hid (And.intro (HS5.out.1.more HB8.out) (HS5.out.2.add HB8.out))
                have HW8 := Lib.hid hW8
                clear hb7 hb8 hW8 c13
                go_upto_region 38 with fail
                rw [← HW8.out]
                have hsp := nc_spoil HG.out.1 HS8.out.2 i' k'
                have c13 := cell_of HO8.out 13
                have c14 := cell_of HO8.out 14
                simp at c13 c14
                obtain ⟨j, p, hij, hj, hjl, hin, hby⟩ := bytesL_get HD.out
                have hd := HD.out
                rw [hby] at hd
                rw [if_pos hin] at hsp
                by_cases hk : 0 ≤ k' ∧ k' < bitsP P i'.toNat
                · rw [if_pos hk, if_pos ⟨hin, hk⟩] at hsp
                  have hkl : k'.toNat < 8 * p.1.length := by
                    have h2 := hk.2
                    rw [hij, Int.toNat_natCast, bitsP_get hj] at h2
                    omega
                  have hno := decM_spoil hd hkl
                  have hq9 := HQ.out.spoil j k'.toNat hj hno
                  have hby9 : bytesL (spoilL P i'.toNat k'.toNat) i' = spoilB p.1 k'.toNat := by rw [hij, Int.toNat_natCast]; exact bytesL_spoil hj
                  have hq9' : QOk (S.map (·.m)) (spoilL P i'.toNat k'.toNat) := by rw [hij, Int.toNat_natCast]; exact hq9
                  rw [← hby9] at hno
                  have HSP := Lib.hid hsp
                  have HNO := Lib.hid (And.intro hno hq9')
                  clear hsp hij hj hjl hin hby hd hk hkl hno hq9 hby9 hq9' c13 c14
                  have c13 := cell_of HO8.out 13
                  have c14 := cell_of HO8.out 14
                  simp at c13 c14
                  go_wp2_with fail
                  refine (HSP.out).mono ?_
                  rintro e w9 ⟨rfl, hn9⟩
                  clear c13 c14
                  have hO9 := (hn9.2.block _ (heap_lt HO8.out) (fun e => e.2 (.inl (.inr ⟨Nat.le_refl _, heap_lt HO5.out⟩)))).trans HO8.out
                  have HS9 := Lib.hid (And.intro (HS8.out.1.call hn9.2) hn9.1)
                  have HPK9 := Lib.hid (nc_packet hn9.1 i')
                  have c13 := cell_of hO9 13
                  simp at c13
                  clear hn9 hO9
                  go_wp2_with fail
                  refine (HPK9.out).mono ?_
                  rintro e w10 ⟨v10, rfl, ho10, hb10⟩
                  have hB10 := HS9.out.1.bel.trans (hb10.mono HS9.out.1.bel.size)
                  have HDE9 := Lib.hid (decode_u (HG.out.1.below hB10) (HG.out.2.below hB10) ho10.bis)
                  rw [HNO.out.1, show (if (none : Option MsgV).isSome = true then (0 : Int) else 6) = 6 from rfl] at HDE9
                  have HB10 := Lib.hid hb10
                  clear ho10 hb10 hB10 c13
                  go_wp2_with fail
                  refine (HDE9.out).mono ?_
                  rintro e w11 ⟨m2, zA, zc, uA, uc, rfl, _, hb11⟩
                  have hb12 := below_new (w := w11) (.cells (cellM m2 zA zc uA uc) 50)
                  have hB12 := HB10.out.trans (hb11.mono HB10.out.size)
                  have HF := Lib.hid (CarI.stay (i := i) HS9.out.1 HS9.out.2 (hB12.trans (hb12.mono hB12.size)) HNO.out.2 (by rw [spoilL_len]; exact HLI.out.1) HLI.out.2)
                  clear hb11 hb12 hB12
                  go_wp2_with fail
                  go_roundw
                  case rel => exact ⟨i + 1, _, _, HL.out.2.2.1, H60.out, by go_num, HF.out⟩
                  case measure => have := HL.out.2.2.1; simp [intOf]; omega
                · rw [if_neg hk, if_neg (fun e => hk e.2)] at hsp
                  have HSP := Lib.hid hsp
                  clear hsp hij hj hjl hin hby hd hk
                  go_wp2_with fail
                  refine (HSP.out).mono ?_
                  rintro e w9 ⟨rfl, hn9⟩
                  have HF := Lib.hid (CarI.step HS8.out.1 hn9 HQ.out (Nat.le_succ_of_le HLI.out.1) HLI.out.2)
                  clear hn9 c13 c14
                  go_wp2_with fail
                  go_roundw
                  case rel => exact ⟨i + 1, _, _, HL.out.2.2.1, H60.out, by go_num, HF.out⟩
                  case measure => have := HL.out.2.2.1; simp [intOf]; omega
          by_cases k11 : kd = 11
          · subst k11
            as_aux_lemma =>
              have HX := Lib.hid (nc_tick HS5.out.2 HQ.out.waits)
              clear k01 k23
              go_wp2_with fail
              refine (HX.out).mono ?_
              rintro e w6 ⟨rfl, hn6⟩
              have HF := Lib.hid (CarI.step HS5.out.1 hn6 HQ.out.tick (by rw [List.length_map]; exact Nat.le_succ_of_le HLI.out.1) HLI.out.2)
              clear hn6
              go_wp2_with fail
              go_roundw
              case rel => exact ⟨i + 1, _, _, HL.out.2.2.1, H60.out, by go_num, HF.out⟩
              case measure => have := HL.out.2.2.1; simp [intOf]; omega
          · skip
            as_aux_lemma =>
              have b0 : (kd == 0) = false := by rw [beq_eq_false_iff_ne]; omega
              have b1 : (kd == 1) = false := by rw [beq_eq_false_iff_ne]; omega
              have b2 : (kd == 2) = false := by rw [beq_eq_false_iff_ne]; omega
              have b3 : (kd == 3) = false := by rw [beq_eq_false_iff_ne]; omega
              have b4 : (kd == 4) = false := by rw [beq_eq_false_iff_ne]; omega
              have b5 : (kd == 5) = false := by rw [beq_eq_false_iff_ne]; omega
              have b6 : (kd == 6) = false := by rw [beq_eq_false_iff_ne]; omega
              have b7 : (kd == 7) = false := by rw [beq_eq_false_iff_ne]; omega
              have b8 : (kd == 8) = false := by rw [beq_eq_false_iff_ne]; omega
              have b11 : (kd == 11) = false := by rw [beq_eq_false_iff_ne]; omega
              clear k01 k23 k4 k5 k6 k7 k8 k11
              have HF := Lib.hid (CarI.stay HS5.out.1 HS5.out.2 (Below.refl _ _) HQ.out HLI.out.1 HLI.out.2)
              go_wp2_with fail
              go_roundw
              case rel => exact ⟨i + 1, _, _, HL.out.2.2.1, H60.out, by go_num, HF.out⟩
              case measure => have := HL.out.2.2.1; simp [intOf]; omega
      · have hq60 : decide ((i : Int) ≥ 60) = true := by simp; omega
        have HAW := Lib.hid (nawake (HG.out.1.below hB2) (HG.out.2.below hB2))
        clear hM hnm hops hom hoi hok ho hS hN hQ hPl hSl hlt hi60 h60 hb2 hB2 hW2 q1
        go_upto_region 45 with fail
        rw [← HW2.out]
        clear m0 m1 m2 m3 m4 m5 m6 m7 m8 m9 m10 m11 m12 m13 m14
        go_wp2_with fail
        refine (HAW.out).mono ?_
        rintro e w3 ⟨rfl, hb3⟩
        have HB3 := Lib.hid (HB2.out.2.trans (hb3.mono HB2.out.2.size))
        clear hb3
        go_wp2_with fail
        go_ret
        exact ⟨rfl, HB3.out⟩
    · obtain rfl : i = n := by omega
      have HB := Lib.hid hS.bel
      have HAW := Lib.hid (nawake (HG.out.1.below hS.bel) (HG.out.2.below hS.bel))
      obtain ⟨sA, sc, rfl, _⟩ := id hS.row.form
      clear hS hN hQ hPl hSl
      go_wp2_with fail
      refine (HAW.out).mono ?_
      rintro e w3 ⟨rfl, hb3⟩
      have HB3 := Lib.hid (HB.out.trans (hb3.mono HB.out.size))
      clear hb3
      go_wp2_with fail
      go_ret
      exact ⟨rfl, HB3.out⟩
end Go.Proofs.YtfddlhcdlgdofaaGreatDoor
