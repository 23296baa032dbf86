/- The law on what fits. -/
import Derived.Test.YtabfbnpbgdlinaaGreatDoorZMegD
import Derived.Test.YtabfbnpbgdlinaaGreatDoorZPosN
import Derived.Test.YtabfbnpbgdlinaaGreatDoorZPosP
set_option linter.unusedSimpArgs false
set_option linter.unusedVariables false
set_option linter.unnecessarySimpa false
namespace Go.Proofs.YtabfbnpbgdlinaaGreatDoor
open Go.RowKit Go.Shelf

theorem fit_le (q r : MsgV) : fitM q r = true → q.kd ≤ 4 := by
  intro h
  unfold fitM at h
  simp only [Bool.and_eq_true] at h
  obtain ⟨h1, _, _, _, _, h2⟩ := h
  rcases mayM_kd h1 with h | h
  · exact h.2
  · exfalso
    unfold fitK at h2
    rw [if_neg (by omega), if_neg (by omega), if_neg (by omega)] at h2
    cases h2
set_option maxRecDepth 100000 in
set_option maxHeartbeats 16000000 in
theorem law_pfits {w : World} (hG : Glob w) {v u : Value} {m n : MsgV} (h : MsgAt w v m) (hti : m.ti ≤ 9223372036854775807) (h2 : MsgAt w u n) (hti2 : n.ti ≤ 9223372036854775807) :
    Calls Tryz.prog 7 #[v, u] w fun e w' => e = .returned (.bool true) ∧ Below w.heap.size w w' := by
  have HG := Lib.hid hG
  have HTI := Lib.hid (And.intro hti hti2)
  obtain ⟨tA0, tc0, oA0, oc0, rfl, hna, hoa⟩ := h
  obtain ⟨tB0, td0, oB0, od0, rfl, hnb, hob⟩ := h2
  have hb1 := below_new (w := w) (.cells (cellM m tA0 tc0 oA0 oc0) 37)
  have hat1 := alloc_at w (.cells (cellM m tA0 tc0 oA0 oc0) 37)
  have hb2 := hb1.trans ((below_new (w := w.alloc (.cells (cellM m tA0 tc0 oA0 oc0) 37)) (.cells (cellM n tB0 td0 oB0 od0) 37)).mono hb1.size)
  have hat3 := ((below_new (w := w.alloc (.cells (cellM m tA0 tc0 oA0 oc0) 37)) (.cells (cellM n tB0 td0 oB0 od0) 37)).block w.heap.size (heap_lt hat1)).trans hat1
  have hat5 := alloc_at (w.alloc (.cells (cellM m tA0 tc0 oA0 oc0) 37)) (.cells (cellM n tB0 td0 oB0 od0) 37)
  rw [asz] at hat5
  have HC1 := Lib.hid (fun W (hW : Below w.heap.size w W) => lawcut_cells (hna.below hW) (hoa.below hW))
  have HC2 := Lib.hid (fun W (hW : Below w.heap.size w W) => lawcut_cells (hnb.below hW) (hob.below hW))
  obtain ⟨W2, hW2⟩ : ∃ W, W = (w.alloc (.cells (cellM m tA0 tc0 oA0 oc0) 37)).alloc (.cells (cellM n tB0 td0 oB0 od0) 37) := ⟨_, rfl⟩
  have HW2 := Lib.hid hW2
  rw [← hW2] at hb2 hat3 hat5
  have hsz : W2.heap.size = w.heap.size + 2 := by rw [hW2, asz, asz]
  have HSZ := Lib.hid hsz
  have HB2 := Lib.hid hb2
  have HA2 := Lib.hid (And.intro hat3 hat5)
  have HNA := Lib.hid (And.intro (cut_nums hna) (cut_nums hnb))
  clear hG hti hti2 hna hnb hoa hob hb1 hat1 hb2 hat3 hat5 hsz hW2
  go_enter Tryz.func7, Tryz.ntmps7
  go_wp2_with fail
  rw [← HW2.out]
  go_cut [] from 5 to 8 (fun wx => Boxes w wx (cutM m) (cutM n))
  · refine wp_only ?_
    refine wp_region_held_drew (S := fun _ => True) (by kernel_rfl) trivial (fun hHeld => ?_)
    refine wpAnyH_ready (rs := [0, 2]) (by kernel_rfl) (by simp) ?_
    have hl := HA2.out.1
    have l0 := cell_of hl 0
    have l1 := cell_of hl 1
    have l2 := cell_of hl 2
    have l3 := cell_of hl 3
    have l4 := cell_of hl 4
    have l5 := cell_of hl 5
    have l6 := cell_of hl 6
    have l7 := cell_of hl 7
    have l8 := cell_of hl 8
    have l9 := cell_of hl 9
    have l10 := cell_of hl 10
    simp at l0 l1 l2 l3 l4 l5 l6 l7 l8 l9 l10
    clear hl
    refine AllReadyH.cons (o := { dst := some 5, op := Op.load 37 (Operand.tmp 2), type := 37, pos := "law.go:114", after := #[], guard := none }) rfl (fun K hK => ?step1) ?more1
    ((go_simp))
    refine hK.out _ _ ?hS1 (fun hHeld => ?rr1)
    case hS1 => (trivial)
    clear hK K
    try simp only [Act.put, List.setIfInBounds_toArray, List.set_cons_zero, List.set_cons_succ]
    · skip
      clear l0 l1 l2 l3 l4 l5 l6 l7 l8 l9 l10
      refine wpAnyH_ready (rs := [1, 2]) (by kernel_rfl) (by simp) ?_
      refine AllReadyH.cons (o := { dst := some 6, op := Op.call { callee := Callee.value (Operand.func 16), args := #[Operand.tmp 5], argTypes := #[37] }, type := 37, pos := "law.go:114", after := #[{ on := 0, ground := Ground.data }], guard := none }) rfl (fun K hK => ?step2) ?more2
      ((go_simp; go_at_call 16; refine (HC1.out _ (below_drew HB2.out)).mono ?_; rintro e w3 ⟨oA, oc, rfl, hn1, ho1, hb3⟩; have HO1 := Lib.hid ho1; have HB3 := Lib.hid (below_of_drew hb3); clear hn1 ho1 hb3; go_wp2_with fail))
      refine hK.out _ _ ?hS2 (fun hHeld => ?rr2)
      case hS2 => (trivial)
      clear hK K
      try simp only [Act.put, List.setIfInBounds_toArray, List.set_cons_zero, List.set_cons_succ]
      · skip
        refine wpAnyH_ready (rs := [2]) (by kernel_rfl) (by simp) ?_
        have hl := (HB3.out.block (w.heap.size + 1) (heap_lt HA2.out.2)).trans HA2.out.2
        have l0 := cell_of hl 0
        have l1 := cell_of hl 1
        have l2 := cell_of hl 2
        have l3 := cell_of hl 3
        have l4 := cell_of hl 4
        have l5 := cell_of hl 5
        have l6 := cell_of hl 6
        have l7 := cell_of hl 7
        have l8 := cell_of hl 8
        have l9 := cell_of hl 9
        have l10 := cell_of hl 10
        simp at l0 l1 l2 l3 l4 l5 l6 l7 l8 l9 l10
        clear hl
        refine AllReadyH.cons (o := { dst := some 7, op := Op.load 37 (Operand.tmp 3), type := 37, pos := "law.go:114", after := #[], guard := none }) rfl (fun K hK => ?step3) ?more3
        case more3 => exact AllReadyH.nil
        ((go_simp))
        refine hK.out _ _ ?hS3 (fun hHeld => ?rr3)
        case hS3 => (trivial)
        clear hK K
        try simp only [Act.put, List.setIfInBounds_toArray, List.set_cons_zero, List.set_cons_succ]
        clear l0 l1 l2 l3 l4 l5 l6 l7 l8 l9 l10
        refine wpAnyH_ready (rs := [3]) (by kernel_rfl) (by simp) ?_
        refine AllReadyH.cons (o := { dst := some 8, op := Op.call { callee := Callee.value (Operand.func 16), args := #[Operand.tmp 7], argTypes := #[37] }, type := 37, pos := "law.go:114", after := #[{ on := 2, ground := Ground.data }, { on := 1, ground := Ground.chain }], guard := none }) rfl (fun K hK => ?step4) ?more4
        case more4 => exact AllReadyH.nil
        ((go_simp; go_at_call 16; refine (HC2.out _ (HB2.out.trans (HB3.out.mono HB2.out.size))).mono ?_; rintro e w4 ⟨oB, od, rfl, hn2, ho2, hb4⟩; have HO2 := Lib.hid ho2; have HB4 := Lib.hid (HB3.out.trans (hb4.mono HB3.out.size)); have HB34 := Lib.hid hb4; clear hn2 ho2 hb4; go_wp2_with fail))
        refine hK.out _ _ ?hS4 (fun hHeld => ?rr4)
        case hS4 => (trivial)
        clear hK K
        try simp only [Act.put, List.setIfInBounds_toArray, List.set_cons_zero, List.set_cons_succ]
        have hM4 := (HB4.out.block w.heap.size (heap_lt HA2.out.1)).trans HA2.out.1
        have hZ4 := (HB4.out.block (w.heap.size + 1) (heap_lt HA2.out.2)).trans HA2.out.2
        have c0 := cell_of hM4 0
        have c1 := cell_of hM4 1
        have c2 := cell_of hM4 2
        have c3 := cell_of hM4 3
        have c4 := cell_of hM4 4
        have c5 := cell_of hM4 5
        have c6 := cell_of hM4 6
        have c7 := cell_of hM4 7
        have c8 := cell_of hM4 8
        have c9 := cell_of hM4 9
        have c10 := cell_of hM4 10
        have f0 := free0 hM4 0
        have f1 := free0 hM4 1
        have f2 := free0 hM4 2
        have f3 := free0 hM4 3
        have f4 := free0 hM4 4
        have f5 := free0 hM4 5
        have f6 := free0 hM4 6
        have f7 := free0 hM4 7
        have f8 := free0 hM4 8
        have f9 := free0 hM4 9
        have f10 := free0 hM4 10
        simp at c0 c1 c2 c3 c4 c5 c6 c7 c8 c9 c10
        have HM4 := Lib.hid hM4
        have HZ4 := Lib.hid hZ4
        clear hM4 hZ4
        refine wpAnyH_ready (rs := [4]) (by kernel_rfl) (by simp) ?_
        refine AllReadyH.cons (o := { dst := none, op := Op.store 37 (Operand.tmp 2) (Operand.tmp 6), type := 0, pos := "law.go:114", after := #[{ on := 1, ground := Ground.data }, { on := 3, ground := Ground.chain }, { on := 0, ground := Ground.phase }, { on := 1, ground := Ground.phase }, { on := 2, ground := Ground.textOnly Departure.lateStores }, { on := 3, ground := Ground.textOnly Departure.lateStoresUnsure }], guard := none }) rfl (fun K hK => ?step5) ?more5
        case more5 => exact AllReadyH.nil
        ((go_simp))
        refine hK.out _ _ ?hS5 (fun hHeld => ?rr5)
        case hS5 => (trivial)
        clear hK K
        try simp only [Act.put, List.setIfInBounds_toArray, List.set_cons_zero, List.set_cons_succ]
        obtain ⟨W5, hW5⟩ : ∃ W, W = (World.setCell (World.setCell (World.setCell (World.setCell (World.setCell (World.setCell (World.setCell (World.setCell (World.setCell (World.setCell (World.setCell w4 ⟨w.heap.size, 0, none⟩ (.int .i64 (cutM m).kd)) ⟨w.heap.size, 1, none⟩ (.int .i64 (cutM m).fr)) ⟨w.heap.size, 2, none⟩ (.int .i64 (cutM m).tt)) ⟨w.heap.size, 3, none⟩ (.int .i64 (cutM m).g)) ⟨w.heap.size, 4, none⟩ (.int .i64 (cutM m).nd)) ⟨w.heap.size, 5, none⟩ (.int .i64 (cutM m).tr)) ⟨w.heap.size, 6, none⟩ (.int .i64 (cutM m).lw)) ⟨w.heap.size, 7, none⟩ (.int .i64 (cutM m).co)) ⟨w.heap.size, 8, none⟩ (.int .i64 (cutM m).ti)) ⟨w.heap.size, 9, none⟩ (.slice tA0 (cutM m).tl.length tc0)) ⟨w.heap.size, 10, none⟩ (.slice oA (cutM m).os.length oc)) := ⟨_, rfl⟩
        rw [← hW5]
        have hS5 : W5 = w4.setCells w.heap.size 0 [.int .i64 (cutM m).kd, .int .i64 (cutM m).fr, .int .i64 (cutM m).tt, .int .i64 (cutM m).g, .int .i64 (cutM m).nd, .int .i64 (cutM m).tr, .int .i64 (cutM m).lw, .int .i64 (cutM m).co, .int .i64 (cutM m).ti, .slice tA0 (cutM m).tl.length tc0, .slice oA (cutM m).os.length oc] := hW5
        have hM5 : W5.heap[w.heap.size]? = some (.cells (cellM (cutM m) tA0 tc0 oA oc) 37 (0, 0)) := by rw [hS5]; exact setCells_at w.heap.size [.int .i64 (cutM m).kd, .int .i64 (cutM m).fr, .int .i64 (cutM m).tt, .int .i64 (cutM m).g, .int .i64 (cutM m).nd, .int .i64 (cutM m).tr, .int .i64 (cutM m).lw, .int .i64 (cutM m).co, .int .i64 (cutM m).ti, .slice tA0 (cutM m).tl.length tc0, .slice oA (cutM m).os.length oc] [] [.int .i64 m.kd, .int .i64 m.fr, .int .i64 m.tt, .int .i64 m.g, .int .i64 m.nd, .int .i64 m.tr, .int .i64 m.lw, .int .i64 m.co, .int .i64 m.ti, .slice tA0 m.tl.length tc0, .slice oA0 m.os.length oc0] w4 rfl HM4.out
        have hZ5 : W5.heap[w.heap.size + 1]? = some (.cells (cellM n tB0 td0 oB0 od0) 37 (0, 0)) := by rw [hS5]; exact (setCells_block w.heap.size [.int .i64 (cutM m).kd, .int .i64 (cutM m).fr, .int .i64 (cutM m).tt, .int .i64 (cutM m).g, .int .i64 (cutM m).nd, .int .i64 (cutM m).tr, .int .i64 (cutM m).lw, .int .i64 (cutM m).co, .int .i64 (cutM m).ti, .slice tA0 (cutM m).tl.length tc0, .slice oA (cutM m).os.length oc] 0 w4 _ (by omega)).trans HZ4.out
        have HT5 : Hid (Touch (fun k => k = w.heap.size ∨ k = w.heap.size + 1) w4 W5) := Lib.hid (by rw [hS5]; exact setCells_touch w.heap.size (fun _ => .inl rfl) [.int .i64 (cutM m).kd, .int .i64 (cutM m).fr, .int .i64 (cutM m).tt, .int .i64 (cutM m).g, .int .i64 (cutM m).nd, .int .i64 (cutM m).tr, .int .i64 (cutM m).lw, .int .i64 (cutM m).co, .int .i64 (cutM m).ti, .slice tA0 (cutM m).tl.length tc0, .slice oA (cutM m).os.length oc] 0 w4 (Touch.refl _ _))
        clear hW5 hS5 c0 f0 c1 f1 c2 f2 c3 f3 c4 f4 c5 f5 c6 f6 c7 f7 c8 f8 c9 f9 c10 f10
        have c0 := cell_of hZ5 0
        have c1 := cell_of hZ5 1
        have c2 := cell_of hZ5 2
        have c3 := cell_of hZ5 3
        have c4 := cell_of hZ5 4
        have c5 := cell_of hZ5 5
        have c6 := cell_of hZ5 6
        have c7 := cell_of hZ5 7
        have c8 := cell_of hZ5 8
        have c9 := cell_of hZ5 9
        have c10 := cell_of hZ5 10
        have f0 := free0 hZ5 0
        have f1 := free0 hZ5 1
        have f2 := free0 hZ5 2
        have f3 := free0 hZ5 3
        have f4 := free0 hZ5 4
        have f5 := free0 hZ5 5
        have f6 := free0 hZ5 6
        have f7 := free0 hZ5 7
        have f8 := free0 hZ5 8
        have f9 := free0 hZ5 9
        have f10 := free0 hZ5 10
        simp at c0 c1 c2 c3 c4 c5 c6 c7 c8 c9 c10
        have HM5 := Lib.hid (And.intro hM5 hZ5)
        clear hM5 hZ5
        refine wpAnyH_ready (rs := [5]) (by kernel_rfl) (by simp) ?_
        refine AllReadyH.cons (o := { dst := none, op := Op.store 37 (Operand.tmp 3) (Operand.tmp 8), type := 0, pos := "law.go:114", after := #[{ on := 3, ground := Ground.data }, { on := 4, ground := Ground.chain }, { on := 0, ground := Ground.phase }, { on := 1, ground := Ground.phase }, { on := 2, ground := Ground.phase }, { on := 3, ground := Ground.phase }, { on := 4, ground := Ground.phase }], guard := none }) rfl (fun K hK => ?step6) ?more6
        case more6 => exact AllReadyH.nil
        ((go_simp))
        refine hK.out _ _ ?hS6 (fun hHeld => ?rr6)
        case hS6 => (trivial)
        clear hK K
        try simp only [Act.put, List.setIfInBounds_toArray, List.set_cons_zero, List.set_cons_succ]
        obtain ⟨W6, hW6⟩ : ∃ W, W = (World.setCell (World.setCell (World.setCell (World.setCell (World.setCell (World.setCell (World.setCell (World.setCell (World.setCell (World.setCell (World.setCell W5 ⟨(w.heap.size + 1), 0, none⟩ (.int .i64 (cutM n).kd)) ⟨(w.heap.size + 1), 1, none⟩ (.int .i64 (cutM n).fr)) ⟨(w.heap.size + 1), 2, none⟩ (.int .i64 (cutM n).tt)) ⟨(w.heap.size + 1), 3, none⟩ (.int .i64 (cutM n).g)) ⟨(w.heap.size + 1), 4, none⟩ (.int .i64 (cutM n).nd)) ⟨(w.heap.size + 1), 5, none⟩ (.int .i64 (cutM n).tr)) ⟨(w.heap.size + 1), 6, none⟩ (.int .i64 (cutM n).lw)) ⟨(w.heap.size + 1), 7, none⟩ (.int .i64 (cutM n).co)) ⟨(w.heap.size + 1), 8, none⟩ (.int .i64 (cutM n).ti)) ⟨(w.heap.size + 1), 9, none⟩ (.slice tB0 (cutM n).tl.length td0)) ⟨(w.heap.size + 1), 10, none⟩ (.slice oB (cutM n).os.length od)) := ⟨_, rfl⟩
        rw [← hW6]
        have hS6 : W6 = W5.setCells (w.heap.size + 1) 0 [.int .i64 (cutM n).kd, .int .i64 (cutM n).fr, .int .i64 (cutM n).tt, .int .i64 (cutM n).g, .int .i64 (cutM n).nd, .int .i64 (cutM n).tr, .int .i64 (cutM n).lw, .int .i64 (cutM n).co, .int .i64 (cutM n).ti, .slice tB0 (cutM n).tl.length td0, .slice oB (cutM n).os.length od] := hW6
        have HM6 : Hid (W6.heap[w.heap.size]? = some (.cells (cellM (cutM m) tA0 tc0 oA oc) 37 (0, 0))) := Lib.hid (by rw [hS6]; exact (setCells_block (w.heap.size + 1) [.int .i64 (cutM n).kd, .int .i64 (cutM n).fr, .int .i64 (cutM n).tt, .int .i64 (cutM n).g, .int .i64 (cutM n).nd, .int .i64 (cutM n).tr, .int .i64 (cutM n).lw, .int .i64 (cutM n).co, .int .i64 (cutM n).ti, .slice tB0 (cutM n).tl.length td0, .slice oB (cutM n).os.length od] 0 W5 _ (by omega)).trans HM5.out.1)
        have HZ6 : Hid (W6.heap[w.heap.size + 1]? = some (.cells (cellM (cutM n) tB0 td0 oB od) 37 (0, 0))) := Lib.hid (by rw [hS6]; exact setCells_at (w.heap.size + 1) [.int .i64 (cutM n).kd, .int .i64 (cutM n).fr, .int .i64 (cutM n).tt, .int .i64 (cutM n).g, .int .i64 (cutM n).nd, .int .i64 (cutM n).tr, .int .i64 (cutM n).lw, .int .i64 (cutM n).co, .int .i64 (cutM n).ti, .slice tB0 (cutM n).tl.length td0, .slice oB (cutM n).os.length od] [] [.int .i64 n.kd, .int .i64 n.fr, .int .i64 n.tt, .int .i64 n.g, .int .i64 n.nd, .int .i64 n.tr, .int .i64 n.lw, .int .i64 n.co, .int .i64 n.ti, .slice tB0 n.tl.length td0, .slice oB0 n.os.length od0] W5 rfl HM5.out.2)
        have HT6 : Hid (Touch (fun k => k = w.heap.size ∨ k = w.heap.size + 1) w4 W6) := Lib.hid (by rw [hS6]; exact setCells_touch (w.heap.size + 1) (fun _ => .inr rfl) [.int .i64 (cutM n).kd, .int .i64 (cutM n).fr, .int .i64 (cutM n).tt, .int .i64 (cutM n).g, .int .i64 (cutM n).nd, .int .i64 (cutM n).tr, .int .i64 (cutM n).lw, .int .i64 (cutM n).co, .int .i64 (cutM n).ti, .slice tB0 (cutM n).tl.length td0, .slice oB (cutM n).os.length od] 0 W5 HT5.out)
        clear hW6 hS6 c0 f0 c1 f1 c2 f2 c3 f3 c4 f4 c5 f5 c6 f6 c7 f7 c8 f8 c9 f9 c10 f10
        refine wpAnyH_done (by kernel_rfl) ?_ _
        clear hHeld
        dsimp only [onlyN]
        go_wp2_with fail
        go_meet
        exact boxes_of (HB2.out.trans (HB4.out.mono HB2.out.size)) (by have := HSZ.out; show w.heap.size + 2 ≤ W2.heap.size; omega) (by have := HSZ.out; have := HB3.out.size; omega) HNA.out.1 HO1.out HB34.out HNA.out.2 HO2.out (KeysIn.cut m) (KeysIn.cut n) HT6.out HM6.out HZ6.out
      · skip
        have hl := HA2.out.2
        have l0 := cell_of hl 0
        have l1 := cell_of hl 1
        have l2 := cell_of hl 2
        have l3 := cell_of hl 3
        have l4 := cell_of hl 4
        have l5 := cell_of hl 5
        have l6 := cell_of hl 6
        have l7 := cell_of hl 7
        have l8 := cell_of hl 8
        have l9 := cell_of hl 9
        have l10 := cell_of hl 10
        simp at l0 l1 l2 l3 l4 l5 l6 l7 l8 l9 l10
        clear hl
        refine AllReadyH.cons (o := { dst := some 7, op := Op.load 37 (Operand.tmp 3), type := 37, pos := "law.go:114", after := #[], guard := none }) rfl (fun K hK => ?step7) ?more7
        case more7 => exact AllReadyH.nil
        ((go_simp))
        refine hK.out _ _ ?hS7 (fun hHeld => ?rr7)
        case hS7 => (trivial)
        clear hK K
        try simp only [Act.put, List.setIfInBounds_toArray, List.set_cons_zero, List.set_cons_succ]
        clear l0 l1 l2 l3 l4 l5 l6 l7 l8 l9 l10
        refine wpAnyH_ready (rs := [1]) (by kernel_rfl) (by simp) ?_
        refine AllReadyH.cons (o := { dst := some 6, op := Op.call { callee := Callee.value (Operand.func 16), args := #[Operand.tmp 5], argTypes := #[37] }, type := 37, pos := "law.go:114", after := #[{ on := 0, ground := Ground.data }], guard := none }) rfl (fun K hK => ?step8) ?more8
        case more8 => exact AllReadyH.nil
        ((go_simp; go_at_call 16; refine (HC1.out _ (below_drew HB2.out)).mono ?_; rintro e w3 ⟨oA, oc, rfl, hn1, ho1, hb3⟩; have HO1 := Lib.hid ho1; have HB3 := Lib.hid (below_of_drew hb3); clear hn1 ho1 hb3; go_wp2_with fail))
        refine hK.out _ _ ?hS8 (fun hHeld => ?rr8)
        case hS8 => (trivial)
        clear hK K
        try simp only [Act.put, List.setIfInBounds_toArray, List.set_cons_zero, List.set_cons_succ]
        refine wpAnyH_ready (rs := [3]) (by kernel_rfl) (by simp) ?_
        refine AllReadyH.cons (o := { dst := some 8, op := Op.call { callee := Callee.value (Operand.func 16), args := #[Operand.tmp 7], argTypes := #[37] }, type := 37, pos := "law.go:114", after := #[{ on := 2, ground := Ground.data }, { on := 1, ground := Ground.chain }], guard := none }) rfl (fun K hK => ?step9) ?more9
        case more9 => exact AllReadyH.nil
        ((go_simp; go_at_call 16; refine (HC2.out _ (HB2.out.trans (HB3.out.mono HB2.out.size))).mono ?_; rintro e w4 ⟨oB, od, rfl, hn2, ho2, hb4⟩; have HO2 := Lib.hid ho2; have HB4 := Lib.hid (HB3.out.trans (hb4.mono HB3.out.size)); have HB34 := Lib.hid hb4; clear hn2 ho2 hb4; go_wp2_with fail))
        refine hK.out _ _ ?hS9 (fun hHeld => ?rr9)
        case hS9 => (trivial)
        clear hK K
        try simp only [Act.put, List.setIfInBounds_toArray, List.set_cons_zero, List.set_cons_succ]
        have hM4 := (HB4.out.block w.heap.size (heap_lt HA2.out.1)).trans HA2.out.1
        have hZ4 := (HB4.out.block (w.heap.size + 1) (heap_lt HA2.out.2)).trans HA2.out.2
        have c0 := cell_of hM4 0
        have c1 := cell_of hM4 1
        have c2 := cell_of hM4 2
        have c3 := cell_of hM4 3
        have c4 := cell_of hM4 4
        have c5 := cell_of hM4 5
        have c6 := cell_of hM4 6
        have c7 := cell_of hM4 7
        have c8 := cell_of hM4 8
        have c9 := cell_of hM4 9
        have c10 := cell_of hM4 10
        have f0 := free0 hM4 0
        have f1 := free0 hM4 1
        have f2 := free0 hM4 2
        have f3 := free0 hM4 3
        have f4 := free0 hM4 4
        have f5 := free0 hM4 5
        have f6 := free0 hM4 6
        have f7 := free0 hM4 7
        have f8 := free0 hM4 8
        have f9 := free0 hM4 9
        have f10 := free0 hM4 10
        simp at c0 c1 c2 c3 c4 c5 c6 c7 c8 c9 c10
        have HM4 := Lib.hid hM4
        have HZ4 := Lib.hid hZ4
        clear hM4 hZ4
        refine wpAnyH_ready (rs := [4]) (by kernel_rfl) (by simp) ?_
        refine AllReadyH.cons (o := { dst := none, op := Op.store 37 (Operand.tmp 2) (Operand.tmp 6), type := 0, pos := "law.go:114", after := #[{ on := 1, ground := Ground.data }, { on := 3, ground := Ground.chain }, { on := 0, ground := Ground.phase }, { on := 1, ground := Ground.phase }, { on := 2, ground := Ground.textOnly Departure.lateStores }, { on := 3, ground := Ground.textOnly Departure.lateStoresUnsure }], guard := none }) rfl (fun K hK => ?step10) ?more10
        case more10 => exact AllReadyH.nil
        ((go_simp))
        refine hK.out _ _ ?hS10 (fun hHeld => ?rr10)
        case hS10 => (trivial)
        clear hK K
        try simp only [Act.put, List.setIfInBounds_toArray, List.set_cons_zero, List.set_cons_succ]
        obtain ⟨W5, hW5⟩ : ∃ W, W = (World.setCell (World.setCell (World.setCell (World.setCell (World.setCell (World.setCell (World.setCell (World.setCell (World.setCell (World.setCell (World.setCell w4 ⟨w.heap.size, 0, none⟩ (.int .i64 (cutM m).kd)) ⟨w.heap.size, 1, none⟩ (.int .i64 (cutM m).fr)) ⟨w.heap.size, 2, none⟩ (.int .i64 (cutM m).tt)) ⟨w.heap.size, 3, none⟩ (.int .i64 (cutM m).g)) ⟨w.heap.size, 4, none⟩ (.int .i64 (cutM m).nd)) ⟨w.heap.size, 5, none⟩ (.int .i64 (cutM m).tr)) ⟨w.heap.size, 6, none⟩ (.int .i64 (cutM m).lw)) ⟨w.heap.size, 7, none⟩ (.int .i64 (cutM m).co)) ⟨w.heap.size, 8, none⟩ (.int .i64 (cutM m).ti)) ⟨w.heap.size, 9, none⟩ (.slice tA0 (cutM m).tl.length tc0)) ⟨w.heap.size, 10, none⟩ (.slice oA (cutM m).os.length oc)) := ⟨_, rfl⟩
        rw [← hW5]
        have hS5 : W5 = w4.setCells w.heap.size 0 [.int .i64 (cutM m).kd, .int .i64 (cutM m).fr, .int .i64 (cutM m).tt, .int .i64 (cutM m).g, .int .i64 (cutM m).nd, .int .i64 (cutM m).tr, .int .i64 (cutM m).lw, .int .i64 (cutM m).co, .int .i64 (cutM m).ti, .slice tA0 (cutM m).tl.length tc0, .slice oA (cutM m).os.length oc] := hW5
        have hM5 : W5.heap[w.heap.size]? = some (.cells (cellM (cutM m) tA0 tc0 oA oc) 37 (0, 0)) := by rw [hS5]; exact setCells_at w.heap.size [.int .i64 (cutM m).kd, .int .i64 (cutM m).fr, .int .i64 (cutM m).tt, .int .i64 (cutM m).g, .int .i64 (cutM m).nd, .int .i64 (cutM m).tr, .int .i64 (cutM m).lw, .int .i64 (cutM m).co, .int .i64 (cutM m).ti, .slice tA0 (cutM m).tl.length tc0, .slice oA (cutM m).os.length oc] [] [.int .i64 m.kd, .int .i64 m.fr, .int .i64 m.tt, .int .i64 m.g, .int .i64 m.nd, .int .i64 m.tr, .int .i64 m.lw, .int .i64 m.co, .int .i64 m.ti, .slice tA0 m.tl.length tc0, .slice oA0 m.os.length oc0] w4 rfl HM4.out
        have hZ5 : W5.heap[w.heap.size + 1]? = some (.cells (cellM n tB0 td0 oB0 od0) 37 (0, 0)) := by rw [hS5]; exact (setCells_block w.heap.size [.int .i64 (cutM m).kd, .int .i64 (cutM m).fr, .int .i64 (cutM m).tt, .int .i64 (cutM m).g, .int .i64 (cutM m).nd, .int .i64 (cutM m).tr, .int .i64 (cutM m).lw, .int .i64 (cutM m).co, .int .i64 (cutM m).ti, .slice tA0 (cutM m).tl.length tc0, .slice oA (cutM m).os.length oc] 0 w4 _ (by omega)).trans HZ4.out
        have HT5 : Hid (Touch (fun k => k = w.heap.size ∨ k = w.heap.size + 1) w4 W5) := Lib.hid (by rw [hS5]; exact setCells_touch w.heap.size (fun _ => .inl rfl) [.int .i64 (cutM m).kd, .int .i64 (cutM m).fr, .int .i64 (cutM m).tt, .int .i64 (cutM m).g, .int .i64 (cutM m).nd, .int .i64 (cutM m).tr, .int .i64 (cutM m).lw, .int .i64 (cutM m).co, .int .i64 (cutM m).ti, .slice tA0 (cutM m).tl.length tc0, .slice oA (cutM m).os.length oc] 0 w4 (Touch.refl _ _))
        clear hW5 hS5 c0 f0 c1 f1 c2 f2 c3 f3 c4 f4 c5 f5 c6 f6 c7 f7 c8 f8 c9 f9 c10 f10
        have c0 := cell_of hZ5 0
        have c1 := cell_of hZ5 1
        have c2 := cell_of hZ5 2
        have c3 := cell_of hZ5 3
        have c4 := cell_of hZ5 4
        have c5 := cell_of hZ5 5
        have c6 := cell_of hZ5 6
        have c7 := cell_of hZ5 7
        have c8 := cell_of hZ5 8
        have c9 := cell_of hZ5 9
        have c10 := cell_of hZ5 10
        have f0 := free0 hZ5 0
        have f1 := free0 hZ5 1
        have f2 := free0 hZ5 2
        have f3 := free0 hZ5 3
        have f4 := free0 hZ5 4
        have f5 := free0 hZ5 5
        have f6 := free0 hZ5 6
        have f7 := free0 hZ5 7
        have f8 := free0 hZ5 8
        have f9 := free0 hZ5 9
        have f10 := free0 hZ5 10
        simp at c0 c1 c2 c3 c4 c5 c6 c7 c8 c9 c10
        have HM5 := Lib.hid (And.intro hM5 hZ5)
        clear hM5 hZ5
        refine wpAnyH_ready (rs := [5]) (by kernel_rfl) (by simp) ?_
        refine AllReadyH.cons (o := { dst := none, op := Op.store 37 (Operand.tmp 3) (Operand.tmp 8), type := 0, pos := "law.go:114", after := #[{ on := 3, ground := Ground.data }, { on := 4, ground := Ground.chain }, { on := 0, ground := Ground.phase }, { on := 1, ground := Ground.phase }, { on := 2, ground := Ground.phase }, { on := 3, ground := Ground.phase }, { on := 4, ground := Ground.phase }], guard := none }) rfl (fun K hK => ?step11) ?more11
        case more11 => exact AllReadyH.nil
        ((go_simp))
        refine hK.out _ _ ?hS11 (fun hHeld => ?rr11)
        case hS11 => (trivial)
        clear hK K
        try simp only [Act.put, List.setIfInBounds_toArray, List.set_cons_zero, List.set_cons_succ]
        obtain ⟨W6, hW6⟩ : ∃ W, W = (World.setCell (World.setCell (World.setCell (World.setCell (World.setCell (World.setCell (World.setCell (World.setCell (World.setCell (World.setCell (World.setCell W5 ⟨(w.heap.size + 1), 0, none⟩ (.int .i64 (cutM n).kd)) ⟨(w.heap.size + 1), 1, none⟩ (.int .i64 (cutM n).fr)) ⟨(w.heap.size + 1), 2, none⟩ (.int .i64 (cutM n).tt)) ⟨(w.heap.size + 1), 3, none⟩ (.int .i64 (cutM n).g)) ⟨(w.heap.size + 1), 4, none⟩ (.int .i64 (cutM n).nd)) ⟨(w.heap.size + 1), 5, none⟩ (.int .i64 (cutM n).tr)) ⟨(w.heap.size + 1), 6, none⟩ (.int .i64 (cutM n).lw)) ⟨(w.heap.size + 1), 7, none⟩ (.int .i64 (cutM n).co)) ⟨(w.heap.size + 1), 8, none⟩ (.int .i64 (cutM n).ti)) ⟨(w.heap.size + 1), 9, none⟩ (.slice tB0 (cutM n).tl.length td0)) ⟨(w.heap.size + 1), 10, none⟩ (.slice oB (cutM n).os.length od)) := ⟨_, rfl⟩
        rw [← hW6]
        have hS6 : W6 = W5.setCells (w.heap.size + 1) 0 [.int .i64 (cutM n).kd, .int .i64 (cutM n).fr, .int .i64 (cutM n).tt, .int .i64 (cutM n).g, .int .i64 (cutM n).nd, .int .i64 (cutM n).tr, .int .i64 (cutM n).lw, .int .i64 (cutM n).co, .int .i64 (cutM n).ti, .slice tB0 (cutM n).tl.length td0, .slice oB (cutM n).os.length od] := hW6
        have HM6 : Hid (W6.heap[w.heap.size]? = some (.cells (cellM (cutM m) tA0 tc0 oA oc) 37 (0, 0))) := Lib.hid (by rw [hS6]; exact (setCells_block (w.heap.size + 1) [.int .i64 (cutM n).kd, .int .i64 (cutM n).fr, .int .i64 (cutM n).tt, .int .i64 (cutM n).g, .int .i64 (cutM n).nd, .int .i64 (cutM n).tr, .int .i64 (cutM n).lw, .int .i64 (cutM n).co, .int .i64 (cutM n).ti, .slice tB0 (cutM n).tl.length td0, .slice oB (cutM n).os.length od] 0 W5 _ (by omega)).trans HM5.out.1)
        have HZ6 : Hid (W6.heap[w.heap.size + 1]? = some (.cells (cellM (cutM n) tB0 td0 oB od) 37 (0, 0))) := Lib.hid (by rw [hS6]; exact setCells_at (w.heap.size + 1) [.int .i64 (cutM n).kd, .int .i64 (cutM n).fr, .int .i64 (cutM n).tt, .int .i64 (cutM n).g, .int .i64 (cutM n).nd, .int .i64 (cutM n).tr, .int .i64 (cutM n).lw, .int .i64 (cutM n).co, .int .i64 (cutM n).ti, .slice tB0 (cutM n).tl.length td0, .slice oB (cutM n).os.length od] [] [.int .i64 n.kd, .int .i64 n.fr, .int .i64 n.tt, .int .i64 n.g, .int .i64 n.nd, .int .i64 n.tr, .int .i64 n.lw, .int .i64 n.co, .int .i64 n.ti, .slice tB0 n.tl.length td0, .slice oB0 n.os.length od0] W5 rfl HM5.out.2)
        have HT6 : Hid (Touch (fun k => k = w.heap.size ∨ k = w.heap.size + 1) w4 W6) := Lib.hid (by rw [hS6]; exact setCells_touch (w.heap.size + 1) (fun _ => .inr rfl) [.int .i64 (cutM n).kd, .int .i64 (cutM n).fr, .int .i64 (cutM n).tt, .int .i64 (cutM n).g, .int .i64 (cutM n).nd, .int .i64 (cutM n).tr, .int .i64 (cutM n).lw, .int .i64 (cutM n).co, .int .i64 (cutM n).ti, .slice tB0 (cutM n).tl.length td0, .slice oB (cutM n).os.length od] 0 W5 HT5.out)
        clear hW6 hS6 c0 f0 c1 f1 c2 f2 c3 f3 c4 f4 c5 f5 c6 f6 c7 f7 c8 f8 c9 f9 c10 f10
        refine wpAnyH_done (by kernel_rfl) ?_ _
        clear hHeld
        dsimp only [onlyN]
        go_wp2_with fail
        go_meet
        exact boxes_of (HB2.out.trans (HB4.out.mono HB2.out.size)) (by have := HSZ.out; show w.heap.size + 2 ≤ W2.heap.size; omega) (by have := HSZ.out; have := HB3.out.size; omega) HNA.out.1 HO1.out HB34.out HNA.out.2 HO2.out (KeysIn.cut m) (KeysIn.cut n) HT6.out HM6.out HZ6.out
    · skip
      clear l0 l1 l2 l3 l4 l5 l6 l7 l8 l9 l10
      have hl := HA2.out.2
      have l0 := cell_of hl 0
      have l1 := cell_of hl 1
      have l2 := cell_of hl 2
      have l3 := cell_of hl 3
      have l4 := cell_of hl 4
      have l5 := cell_of hl 5
      have l6 := cell_of hl 6
      have l7 := cell_of hl 7
      have l8 := cell_of hl 8
      have l9 := cell_of hl 9
      have l10 := cell_of hl 10
      simp at l0 l1 l2 l3 l4 l5 l6 l7 l8 l9 l10
      clear hl
      refine AllReadyH.cons (o := { dst := some 7, op := Op.load 37 (Operand.tmp 3), type := 37, pos := "law.go:114", after := #[], guard := none }) rfl (fun K hK => ?step12) ?more12
      case more12 => exact AllReadyH.nil
      ((go_simp))
      refine hK.out _ _ ?hS12 (fun hHeld => ?rr12)
      case hS12 => (trivial)
      clear hK K
      try simp only [Act.put, List.setIfInBounds_toArray, List.set_cons_zero, List.set_cons_succ]
      clear l0 l1 l2 l3 l4 l5 l6 l7 l8 l9 l10
      refine wpAnyH_ready (rs := [0]) (by kernel_rfl) (by simp) ?_
      have hl := HA2.out.1
      have l0 := cell_of hl 0
      have l1 := cell_of hl 1
      have l2 := cell_of hl 2
      have l3 := cell_of hl 3
      have l4 := cell_of hl 4
      have l5 := cell_of hl 5
      have l6 := cell_of hl 6
      have l7 := cell_of hl 7
      have l8 := cell_of hl 8
      have l9 := cell_of hl 9
      have l10 := cell_of hl 10
      simp at l0 l1 l2 l3 l4 l5 l6 l7 l8 l9 l10
      clear hl
      refine AllReadyH.cons (o := { dst := some 5, op := Op.load 37 (Operand.tmp 2), type := 37, pos := "law.go:114", after := #[], guard := none }) rfl (fun K hK => ?step13) ?more13
      case more13 => exact AllReadyH.nil
      ((go_simp))
      refine hK.out _ _ ?hS13 (fun hHeld => ?rr13)
      case hS13 => (trivial)
      clear hK K
      try simp only [Act.put, List.setIfInBounds_toArray, List.set_cons_zero, List.set_cons_succ]
      clear l0 l1 l2 l3 l4 l5 l6 l7 l8 l9 l10
      refine wpAnyH_ready (rs := [1]) (by kernel_rfl) (by simp) ?_
      refine AllReadyH.cons (o := { dst := some 6, op := Op.call { callee := Callee.value (Operand.func 16), args := #[Operand.tmp 5], argTypes := #[37] }, type := 37, pos := "law.go:114", after := #[{ on := 0, ground := Ground.data }], guard := none }) rfl (fun K hK => ?step14) ?more14
      case more14 => exact AllReadyH.nil
      ((go_simp; go_at_call 16; refine (HC1.out _ (below_drew HB2.out)).mono ?_; rintro e w3 ⟨oA, oc, rfl, hn1, ho1, hb3⟩; have HO1 := Lib.hid ho1; have HB3 := Lib.hid (below_of_drew hb3); clear hn1 ho1 hb3; go_wp2_with fail))
      refine hK.out _ _ ?hS14 (fun hHeld => ?rr14)
      case hS14 => (trivial)
      clear hK K
      try simp only [Act.put, List.setIfInBounds_toArray, List.set_cons_zero, List.set_cons_succ]
      refine wpAnyH_ready (rs := [3]) (by kernel_rfl) (by simp) ?_
      refine AllReadyH.cons (o := { dst := some 8, op := Op.call { callee := Callee.value (Operand.func 16), args := #[Operand.tmp 7], argTypes := #[37] }, type := 37, pos := "law.go:114", after := #[{ on := 2, ground := Ground.data }, { on := 1, ground := Ground.chain }], guard := none }) rfl (fun K hK => ?step15) ?more15
      case more15 => exact AllReadyH.nil
      ((go_simp; go_at_call 16; refine (HC2.out _ (HB2.out.trans (HB3.out.mono HB2.out.size))).mono ?_; rintro e w4 ⟨oB, od, rfl, hn2, ho2, hb4⟩; have HO2 := Lib.hid ho2; have HB4 := Lib.hid (HB3.out.trans (hb4.mono HB3.out.size)); have HB34 := Lib.hid hb4; clear hn2 ho2 hb4; go_wp2_with fail))
      refine hK.out _ _ ?hS15 (fun hHeld => ?rr15)
      case hS15 => (trivial)
      clear hK K
      try simp only [Act.put, List.setIfInBounds_toArray, List.set_cons_zero, List.set_cons_succ]
      have hM4 := (HB4.out.block w.heap.size (heap_lt HA2.out.1)).trans HA2.out.1
      have hZ4 := (HB4.out.block (w.heap.size + 1) (heap_lt HA2.out.2)).trans HA2.out.2
      have c0 := cell_of hM4 0
      have c1 := cell_of hM4 1
      have c2 := cell_of hM4 2
      have c3 := cell_of hM4 3
      have c4 := cell_of hM4 4
      have c5 := cell_of hM4 5
      have c6 := cell_of hM4 6
      have c7 := cell_of hM4 7
      have c8 := cell_of hM4 8
      have c9 := cell_of hM4 9
      have c10 := cell_of hM4 10
      have f0 := free0 hM4 0
      have f1 := free0 hM4 1
      have f2 := free0 hM4 2
      have f3 := free0 hM4 3
      have f4 := free0 hM4 4
      have f5 := free0 hM4 5
      have f6 := free0 hM4 6
      have f7 := free0 hM4 7
      have f8 := free0 hM4 8
      have f9 := free0 hM4 9
      have f10 := free0 hM4 10
      simp at c0 c1 c2 c3 c4 c5 c6 c7 c8 c9 c10
      have HM4 := Lib.hid hM4
      have HZ4 := Lib.hid hZ4
      clear hM4 hZ4
      refine wpAnyH_ready (rs := [4]) (by kernel_rfl) (by simp) ?_
      refine AllReadyH.cons (o := { dst := none, op := Op.store 37 (Operand.tmp 2) (Operand.tmp 6), type := 0, pos := "law.go:114", after := #[{ on := 1, ground := Ground.data }, { on := 3, ground := Ground.chain }, { on := 0, ground := Ground.phase }, { on := 1, ground := Ground.phase }, { on := 2, ground := Ground.textOnly Departure.lateStores }, { on := 3, ground := Ground.textOnly Departure.lateStoresUnsure }], guard := none }) rfl (fun K hK => ?step16) ?more16
      case more16 => exact AllReadyH.nil
      ((go_simp))
      refine hK.out _ _ ?hS16 (fun hHeld => ?rr16)
      case hS16 => (trivial)
      clear hK K
      try simp only [Act.put, List.setIfInBounds_toArray, List.set_cons_zero, List.set_cons_succ]
      obtain ⟨W5, hW5⟩ : ∃ W, W = (World.setCell (World.setCell (World.setCell (World.setCell (World.setCell (World.setCell (World.setCell (World.setCell (World.setCell (World.setCell (World.setCell w4 ⟨w.heap.size, 0, none⟩ (.int .i64 (cutM m).kd)) ⟨w.heap.size, 1, none⟩ (.int .i64 (cutM m).fr)) ⟨w.heap.size, 2, none⟩ (.int .i64 (cutM m).tt)) ⟨w.heap.size, 3, none⟩ (.int .i64 (cutM m).g)) ⟨w.heap.size, 4, none⟩ (.int .i64 (cutM m).nd)) ⟨w.heap.size, 5, none⟩ (.int .i64 (cutM m).tr)) ⟨w.heap.size, 6, none⟩ (.int .i64 (cutM m).lw)) ⟨w.heap.size, 7, none⟩ (.int .i64 (cutM m).co)) ⟨w.heap.size, 8, none⟩ (.int .i64 (cutM m).ti)) ⟨w.heap.size, 9, none⟩ (.slice tA0 (cutM m).tl.length tc0)) ⟨w.heap.size, 10, none⟩ (.slice oA (cutM m).os.length oc)) := ⟨_, rfl⟩
      rw [← hW5]
      have hS5 : W5 = w4.setCells w.heap.size 0 [.int .i64 (cutM m).kd, .int .i64 (cutM m).fr, .int .i64 (cutM m).tt, .int .i64 (cutM m).g, .int .i64 (cutM m).nd, .int .i64 (cutM m).tr, .int .i64 (cutM m).lw, .int .i64 (cutM m).co, .int .i64 (cutM m).ti, .slice tA0 (cutM m).tl.length tc0, .slice oA (cutM m).os.length oc] := hW5
      have hM5 : W5.heap[w.heap.size]? = some (.cells (cellM (cutM m) tA0 tc0 oA oc) 37 (0, 0)) := by rw [hS5]; exact setCells_at w.heap.size [.int .i64 (cutM m).kd, .int .i64 (cutM m).fr, .int .i64 (cutM m).tt, .int .i64 (cutM m).g, .int .i64 (cutM m).nd, .int .i64 (cutM m).tr, .int .i64 (cutM m).lw, .int .i64 (cutM m).co, .int .i64 (cutM m).ti, .slice tA0 (cutM m).tl.length tc0, .slice oA (cutM m).os.length oc] [] [.int .i64 m.kd, .int .i64 m.fr, .int .i64 m.tt, .int .i64 m.g, .int .i64 m.nd, .int .i64 m.tr, .int .i64 m.lw, .int .i64 m.co, .int .i64 m.ti, .slice tA0 m.tl.length tc0, .slice oA0 m.os.length oc0] w4 rfl HM4.out
      have hZ5 : W5.heap[w.heap.size + 1]? = some (.cells (cellM n tB0 td0 oB0 od0) 37 (0, 0)) := by rw [hS5]; exact (setCells_block w.heap.size [.int .i64 (cutM m).kd, .int .i64 (cutM m).fr, .int .i64 (cutM m).tt, .int .i64 (cutM m).g, .int .i64 (cutM m).nd, .int .i64 (cutM m).tr, .int .i64 (cutM m).lw, .int .i64 (cutM m).co, .int .i64 (cutM m).ti, .slice tA0 (cutM m).tl.length tc0, .slice oA (cutM m).os.length oc] 0 w4 _ (by omega)).trans HZ4.out
      have HT5 : Hid (Touch (fun k => k = w.heap.size ∨ k = w.heap.size + 1) w4 W5) := Lib.hid (by rw [hS5]; exact setCells_touch w.heap.size (fun _ => .inl rfl) [.int .i64 (cutM m).kd, .int .i64 (cutM m).fr, .int .i64 (cutM m).tt, .int .i64 (cutM m).g, .int .i64 (cutM m).nd, .int .i64 (cutM m).tr, .int .i64 (cutM m).lw, .int .i64 (cutM m).co, .int .i64 (cutM m).ti, .slice tA0 (cutM m).tl.length tc0, .slice oA (cutM m).os.length oc] 0 w4 (Touch.refl _ _))
      clear hW5 hS5 c0 f0 c1 f1 c2 f2 c3 f3 c4 f4 c5 f5 c6 f6 c7 f7 c8 f8 c9 f9 c10 f10
      have c0 := cell_of hZ5 0
      have c1 := cell_of hZ5 1
      have c2 := cell_of hZ5 2
      have c3 := cell_of hZ5 3
      have c4 := cell_of hZ5 4
      have c5 := cell_of hZ5 5
      have c6 := cell_of hZ5 6
      have c7 := cell_of hZ5 7
      have c8 := cell_of hZ5 8
      have c9 := cell_of hZ5 9
      have c10 := cell_of hZ5 10
      have f0 := free0 hZ5 0
      have f1 := free0 hZ5 1
      have f2 := free0 hZ5 2
      have f3 := free0 hZ5 3
      have f4 := free0 hZ5 4
      have f5 := free0 hZ5 5
      have f6 := free0 hZ5 6
      have f7 := free0 hZ5 7
      have f8 := free0 hZ5 8
      have f9 := free0 hZ5 9
      have f10 := free0 hZ5 10
      simp at c0 c1 c2 c3 c4 c5 c6 c7 c8 c9 c10
      have HM5 := Lib.hid (And.intro hM5 hZ5)
      clear hM5 hZ5
      refine wpAnyH_ready (rs := [5]) (by kernel_rfl) (by simp) ?_
      refine AllReadyH.cons (o := { dst := none, op := Op.store 37 (Operand.tmp 3) (Operand.tmp 8), type := 0, pos := "law.go:114", after := #[{ on := 3, ground := Ground.data }, { on := 4, ground := Ground.chain }, { on := 0, ground := Ground.phase }, { on := 1, ground := Ground.phase }, { on := 2, ground := Ground.phase }, { on := 3, ground := Ground.phase }, { on := 4, ground := Ground.phase }], guard := none }) rfl (fun K hK => ?step17) ?more17
      case more17 => exact AllReadyH.nil
      ((go_simp))
      refine hK.out _ _ ?hS17 (fun hHeld => ?rr17)
      case hS17 => (trivial)
      clear hK K
      try simp only [Act.put, List.setIfInBounds_toArray, List.set_cons_zero, List.set_cons_succ]
      obtain ⟨W6, hW6⟩ : ∃ W, W = (World.setCell (World.setCell (World.setCell (World.setCell (World.setCell (World.setCell (World.setCell (World.setCell (World.setCell (World.setCell (World.setCell W5 ⟨(w.heap.size + 1), 0, none⟩ (.int .i64 (cutM n).kd)) ⟨(w.heap.size + 1), 1, none⟩ (.int .i64 (cutM n).fr)) ⟨(w.heap.size + 1), 2, none⟩ (.int .i64 (cutM n).tt)) ⟨(w.heap.size + 1), 3, none⟩ (.int .i64 (cutM n).g)) ⟨(w.heap.size + 1), 4, none⟩ (.int .i64 (cutM n).nd)) ⟨(w.heap.size + 1), 5, none⟩ (.int .i64 (cutM n).tr)) ⟨(w.heap.size + 1), 6, none⟩ (.int .i64 (cutM n).lw)) ⟨(w.heap.size + 1), 7, none⟩ (.int .i64 (cutM n).co)) ⟨(w.heap.size + 1), 8, none⟩ (.int .i64 (cutM n).ti)) ⟨(w.heap.size + 1), 9, none⟩ (.slice tB0 (cutM n).tl.length td0)) ⟨(w.heap.size + 1), 10, none⟩ (.slice oB (cutM n).os.length od)) := ⟨_, rfl⟩
      rw [← hW6]
      have hS6 : W6 = W5.setCells (w.heap.size + 1) 0 [.int .i64 (cutM n).kd, .int .i64 (cutM n).fr, .int .i64 (cutM n).tt, .int .i64 (cutM n).g, .int .i64 (cutM n).nd, .int .i64 (cutM n).tr, .int .i64 (cutM n).lw, .int .i64 (cutM n).co, .int .i64 (cutM n).ti, .slice tB0 (cutM n).tl.length td0, .slice oB (cutM n).os.length od] := hW6
      have HM6 : Hid (W6.heap[w.heap.size]? = some (.cells (cellM (cutM m) tA0 tc0 oA oc) 37 (0, 0))) := Lib.hid (by rw [hS6]; exact (setCells_block (w.heap.size + 1) [.int .i64 (cutM n).kd, .int .i64 (cutM n).fr, .int .i64 (cutM n).tt, .int .i64 (cutM n).g, .int .i64 (cutM n).nd, .int .i64 (cutM n).tr, .int .i64 (cutM n).lw, .int .i64 (cutM n).co, .int .i64 (cutM n).ti, .slice tB0 (cutM n).tl.length td0, .slice oB (cutM n).os.length od] 0 W5 _ (by omega)).trans HM5.out.1)
      have HZ6 : Hid (W6.heap[w.heap.size + 1]? = some (.cells (cellM (cutM n) tB0 td0 oB od) 37 (0, 0))) := Lib.hid (by rw [hS6]; exact setCells_at (w.heap.size + 1) [.int .i64 (cutM n).kd, .int .i64 (cutM n).fr, .int .i64 (cutM n).tt, .int .i64 (cutM n).g, .int .i64 (cutM n).nd, .int .i64 (cutM n).tr, .int .i64 (cutM n).lw, .int .i64 (cutM n).co, .int .i64 (cutM n).ti, .slice tB0 (cutM n).tl.length td0, .slice oB (cutM n).os.length od] [] [.int .i64 n.kd, .int .i64 n.fr, .int .i64 n.tt, .int .i64 n.g, .int .i64 n.nd, .int .i64 n.tr, .int .i64 n.lw, .int .i64 n.co, .int .i64 n.ti, .slice tB0 n.tl.length td0, .slice oB0 n.os.length od0] W5 rfl HM5.out.2)
      have HT6 : Hid (Touch (fun k => k = w.heap.size ∨ k = w.heap.size + 1) w4 W6) := Lib.hid (by rw [hS6]; exact setCells_touch (w.heap.size + 1) (fun _ => .inr rfl) [.int .i64 (cutM n).kd, .int .i64 (cutM n).fr, .int .i64 (cutM n).tt, .int .i64 (cutM n).g, .int .i64 (cutM n).nd, .int .i64 (cutM n).tr, .int .i64 (cutM n).lw, .int .i64 (cutM n).co, .int .i64 (cutM n).ti, .slice tB0 (cutM n).tl.length td0, .slice oB (cutM n).os.length od] 0 W5 HT5.out)
      clear hW6 hS6 c0 f0 c1 f1 c2 f2 c3 f3 c4 f4 c5 f5 c6 f6 c7 f7 c8 f8 c9 f9 c10 f10
      refine wpAnyH_done (by kernel_rfl) ?_ _
      clear hHeld
      dsimp only [onlyN]
      go_wp2_with fail
      go_meet
      exact boxes_of (HB2.out.trans (HB4.out.mono HB2.out.size)) (by have := HSZ.out; show w.heap.size + 2 ≤ W2.heap.size; omega) (by have := HSZ.out; have := HB3.out.size; omega) HNA.out.1 HO1.out HB34.out HNA.out.2 HO2.out (KeysIn.cut m) (KeysIn.cut n) HT6.out HM6.out HZ6.out
  · -- behind the cut
    obtain ⟨hbC, tA, tc, oA, oc, tB, td, oB, od, hm0, hn0, hp0, hq0⟩ := hcut
    have HBC := Lib.hid hbC
    obtain ⟨p, hp⟩ : ∃ p, cutM m = p := ⟨_, rfl⟩
    obtain ⟨q, hq⟩ : ∃ q, cutM n = q := ⟨_, rfl⟩
    have hpt : p.ti ≤ 9223372036854775807 := by rw [← hp]; exact HTI.out.1
    have hqt : q.ti ≤ 9223372036854775807 := by rw [← hq]; exact HTI.out.2
    rw [hp] at hm0 hp0
    rw [hq] at hn0 hq0
    clear hp hq
    have HPM : Hid (∀ W, Below wc.heap.size wc W → MsgIs W (.agg (cellM p tA tc oA oc)) p ∧ MsgIs W (.agg (cellM q tB td oB od)) q) := Lib.hid (fun W hW => ⟨hp0.below hW, hq0.below hW⟩)
    have HSC : Hid (∀ W, Below wc.heap.size wc W → W.cell? ⟨w.heap.size, 0, none⟩ = some (.int .i64 p.kd) ∧ W.cell? ⟨w.heap.size, 1, none⟩ = some (.int .i64 p.fr) ∧ W.cell? ⟨w.heap.size, 2, none⟩ = some (.int .i64 p.tt) ∧ W.cell? ⟨w.heap.size, 3, none⟩ = some (.int .i64 p.g) ∧ W.cell? ⟨w.heap.size, 4, none⟩ = some (.int .i64 p.nd) ∧ W.cell? ⟨w.heap.size, 5, none⟩ = some (.int .i64 p.tr) ∧ W.cell? ⟨w.heap.size, 6, none⟩ = some (.int .i64 p.lw) ∧ W.cell? ⟨w.heap.size, 7, none⟩ = some (.int .i64 p.co) ∧ W.cell? ⟨w.heap.size, 8, none⟩ = some (.int .i64 p.ti) ∧ W.cell? ⟨w.heap.size, 9, none⟩ = some (.slice tA p.tl.length tc) ∧ W.cell? ⟨w.heap.size, 10, none⟩ = some (.slice oA p.os.length oc) ∧ W.cell? ⟨w.heap.size + 1, 0, none⟩ = some (.int .i64 q.kd) ∧ W.cell? ⟨w.heap.size + 1, 1, none⟩ = some (.int .i64 q.fr) ∧ W.cell? ⟨w.heap.size + 1, 2, none⟩ = some (.int .i64 q.tt) ∧ W.cell? ⟨w.heap.size + 1, 3, none⟩ = some (.int .i64 q.g) ∧ W.cell? ⟨w.heap.size + 1, 4, none⟩ = some (.int .i64 q.nd) ∧ W.cell? ⟨w.heap.size + 1, 5, none⟩ = some (.int .i64 q.tr) ∧ W.cell? ⟨w.heap.size + 1, 6, none⟩ = some (.int .i64 q.lw) ∧ W.cell? ⟨w.heap.size + 1, 7, none⟩ = some (.int .i64 q.co) ∧ W.cell? ⟨w.heap.size + 1, 8, none⟩ = some (.int .i64 q.ti) ∧ W.cell? ⟨w.heap.size + 1, 9, none⟩ = some (.slice tB q.tl.length td) ∧ W.cell? ⟨w.heap.size + 1, 10, none⟩ = some (.slice oB q.os.length od)) := Lib.hid (fun W hW => by
      have hm := (hW.block w.heap.size (heap_lt hm0)).trans hm0
      have hn := (hW.block (w.heap.size + 1) (heap_lt hn0)).trans hn0
      exact ⟨cell_of hm 0, cell_of hm 1, cell_of hm 2, cell_of hm 3, cell_of hm 4, cell_of hm 5, cell_of hm 6, cell_of hm 7, cell_of hm 8, cell_of hm 9, cell_of hm 10, cell_of hn 0, cell_of hn 1, cell_of hn 2, cell_of hn 3, cell_of hn 4, cell_of hn 5, cell_of hn 6, cell_of hn 7, cell_of hn 8, cell_of hn 9, cell_of hn 10⟩)
    have HFT := Lib.hid (fun W (hW : Below wc.heap.size wc W) => Fit_any ((HG.out.below hbC).below hW) (hp0.below hW) (hq0.below hW))
    have HRF := Lib.hid (fun W (hW : Below wc.heap.size wc W) => rFit_any (hp0.below hW) (hq0.below hW) hpt hqt)
    have HAW := Lib.hid (fun W (hW : Below wc.heap.size wc W) => pawake ((HG.out.below hbC).below hW))
    have hle := fit_le p q
    obtain ⟨fb, hfb⟩ : ∃ b, fitM p q = b := ⟨_, rfl⟩
    rw [hfb] at HFT HRF hle
    clear hfb hbC hm0 hn0 hp0 hq0 hpt hqt
    by_cases h4 : p.kd ≤ 4
    · have q4 : decide (p.kd ≤ 4) = true := by simpa using h4
      clear h4 hle
      cases fb with
      | true =>
        go_wp2_with fail
        refine wp_only ?_
        refine wp_region_held_drew (S := fun W => W.cell? ⟨w.heap.size, 0, none⟩ = some (.int .i64 p.kd) ∧ W.cell? ⟨w.heap.size, 1, none⟩ = some (.int .i64 p.fr) ∧ W.cell? ⟨w.heap.size, 2, none⟩ = some (.int .i64 p.tt) ∧ W.cell? ⟨w.heap.size, 3, none⟩ = some (.int .i64 p.g) ∧ W.cell? ⟨w.heap.size, 4, none⟩ = some (.int .i64 p.nd) ∧ W.cell? ⟨w.heap.size, 5, none⟩ = some (.int .i64 p.tr) ∧ W.cell? ⟨w.heap.size, 6, none⟩ = some (.int .i64 p.lw) ∧ W.cell? ⟨w.heap.size, 7, none⟩ = some (.int .i64 p.co) ∧ W.cell? ⟨w.heap.size, 8, none⟩ = some (.int .i64 p.ti) ∧ W.cell? ⟨w.heap.size, 9, none⟩ = some (.slice tA p.tl.length tc) ∧ W.cell? ⟨w.heap.size, 10, none⟩ = some (.slice oA p.os.length oc) ∧ W.cell? ⟨w.heap.size + 1, 0, none⟩ = some (.int .i64 q.kd) ∧ W.cell? ⟨w.heap.size + 1, 1, none⟩ = some (.int .i64 q.fr) ∧ W.cell? ⟨w.heap.size + 1, 2, none⟩ = some (.int .i64 q.tt) ∧ W.cell? ⟨w.heap.size + 1, 3, none⟩ = some (.int .i64 q.g) ∧ W.cell? ⟨w.heap.size + 1, 4, none⟩ = some (.int .i64 q.nd) ∧ W.cell? ⟨w.heap.size + 1, 5, none⟩ = some (.int .i64 q.tr) ∧ W.cell? ⟨w.heap.size + 1, 6, none⟩ = some (.int .i64 q.lw) ∧ W.cell? ⟨w.heap.size + 1, 7, none⟩ = some (.int .i64 q.co) ∧ W.cell? ⟨w.heap.size + 1, 8, none⟩ = some (.int .i64 q.ti) ∧ W.cell? ⟨w.heap.size + 1, 9, none⟩ = some (.slice tB q.tl.length td) ∧ W.cell? ⟨w.heap.size + 1, 10, none⟩ = some (.slice oB q.os.length od)) (by kernel_rfl) (HSC.out _ (below_drew (Below.refl _ wc))) (fun hHeld => ?_)
        refine wpAnyH_take (i := 0) (oi := { dst := some 9, op := Op.load 37 (Operand.tmp 2), type := 37, pos := "law.go:115", after := #[], guard := none }) (v := ?vv18) rfl (by kernel_rfl) (by kernel_rfl) (by kernel_rfl) (fun _ _ _ h => h) ?hy18 (by assumption) ?rest18
        case hy18 => (refine Or.inl ⟨by rfl, ?_⟩; intro W hSw; (try dsimp only at hSw); go_simp; (try with_reducible rfl))
        try simp only [Act.put, List.setIfInBounds_toArray, List.set_cons_zero, List.set_cons_succ]
        refine wpAnyH_take (i := 2) (oi := { dst := some 11, op := Op.load 37 (Operand.tmp 3), type := 37, pos := "law.go:115", after := #[], guard := none }) (v := ?vv19) rfl (by kernel_rfl) (by kernel_rfl) (by kernel_rfl) (fun _ _ _ h => h) ?hy19 (by assumption) ?rest19
        case hy19 => (refine Or.inl ⟨by rfl, ?_⟩; intro W hSw; (try dsimp only at hSw); go_simp; (try with_reducible rfl))
        try simp only [Act.put, List.setIfInBounds_toArray, List.set_cons_zero, List.set_cons_succ]
        refine wpAnyH_take (i := 5) (oi := { dst := some 14, op := Op.load 37 (Operand.tmp 2), type := 37, pos := "law.go:115", after := #[], guard := none }) (v := ?vv20) rfl (by kernel_rfl) (by kernel_rfl) (by kernel_rfl) (fun _ _ _ h => h) ?hy20 (by assumption) ?rest20
        case hy20 => (refine Or.inl ⟨by rfl, ?_⟩; intro W hSw; (try dsimp only at hSw); go_simp; (try with_reducible rfl))
        try simp only [Act.put, List.setIfInBounds_toArray, List.set_cons_zero, List.set_cons_succ]
        refine wpAnyH_take (i := 6) (oi := { dst := some 15, op := Op.load 37 (Operand.tmp 3), type := 37, pos := "law.go:115", after := #[], guard := none }) (v := ?vv21) rfl (by kernel_rfl) (by kernel_rfl) (by kernel_rfl) (fun _ _ _ h => h) ?hy21 (by assumption) ?rest21
        case hy21 => (refine Or.inl ⟨by rfl, ?_⟩; intro W hSw; (try dsimp only at hSw); go_simp; (try with_reducible rfl))
        try simp only [Act.put, List.setIfInBounds_toArray, List.set_cons_zero, List.set_cons_succ]
        refine wpAnyH_ready (rs := [1]) (by kernel_rfl) (by simp) ?_
        refine AllReadyH.cons (o := { dst := some 10, op := Op.call { callee := Callee.value (Operand.func 18), args := #[Operand.tmp 9], argTypes := #[37] }, type := 50, pos := "law.go:115", after := #[{ on := 0, ground := Ground.data }], guard := none }) rfl (fun K hK => ?step22) ?more22
        case more22 => exact AllReadyH.nil
        ((go_simp; go_at_call 18; refine (ours_any (HPM.out _ (below_drew (Below.refl _ wc))).1).mono ?_; rintro e x1 ⟨rfl, hbn⟩; have X1 := Lib.hid (below_of_drew hbn); clear hbn; go_wp2_with fail))
        refine hK.out _ _ ?hS22 (fun hHeld => ?rr22)
        case hS22 => (exact HSC.out _ X1.out)
        clear hK K
        try simp only [Act.put, List.setIfInBounds_toArray, List.set_cons_zero, List.set_cons_succ]
        refine wpAnyH_ready (rs := [3]) (by kernel_rfl) (by simp) ?_
        refine AllReadyH.cons (o := { dst := some 12, op := Op.call { callee := Callee.value (Operand.func 18), args := #[Operand.tmp 11], argTypes := #[37] }, type := 50, pos := "law.go:115", after := #[{ on := 2, ground := Ground.data }, { on := 1, ground := Ground.chain }], guard := none }) rfl (fun K hK => ?step23) ?more23
        case more23 => exact AllReadyH.nil
        ((go_simp; go_at_call 18; refine (ours_any (HPM.out _ X1.out).2).mono ?_; rintro e x2 ⟨rfl, hbn⟩; have X2 := Lib.hid (X1.out.trans (hbn.mono X1.out.size)); clear hbn; go_wp2_with fail))
        refine hK.out _ _ ?hS23 (fun hHeld => ?rr23)
        case hS23 => (exact HSC.out _ X2.out)
        clear hK K
        try simp only [Act.put, List.setIfInBounds_toArray, List.set_cons_zero, List.set_cons_succ]
        refine wpAnyH_ready (rs := [4]) (by kernel_rfl) (by simp) ?_
        refine AllReadyH.cons (o := { dst := some 13, op := Op.call { callee := Callee.value (Operand.func 35), args := #[Operand.tmp 10, Operand.tmp 12], argTypes := #[50, 50] }, type := 4, pos := "law.go:115", after := #[{ on := 1, ground := Ground.data }, { on := 3, ground := Ground.data }, { on := 3, ground := Ground.chain }], guard := none }) rfl (fun K hK => ?step24) ?more24
        case more24 => exact AllReadyH.nil
        ((go_simp; go_at_call 35; refine (HFT.out _ X2.out).mono ?_; rintro e x3 ⟨rfl, hbn⟩; have X3 := Lib.hid (X2.out.trans (hbn.mono X2.out.size)); clear hbn; go_wp2_with fail))
        refine hK.out _ _ ?hS24 (fun hHeld => ?rr24)
        case hS24 => (exact HSC.out _ X3.out)
        clear hK K
        try simp only [Act.put, List.setIfInBounds_toArray, List.set_cons_zero, List.set_cons_succ]
        refine wpAnyH_ready (rs := [7]) (by kernel_rfl) (by simp) ?_
        refine AllReadyH.cons (o := { dst := some 16, op := Op.call { callee := Callee.value (Operand.func 36), args := #[Operand.tmp 14, Operand.tmp 15], argTypes := #[37, 37] }, type := 4, pos := "law.go:115", after := #[{ on := 5, ground := Ground.data }, { on := 6, ground := Ground.data }, { on := 4, ground := Ground.chain }], guard := none }) rfl (fun K hK => ?step25) ?more25
        case more25 => exact AllReadyH.nil
        ((go_simp; go_at_call 36; refine (HRF.out _ X3.out).mono ?_; rintro e x4 ⟨rfl, hbn⟩; have X4 := Lib.hid (X3.out.trans (hbn.mono X3.out.size)); clear hbn; go_wp2_with fail))
        refine hK.out _ _ ?hS25 (fun hHeld => ?rr25)
        case hS25 => (exact HSC.out _ X4.out)
        clear hK K
        try simp only [Act.put, List.setIfInBounds_toArray, List.set_cons_zero, List.set_cons_succ]
        refine wpAnyH_take (i := 8) (oi := { dst := some 17, op := Op.binOp BinOp.eql 4 (Operand.tmp 13) (Operand.tmp 16) 4, type := 4, pos := "law.go:115", after := #[{ on := 4, ground := Ground.data }, { on := 7, ground := Ground.data }], guard := none }) (v := (.bool true)) rfl (by kernel_rfl) (by kernel_rfl) (by kernel_rfl) (fun _ _ _ h => h) ?hy26 (by assumption) ?rest26
        case hy26 => ((refine Or.inl ⟨by rfl, ?_⟩; intro W hSw; (try dsimp only at hSw); go_simp; (try simp)))
        try simp only [Act.put, List.setIfInBounds_toArray, List.set_cons_zero, List.set_cons_succ]
        refine wpAnyH_take (i := 9) (oi := { dst := some 18, op := Op.move (Operand.tmp 17), type := 4, pos := "law.go:115", after := #[{ on := 8, ground := Ground.data }, { on := 7, ground := Ground.chain }], guard := none }) (v := ?vv27) rfl (by kernel_rfl) (by kernel_rfl) (by kernel_rfl) (fun _ _ _ h => h) ?hy27 (by assumption) ?rest27
        case hy27 => (refine Or.inl ⟨by rfl, ?_⟩; intro W hSw; (try dsimp only at hSw); go_simp; (try with_reducible rfl))
        try simp only [Act.put, List.setIfInBounds_toArray, List.set_cons_zero, List.set_cons_succ]
        refine wpAnyH_take (i := 10) (oi := { dst := some 19, op := Op.fieldAddr 37 (Operand.tmp 2) 0, type := 0, pos := "law.go:115", after := #[{ on := 9, ground := Ground.guard }], guard := some (9, true) }) (v := ?vv28) rfl (by kernel_rfl) (by kernel_rfl) (by kernel_rfl) (fun _ _ _ h => h) ?hy28 (by assumption) ?rest28
        case hy28 => (refine Or.inl ⟨by rfl, ?_⟩; intro W hSw; (try dsimp only at hSw); go_simp; (try with_reducible rfl))
        try simp only [Act.put, List.setIfInBounds_toArray, List.set_cons_zero, List.set_cons_succ]
        refine wpAnyH_take (i := 11) (oi := { dst := some 20, op := Op.load 3 (Operand.tmp 19), type := 3, pos := "law.go:115", after := #[{ on := 10, ground := Ground.data }, { on := 9, ground := Ground.guard }], guard := some (9, true) }) (v := ?vv29) rfl (by kernel_rfl) (by kernel_rfl) (by kernel_rfl) (fun _ _ _ h => h) ?hy29 (by assumption) ?rest29
        case hy29 => (refine Or.inl ⟨by rfl, ?_⟩; intro W hSw; (try dsimp only at hSw); go_simp; (try with_reducible rfl))
        try simp only [Act.put, List.setIfInBounds_toArray, List.set_cons_zero, List.set_cons_succ]
        refine wpAnyH_take (i := 12) (oi := { dst := some 21, op := Op.binOp BinOp.leq 3 (Operand.tmp 20) (Operand.const (Value.int IntKind.i64 4)) 3, type := 4, pos := "law.go:115", after := #[{ on := 11, ground := Ground.data }, { on := 9, ground := Ground.guard }], guard := some (9, true) }) (v := (.bool true)) rfl (by kernel_rfl) (by kernel_rfl) (by kernel_rfl) (fun _ _ _ h => h) ?hy30 (by assumption) ?rest30
        case hy30 => ((refine Or.inl ⟨by rfl, ?_⟩; intro W hSw; (try dsimp only at hSw); go_simp; (try simp [q4])))
        try simp only [Act.put, List.setIfInBounds_toArray, List.set_cons_zero, List.set_cons_succ]
        refine wpAnyH_take (i := 13) (oi := { dst := some 22, op := Op.move (Operand.tmp 21), type := 4, pos := "law.go:115", after := #[{ on := 12, ground := Ground.data }, { on := 9, ground := Ground.chain }, { on := 9, ground := Ground.guard }], guard := some (9, true) }) (v := ?vv31) rfl (by kernel_rfl) (by kernel_rfl) (by kernel_rfl) (fun _ _ _ h => h) ?hy31 (by assumption) ?rest31
        case hy31 => (refine Or.inl ⟨by rfl, ?_⟩; intro W hSw; (try dsimp only at hSw); go_simp; (try with_reducible rfl))
        try simp only [Act.put, List.setIfInBounds_toArray, List.set_cons_zero, List.set_cons_succ]
        refine wpAnyH_take (i := 14) (oi := { dst := some 23, op := Op.load 37 (Operand.tmp 2), type := 37, pos := "law.go:115", after := #[{ on := 13, ground := Ground.guard }], guard := some (13, false) }) (v := undef) rfl (by kernel_rfl) (by kernel_rfl) (by kernel_rfl) (fun _ _ _ h => h) ?hy32 (by assumption) ?rest32
        case hy32 => (exact Or.inr ⟨by rfl, rfl⟩)
        try simp only [Act.put, List.setIfInBounds_toArray, List.set_cons_zero, List.set_cons_succ]
        refine wpAnyH_take (i := 15) (oi := { dst := some 24, op := Op.call { callee := Callee.value (Operand.func 18), args := #[Operand.tmp 23], argTypes := #[37] }, type := 50, pos := "law.go:115", after := #[{ on := 14, ground := Ground.data }, { on := 13, ground := Ground.chain }, { on := 13, ground := Ground.guard }], guard := some (13, false) }) (v := undef) rfl (by kernel_rfl) (by kernel_rfl) (by kernel_rfl) (fun _ _ _ h => h) ?hy33 (by assumption) ?rest33
        case hy33 => (exact Or.inr ⟨by rfl, rfl⟩)
        try simp only [Act.put, List.setIfInBounds_toArray, List.set_cons_zero, List.set_cons_succ]
        refine wpAnyH_take (i := 16) (oi := { dst := some 25, op := Op.load 37 (Operand.tmp 3), type := 37, pos := "law.go:115", after := #[{ on := 13, ground := Ground.guard }], guard := some (13, false) }) (v := undef) rfl (by kernel_rfl) (by kernel_rfl) (by kernel_rfl) (fun _ _ _ h => h) ?hy34 (by assumption) ?rest34
        case hy34 => (exact Or.inr ⟨by rfl, rfl⟩)
        try simp only [Act.put, List.setIfInBounds_toArray, List.set_cons_zero, List.set_cons_succ]
        refine wpAnyH_take (i := 17) (oi := { dst := some 26, op := Op.call { callee := Callee.value (Operand.func 18), args := #[Operand.tmp 25], argTypes := #[37] }, type := 50, pos := "law.go:115", after := #[{ on := 16, ground := Ground.data }, { on := 15, ground := Ground.chain }, { on := 13, ground := Ground.guard }], guard := some (13, false) }) (v := undef) rfl (by kernel_rfl) (by kernel_rfl) (by kernel_rfl) (fun _ _ _ h => h) ?hy35 (by assumption) ?rest35
        case hy35 => (exact Or.inr ⟨by rfl, rfl⟩)
        try simp only [Act.put, List.setIfInBounds_toArray, List.set_cons_zero, List.set_cons_succ]
        refine wpAnyH_take (i := 18) (oi := { dst := some 27, op := Op.call { callee := Callee.value (Operand.func 35), args := #[Operand.tmp 24, Operand.tmp 26], argTypes := #[50, 50] }, type := 4, pos := "law.go:115", after := #[{ on := 15, ground := Ground.data }, { on := 17, ground := Ground.data }, { on := 17, ground := Ground.chain }, { on := 13, ground := Ground.guard }], guard := some (13, false) }) (v := undef) rfl (by kernel_rfl) (by kernel_rfl) (by kernel_rfl) (fun _ _ _ h => h) ?hy36 (by assumption) ?rest36
        case hy36 => (exact Or.inr ⟨by rfl, rfl⟩)
        try simp only [Act.put, List.setIfInBounds_toArray, List.set_cons_zero, List.set_cons_succ]
        refine wpAnyH_take (i := 19) (oi := { dst := some 28, op := Op.unOp UnOp.not 4 (Operand.tmp 27), type := 4, pos := "law.go:115", after := #[{ on := 18, ground := Ground.data }, { on := 13, ground := Ground.guard }], guard := some (13, false) }) (v := undef) rfl (by kernel_rfl) (by kernel_rfl) (by kernel_rfl) (fun _ _ _ h => h) ?hy37 (by assumption) ?rest37
        case hy37 => (exact Or.inr ⟨by rfl, rfl⟩)
        try simp only [Act.put, List.setIfInBounds_toArray, List.set_cons_zero, List.set_cons_succ]
        refine wpAnyH_take (i := 20) (oi := { dst := some 29, op := Op.pick (Operand.tmp 22) (Operand.const (Value.bool true)) (Operand.tmp 28), type := 4, pos := "law.go:115", after := #[{ on := 13, ground := Ground.data }, { on := 19, ground := Ground.data }, { on := 9, ground := Ground.guard }], guard := some (9, true) }) (v := ?vv38) rfl (by kernel_rfl) (by kernel_rfl) (by kernel_rfl) (fun _ _ _ h => h) ?hy38 (by assumption) ?rest38
        case hy38 => (refine Or.inl ⟨by rfl, ?_⟩; intro W hSw; (try dsimp only at hSw); go_simp; (try with_reducible rfl))
        try simp only [Act.put, List.setIfInBounds_toArray, List.set_cons_zero, List.set_cons_succ]
        refine wpAnyH_take (i := 21) (oi := { dst := some 30, op := Op.pick (Operand.tmp 18) (Operand.tmp 29) (Operand.const (Value.bool false)), type := 4, pos := "law.go:115", after := #[{ on := 9, ground := Ground.data }, { on := 20, ground := Ground.data }], guard := none }) (v := ?vv39) rfl (by kernel_rfl) (by kernel_rfl) (by kernel_rfl) (fun _ _ _ h => h) ?hy39 (by assumption) ?rest39
        case hy39 => (refine Or.inl ⟨by rfl, ?_⟩; intro W hSw; (try dsimp only at hSw); go_simp; (try with_reducible rfl))
        try simp only [Act.put, List.setIfInBounds_toArray, List.set_cons_zero, List.set_cons_succ]
        refine wpAnyH_take (i := 22) (oi := { dst := some 31, op := Op.move (Operand.tmp 30), type := 4, pos := "law.go:115", after := #[{ on := 21, ground := Ground.data }, { on := 18, ground := Ground.chain }], guard := none }) (v := ?vv40) rfl (by kernel_rfl) (by kernel_rfl) (by kernel_rfl) (fun _ _ _ h => h) ?hy40 (by assumption) ?rest40
        case hy40 => (refine Or.inl ⟨by rfl, ?_⟩; intro W hSw; (try dsimp only at hSw); go_simp; (try with_reducible rfl))
        try simp only [Act.put, List.setIfInBounds_toArray, List.set_cons_zero, List.set_cons_succ]
        refine wpAnyH_ready (rs := [23]) (by kernel_rfl) (by simp) ?_
        refine AllReadyH.cons (o := { dst := some 32, op := Op.call { callee := Callee.value (Operand.func 37), args := #[], argTypes := #[] }, type := 4, pos := "law.go:115", after := #[{ on := 22, ground := Ground.chain }, { on := 22, ground := Ground.guard }], guard := some (22, true) }) rfl (fun K hK => ?step41) ?more41
        case more41 => exact AllReadyH.nil
        ((go_simp; go_at_call 37; refine (HAW.out _ X4.out).mono ?_; rintro e x5 ⟨rfl, hbn⟩; have X5 := Lib.hid (X4.out.trans (hbn.mono X4.out.size)); clear hbn; go_wp2_with fail))
        refine hK.out _ _ ?hS41 (fun hHeld => ?rr41)
        case hS41 => (exact HSC.out _ X5.out)
        clear hK K
        try simp only [Act.put, List.setIfInBounds_toArray, List.set_cons_zero, List.set_cons_succ]
        refine wpAnyH_take (i := 24) (oi := { dst := some 33, op := Op.pick (Operand.tmp 31) (Operand.tmp 32) (Operand.const (Value.bool false)), type := 4, pos := "law.go:115", after := #[{ on := 22, ground := Ground.data }, { on := 23, ground := Ground.data }], guard := none }) (v := ?vv42) rfl (by kernel_rfl) (by kernel_rfl) (by kernel_rfl) (fun _ _ _ h => h) ?hy42 (by assumption) ?rest42
        case hy42 => (refine Or.inl ⟨by rfl, ?_⟩; intro W hSw; (try dsimp only at hSw); go_simp; (try with_reducible rfl))
        try simp only [Act.put, List.setIfInBounds_toArray, List.set_cons_zero, List.set_cons_succ]
        refine wpAnyH_take (i := 25) (oi := { dst := some 4, op := Op.assign (Operand.tmp 33), type := 4, pos := "law.go:115", after := #[{ on := 24, ground := Ground.data }, { on := 23, ground := Ground.chain }, { on := 0, ground := Ground.phase }, { on := 1, ground := Ground.phase }, { on := 2, ground := Ground.phase }, { on := 3, ground := Ground.phase }, { on := 4, ground := Ground.phase }, { on := 5, ground := Ground.phase }, { on := 6, ground := Ground.phase }, { on := 7, ground := Ground.phase }, { on := 8, ground := Ground.phase }, { on := 9, ground := Ground.phase }, { on := 10, ground := Ground.phase }, { on := 11, ground := Ground.phase }, { on := 12, ground := Ground.phase }, { on := 13, ground := Ground.phase }, { on := 14, ground := Ground.phase }, { on := 15, ground := Ground.phase }, { on := 16, ground := Ground.phase }, { on := 17, ground := Ground.phase }, { on := 18, ground := Ground.phase }, { on := 19, ground := Ground.phase }, { on := 20, ground := Ground.phase }, { on := 21, ground := Ground.phase }, { on := 22, ground := Ground.phase }, { on := 23, ground := Ground.phase }, { on := 24, ground := Ground.phase }], guard := none }) (v := ?vv43) rfl (by kernel_rfl) (by kernel_rfl) (by kernel_rfl) (fun _ _ _ h => h) ?hy43 (by assumption) ?rest43
        case hy43 => (refine Or.inl ⟨by rfl, ?_⟩; intro W hSw; (try dsimp only at hSw); go_simp; (try with_reducible rfl))
        try simp only [Act.put, List.setIfInBounds_toArray, List.set_cons_zero, List.set_cons_succ]
        refine wpAnyH_done (by kernel_rfl) ?_ _
        clear hHeld
        dsimp only [onlyN]
        go_wp2_with fail
        go_ret
        exact ⟨rfl, HBC.out.trans (X5.out.mono HBC.out.size)⟩
      | false =>
        go_wp2_with fail
        refine wp_only ?_
        refine wp_region_held_drew (S := fun W => W.cell? ⟨w.heap.size, 0, none⟩ = some (.int .i64 p.kd) ∧ W.cell? ⟨w.heap.size, 1, none⟩ = some (.int .i64 p.fr) ∧ W.cell? ⟨w.heap.size, 2, none⟩ = some (.int .i64 p.tt) ∧ W.cell? ⟨w.heap.size, 3, none⟩ = some (.int .i64 p.g) ∧ W.cell? ⟨w.heap.size, 4, none⟩ = some (.int .i64 p.nd) ∧ W.cell? ⟨w.heap.size, 5, none⟩ = some (.int .i64 p.tr) ∧ W.cell? ⟨w.heap.size, 6, none⟩ = some (.int .i64 p.lw) ∧ W.cell? ⟨w.heap.size, 7, none⟩ = some (.int .i64 p.co) ∧ W.cell? ⟨w.heap.size, 8, none⟩ = some (.int .i64 p.ti) ∧ W.cell? ⟨w.heap.size, 9, none⟩ = some (.slice tA p.tl.length tc) ∧ W.cell? ⟨w.heap.size, 10, none⟩ = some (.slice oA p.os.length oc) ∧ W.cell? ⟨w.heap.size + 1, 0, none⟩ = some (.int .i64 q.kd) ∧ W.cell? ⟨w.heap.size + 1, 1, none⟩ = some (.int .i64 q.fr) ∧ W.cell? ⟨w.heap.size + 1, 2, none⟩ = some (.int .i64 q.tt) ∧ W.cell? ⟨w.heap.size + 1, 3, none⟩ = some (.int .i64 q.g) ∧ W.cell? ⟨w.heap.size + 1, 4, none⟩ = some (.int .i64 q.nd) ∧ W.cell? ⟨w.heap.size + 1, 5, none⟩ = some (.int .i64 q.tr) ∧ W.cell? ⟨w.heap.size + 1, 6, none⟩ = some (.int .i64 q.lw) ∧ W.cell? ⟨w.heap.size + 1, 7, none⟩ = some (.int .i64 q.co) ∧ W.cell? ⟨w.heap.size + 1, 8, none⟩ = some (.int .i64 q.ti) ∧ W.cell? ⟨w.heap.size + 1, 9, none⟩ = some (.slice tB q.tl.length td) ∧ W.cell? ⟨w.heap.size + 1, 10, none⟩ = some (.slice oB q.os.length od)) (by kernel_rfl) (HSC.out _ (below_drew (Below.refl _ wc))) (fun hHeld => ?_)
        refine wpAnyH_take (i := 0) (oi := { dst := some 9, op := Op.load 37 (Operand.tmp 2), type := 37, pos := "law.go:115", after := #[], guard := none }) (v := ?vv44) rfl (by kernel_rfl) (by kernel_rfl) (by kernel_rfl) (fun _ _ _ h => h) ?hy44 (by assumption) ?rest44
        case hy44 => (refine Or.inl ⟨by rfl, ?_⟩; intro W hSw; (try dsimp only at hSw); go_simp; (try with_reducible rfl))
        try simp only [Act.put, List.setIfInBounds_toArray, List.set_cons_zero, List.set_cons_succ]
        refine wpAnyH_take (i := 2) (oi := { dst := some 11, op := Op.load 37 (Operand.tmp 3), type := 37, pos := "law.go:115", after := #[], guard := none }) (v := ?vv45) rfl (by kernel_rfl) (by kernel_rfl) (by kernel_rfl) (fun _ _ _ h => h) ?hy45 (by assumption) ?rest45
        case hy45 => (refine Or.inl ⟨by rfl, ?_⟩; intro W hSw; (try dsimp only at hSw); go_simp; (try with_reducible rfl))
        try simp only [Act.put, List.setIfInBounds_toArray, List.set_cons_zero, List.set_cons_succ]
        refine wpAnyH_take (i := 5) (oi := { dst := some 14, op := Op.load 37 (Operand.tmp 2), type := 37, pos := "law.go:115", after := #[], guard := none }) (v := ?vv46) rfl (by kernel_rfl) (by kernel_rfl) (by kernel_rfl) (fun _ _ _ h => h) ?hy46 (by assumption) ?rest46
        case hy46 => (refine Or.inl ⟨by rfl, ?_⟩; intro W hSw; (try dsimp only at hSw); go_simp; (try with_reducible rfl))
        try simp only [Act.put, List.setIfInBounds_toArray, List.set_cons_zero, List.set_cons_succ]
        refine wpAnyH_take (i := 6) (oi := { dst := some 15, op := Op.load 37 (Operand.tmp 3), type := 37, pos := "law.go:115", after := #[], guard := none }) (v := ?vv47) rfl (by kernel_rfl) (by kernel_rfl) (by kernel_rfl) (fun _ _ _ h => h) ?hy47 (by assumption) ?rest47
        case hy47 => (refine Or.inl ⟨by rfl, ?_⟩; intro W hSw; (try dsimp only at hSw); go_simp; (try with_reducible rfl))
        try simp only [Act.put, List.setIfInBounds_toArray, List.set_cons_zero, List.set_cons_succ]
        refine wpAnyH_ready (rs := [1]) (by kernel_rfl) (by simp) ?_
        refine AllReadyH.cons (o := { dst := some 10, op := Op.call { callee := Callee.value (Operand.func 18), args := #[Operand.tmp 9], argTypes := #[37] }, type := 50, pos := "law.go:115", after := #[{ on := 0, ground := Ground.data }], guard := none }) rfl (fun K hK => ?step48) ?more48
        case more48 => exact AllReadyH.nil
        ((go_simp; go_at_call 18; refine (ours_any (HPM.out _ (below_drew (Below.refl _ wc))).1).mono ?_; rintro e x1 ⟨rfl, hbn⟩; have X1 := Lib.hid (below_of_drew hbn); clear hbn; go_wp2_with fail))
        refine hK.out _ _ ?hS48 (fun hHeld => ?rr48)
        case hS48 => (exact HSC.out _ X1.out)
        clear hK K
        try simp only [Act.put, List.setIfInBounds_toArray, List.set_cons_zero, List.set_cons_succ]
        refine wpAnyH_ready (rs := [3]) (by kernel_rfl) (by simp) ?_
        refine AllReadyH.cons (o := { dst := some 12, op := Op.call { callee := Callee.value (Operand.func 18), args := #[Operand.tmp 11], argTypes := #[37] }, type := 50, pos := "law.go:115", after := #[{ on := 2, ground := Ground.data }, { on := 1, ground := Ground.chain }], guard := none }) rfl (fun K hK => ?step49) ?more49
        case more49 => exact AllReadyH.nil
        ((go_simp; go_at_call 18; refine (ours_any (HPM.out _ X1.out).2).mono ?_; rintro e x2 ⟨rfl, hbn⟩; have X2 := Lib.hid (X1.out.trans (hbn.mono X1.out.size)); clear hbn; go_wp2_with fail))
        refine hK.out _ _ ?hS49 (fun hHeld => ?rr49)
        case hS49 => (exact HSC.out _ X2.out)
        clear hK K
        try simp only [Act.put, List.setIfInBounds_toArray, List.set_cons_zero, List.set_cons_succ]
        refine wpAnyH_ready (rs := [4]) (by kernel_rfl) (by simp) ?_
        refine AllReadyH.cons (o := { dst := some 13, op := Op.call { callee := Callee.value (Operand.func 35), args := #[Operand.tmp 10, Operand.tmp 12], argTypes := #[50, 50] }, type := 4, pos := "law.go:115", after := #[{ on := 1, ground := Ground.data }, { on := 3, ground := Ground.data }, { on := 3, ground := Ground.chain }], guard := none }) rfl (fun K hK => ?step50) ?more50
        case more50 => exact AllReadyH.nil
        ((go_simp; go_at_call 35; refine (HFT.out _ X2.out).mono ?_; rintro e x3 ⟨rfl, hbn⟩; have X3 := Lib.hid (X2.out.trans (hbn.mono X2.out.size)); clear hbn; go_wp2_with fail))
        refine hK.out _ _ ?hS50 (fun hHeld => ?rr50)
        case hS50 => (exact HSC.out _ X3.out)
        clear hK K
        try simp only [Act.put, List.setIfInBounds_toArray, List.set_cons_zero, List.set_cons_succ]
        refine wpAnyH_ready (rs := [7]) (by kernel_rfl) (by simp) ?_
        refine AllReadyH.cons (o := { dst := some 16, op := Op.call { callee := Callee.value (Operand.func 36), args := #[Operand.tmp 14, Operand.tmp 15], argTypes := #[37, 37] }, type := 4, pos := "law.go:115", after := #[{ on := 5, ground := Ground.data }, { on := 6, ground := Ground.data }, { on := 4, ground := Ground.chain }], guard := none }) rfl (fun K hK => ?step51) ?more51
        case more51 => exact AllReadyH.nil
        ((go_simp; go_at_call 36; refine (HRF.out _ X3.out).mono ?_; rintro e x4 ⟨rfl, hbn⟩; have X4 := Lib.hid (X3.out.trans (hbn.mono X3.out.size)); clear hbn; go_wp2_with fail))
        refine hK.out _ _ ?hS51 (fun hHeld => ?rr51)
        case hS51 => (exact HSC.out _ X4.out)
        clear hK K
        try simp only [Act.put, List.setIfInBounds_toArray, List.set_cons_zero, List.set_cons_succ]
        refine wpAnyH_take (i := 8) (oi := { dst := some 17, op := Op.binOp BinOp.eql 4 (Operand.tmp 13) (Operand.tmp 16) 4, type := 4, pos := "law.go:115", after := #[{ on := 4, ground := Ground.data }, { on := 7, ground := Ground.data }], guard := none }) (v := (.bool true)) rfl (by kernel_rfl) (by kernel_rfl) (by kernel_rfl) (fun _ _ _ h => h) ?hy52 (by assumption) ?rest52
        case hy52 => ((refine Or.inl ⟨by rfl, ?_⟩; intro W hSw; (try dsimp only at hSw); go_simp; (try simp)))
        try simp only [Act.put, List.setIfInBounds_toArray, List.set_cons_zero, List.set_cons_succ]
        refine wpAnyH_take (i := 9) (oi := { dst := some 18, op := Op.move (Operand.tmp 17), type := 4, pos := "law.go:115", after := #[{ on := 8, ground := Ground.data }, { on := 7, ground := Ground.chain }], guard := none }) (v := ?vv53) rfl (by kernel_rfl) (by kernel_rfl) (by kernel_rfl) (fun _ _ _ h => h) ?hy53 (by assumption) ?rest53
        case hy53 => (refine Or.inl ⟨by rfl, ?_⟩; intro W hSw; (try dsimp only at hSw); go_simp; (try with_reducible rfl))
        try simp only [Act.put, List.setIfInBounds_toArray, List.set_cons_zero, List.set_cons_succ]
        refine wpAnyH_take (i := 10) (oi := { dst := some 19, op := Op.fieldAddr 37 (Operand.tmp 2) 0, type := 0, pos := "law.go:115", after := #[{ on := 9, ground := Ground.guard }], guard := some (9, true) }) (v := ?vv54) rfl (by kernel_rfl) (by kernel_rfl) (by kernel_rfl) (fun _ _ _ h => h) ?hy54 (by assumption) ?rest54
        case hy54 => (refine Or.inl ⟨by rfl, ?_⟩; intro W hSw; (try dsimp only at hSw); go_simp; (try with_reducible rfl))
        try simp only [Act.put, List.setIfInBounds_toArray, List.set_cons_zero, List.set_cons_succ]
        refine wpAnyH_take (i := 11) (oi := { dst := some 20, op := Op.load 3 (Operand.tmp 19), type := 3, pos := "law.go:115", after := #[{ on := 10, ground := Ground.data }, { on := 9, ground := Ground.guard }], guard := some (9, true) }) (v := ?vv55) rfl (by kernel_rfl) (by kernel_rfl) (by kernel_rfl) (fun _ _ _ h => h) ?hy55 (by assumption) ?rest55
        case hy55 => (refine Or.inl ⟨by rfl, ?_⟩; intro W hSw; (try dsimp only at hSw); go_simp; (try with_reducible rfl))
        try simp only [Act.put, List.setIfInBounds_toArray, List.set_cons_zero, List.set_cons_succ]
        refine wpAnyH_take (i := 12) (oi := { dst := some 21, op := Op.binOp BinOp.leq 3 (Operand.tmp 20) (Operand.const (Value.int IntKind.i64 4)) 3, type := 4, pos := "law.go:115", after := #[{ on := 11, ground := Ground.data }, { on := 9, ground := Ground.guard }], guard := some (9, true) }) (v := (.bool true)) rfl (by kernel_rfl) (by kernel_rfl) (by kernel_rfl) (fun _ _ _ h => h) ?hy56 (by assumption) ?rest56
        case hy56 => ((refine Or.inl ⟨by rfl, ?_⟩; intro W hSw; (try dsimp only at hSw); go_simp; (try simp [q4])))
        try simp only [Act.put, List.setIfInBounds_toArray, List.set_cons_zero, List.set_cons_succ]
        refine wpAnyH_take (i := 13) (oi := { dst := some 22, op := Op.move (Operand.tmp 21), type := 4, pos := "law.go:115", after := #[{ on := 12, ground := Ground.data }, { on := 9, ground := Ground.chain }, { on := 9, ground := Ground.guard }], guard := some (9, true) }) (v := ?vv57) rfl (by kernel_rfl) (by kernel_rfl) (by kernel_rfl) (fun _ _ _ h => h) ?hy57 (by assumption) ?rest57
        case hy57 => (refine Or.inl ⟨by rfl, ?_⟩; intro W hSw; (try dsimp only at hSw); go_simp; (try with_reducible rfl))
        try simp only [Act.put, List.setIfInBounds_toArray, List.set_cons_zero, List.set_cons_succ]
        refine wpAnyH_take (i := 14) (oi := { dst := some 23, op := Op.load 37 (Operand.tmp 2), type := 37, pos := "law.go:115", after := #[{ on := 13, ground := Ground.guard }], guard := some (13, false) }) (v := undef) rfl (by kernel_rfl) (by kernel_rfl) (by kernel_rfl) (fun _ _ _ h => h) ?hy58 (by assumption) ?rest58
        case hy58 => (exact Or.inr ⟨by rfl, rfl⟩)
        try simp only [Act.put, List.setIfInBounds_toArray, List.set_cons_zero, List.set_cons_succ]
        refine wpAnyH_take (i := 15) (oi := { dst := some 24, op := Op.call { callee := Callee.value (Operand.func 18), args := #[Operand.tmp 23], argTypes := #[37] }, type := 50, pos := "law.go:115", after := #[{ on := 14, ground := Ground.data }, { on := 13, ground := Ground.chain }, { on := 13, ground := Ground.guard }], guard := some (13, false) }) (v := undef) rfl (by kernel_rfl) (by kernel_rfl) (by kernel_rfl) (fun _ _ _ h => h) ?hy59 (by assumption) ?rest59
        case hy59 => (exact Or.inr ⟨by rfl, rfl⟩)
        try simp only [Act.put, List.setIfInBounds_toArray, List.set_cons_zero, List.set_cons_succ]
        refine wpAnyH_take (i := 16) (oi := { dst := some 25, op := Op.load 37 (Operand.tmp 3), type := 37, pos := "law.go:115", after := #[{ on := 13, ground := Ground.guard }], guard := some (13, false) }) (v := undef) rfl (by kernel_rfl) (by kernel_rfl) (by kernel_rfl) (fun _ _ _ h => h) ?hy60 (by assumption) ?rest60
        case hy60 => (exact Or.inr ⟨by rfl, rfl⟩)
        try simp only [Act.put, List.setIfInBounds_toArray, List.set_cons_zero, List.set_cons_succ]
        refine wpAnyH_take (i := 17) (oi := { dst := some 26, op := Op.call { callee := Callee.value (Operand.func 18), args := #[Operand.tmp 25], argTypes := #[37] }, type := 50, pos := "law.go:115", after := #[{ on := 16, ground := Ground.data }, { on := 15, ground := Ground.chain }, { on := 13, ground := Ground.guard }], guard := some (13, false) }) (v := undef) rfl (by kernel_rfl) (by kernel_rfl) (by kernel_rfl) (fun _ _ _ h => h) ?hy61 (by assumption) ?rest61
        case hy61 => (exact Or.inr ⟨by rfl, rfl⟩)
        try simp only [Act.put, List.setIfInBounds_toArray, List.set_cons_zero, List.set_cons_succ]
        refine wpAnyH_take (i := 18) (oi := { dst := some 27, op := Op.call { callee := Callee.value (Operand.func 35), args := #[Operand.tmp 24, Operand.tmp 26], argTypes := #[50, 50] }, type := 4, pos := "law.go:115", after := #[{ on := 15, ground := Ground.data }, { on := 17, ground := Ground.data }, { on := 17, ground := Ground.chain }, { on := 13, ground := Ground.guard }], guard := some (13, false) }) (v := undef) rfl (by kernel_rfl) (by kernel_rfl) (by kernel_rfl) (fun _ _ _ h => h) ?hy62 (by assumption) ?rest62
        case hy62 => (exact Or.inr ⟨by rfl, rfl⟩)
        try simp only [Act.put, List.setIfInBounds_toArray, List.set_cons_zero, List.set_cons_succ]
        refine wpAnyH_take (i := 19) (oi := { dst := some 28, op := Op.unOp UnOp.not 4 (Operand.tmp 27), type := 4, pos := "law.go:115", after := #[{ on := 18, ground := Ground.data }, { on := 13, ground := Ground.guard }], guard := some (13, false) }) (v := undef) rfl (by kernel_rfl) (by kernel_rfl) (by kernel_rfl) (fun _ _ _ h => h) ?hy63 (by assumption) ?rest63
        case hy63 => (exact Or.inr ⟨by rfl, rfl⟩)
        try simp only [Act.put, List.setIfInBounds_toArray, List.set_cons_zero, List.set_cons_succ]
        refine wpAnyH_take (i := 20) (oi := { dst := some 29, op := Op.pick (Operand.tmp 22) (Operand.const (Value.bool true)) (Operand.tmp 28), type := 4, pos := "law.go:115", after := #[{ on := 13, ground := Ground.data }, { on := 19, ground := Ground.data }, { on := 9, ground := Ground.guard }], guard := some (9, true) }) (v := ?vv64) rfl (by kernel_rfl) (by kernel_rfl) (by kernel_rfl) (fun _ _ _ h => h) ?hy64 (by assumption) ?rest64
        case hy64 => (refine Or.inl ⟨by rfl, ?_⟩; intro W hSw; (try dsimp only at hSw); go_simp; (try with_reducible rfl))
        try simp only [Act.put, List.setIfInBounds_toArray, List.set_cons_zero, List.set_cons_succ]
        refine wpAnyH_take (i := 21) (oi := { dst := some 30, op := Op.pick (Operand.tmp 18) (Operand.tmp 29) (Operand.const (Value.bool false)), type := 4, pos := "law.go:115", after := #[{ on := 9, ground := Ground.data }, { on := 20, ground := Ground.data }], guard := none }) (v := ?vv65) rfl (by kernel_rfl) (by kernel_rfl) (by kernel_rfl) (fun _ _ _ h => h) ?hy65 (by assumption) ?rest65
        case hy65 => (refine Or.inl ⟨by rfl, ?_⟩; intro W hSw; (try dsimp only at hSw); go_simp; (try with_reducible rfl))
        try simp only [Act.put, List.setIfInBounds_toArray, List.set_cons_zero, List.set_cons_succ]
        refine wpAnyH_take (i := 22) (oi := { dst := some 31, op := Op.move (Operand.tmp 30), type := 4, pos := "law.go:115", after := #[{ on := 21, ground := Ground.data }, { on := 18, ground := Ground.chain }], guard := none }) (v := ?vv66) rfl (by kernel_rfl) (by kernel_rfl) (by kernel_rfl) (fun _ _ _ h => h) ?hy66 (by assumption) ?rest66
        case hy66 => (refine Or.inl ⟨by rfl, ?_⟩; intro W hSw; (try dsimp only at hSw); go_simp; (try with_reducible rfl))
        try simp only [Act.put, List.setIfInBounds_toArray, List.set_cons_zero, List.set_cons_succ]
        refine wpAnyH_ready (rs := [23]) (by kernel_rfl) (by simp) ?_
        refine AllReadyH.cons (o := { dst := some 32, op := Op.call { callee := Callee.value (Operand.func 37), args := #[], argTypes := #[] }, type := 4, pos := "law.go:115", after := #[{ on := 22, ground := Ground.chain }, { on := 22, ground := Ground.guard }], guard := some (22, true) }) rfl (fun K hK => ?step67) ?more67
        case more67 => exact AllReadyH.nil
        ((go_simp; go_at_call 37; refine (HAW.out _ X4.out).mono ?_; rintro e x5 ⟨rfl, hbn⟩; have X5 := Lib.hid (X4.out.trans (hbn.mono X4.out.size)); clear hbn; go_wp2_with fail))
        refine hK.out _ _ ?hS67 (fun hHeld => ?rr67)
        case hS67 => (exact HSC.out _ X5.out)
        clear hK K
        try simp only [Act.put, List.setIfInBounds_toArray, List.set_cons_zero, List.set_cons_succ]
        refine wpAnyH_take (i := 24) (oi := { dst := some 33, op := Op.pick (Operand.tmp 31) (Operand.tmp 32) (Operand.const (Value.bool false)), type := 4, pos := "law.go:115", after := #[{ on := 22, ground := Ground.data }, { on := 23, ground := Ground.data }], guard := none }) (v := ?vv68) rfl (by kernel_rfl) (by kernel_rfl) (by kernel_rfl) (fun _ _ _ h => h) ?hy68 (by assumption) ?rest68
        case hy68 => (refine Or.inl ⟨by rfl, ?_⟩; intro W hSw; (try dsimp only at hSw); go_simp; (try with_reducible rfl))
        try simp only [Act.put, List.setIfInBounds_toArray, List.set_cons_zero, List.set_cons_succ]
        refine wpAnyH_take (i := 25) (oi := { dst := some 4, op := Op.assign (Operand.tmp 33), type := 4, pos := "law.go:115", after := #[{ on := 24, ground := Ground.data }, { on := 23, ground := Ground.chain }, { on := 0, ground := Ground.phase }, { on := 1, ground := Ground.phase }, { on := 2, ground := Ground.phase }, { on := 3, ground := Ground.phase }, { on := 4, ground := Ground.phase }, { on := 5, ground := Ground.phase }, { on := 6, ground := Ground.phase }, { on := 7, ground := Ground.phase }, { on := 8, ground := Ground.phase }, { on := 9, ground := Ground.phase }, { on := 10, ground := Ground.phase }, { on := 11, ground := Ground.phase }, { on := 12, ground := Ground.phase }, { on := 13, ground := Ground.phase }, { on := 14, ground := Ground.phase }, { on := 15, ground := Ground.phase }, { on := 16, ground := Ground.phase }, { on := 17, ground := Ground.phase }, { on := 18, ground := Ground.phase }, { on := 19, ground := Ground.phase }, { on := 20, ground := Ground.phase }, { on := 21, ground := Ground.phase }, { on := 22, ground := Ground.phase }, { on := 23, ground := Ground.phase }, { on := 24, ground := Ground.phase }], guard := none }) (v := ?vv69) rfl (by kernel_rfl) (by kernel_rfl) (by kernel_rfl) (fun _ _ _ h => h) ?hy69 (by assumption) ?rest69
        case hy69 => (refine Or.inl ⟨by rfl, ?_⟩; intro W hSw; (try dsimp only at hSw); go_simp; (try with_reducible rfl))
        try simp only [Act.put, List.setIfInBounds_toArray, List.set_cons_zero, List.set_cons_succ]
        refine wpAnyH_done (by kernel_rfl) ?_ _
        clear hHeld
        dsimp only [onlyN]
        go_wp2_with fail
        go_ret
        exact ⟨rfl, HBC.out.trans (X5.out.mono HBC.out.size)⟩
    · have q4 : decide (p.kd ≤ 4) = false := by simpa using h4
      obtain rfl : fb = false := by
        cases fb with
        | false => rfl
        | true => exact absurd (hle rfl) h4
      clear h4 hle
      go_wp2_with fail
      refine wp_only ?_
      refine wp_region_held_drew (S := fun W => W.cell? ⟨w.heap.size, 0, none⟩ = some (.int .i64 p.kd) ∧ W.cell? ⟨w.heap.size, 1, none⟩ = some (.int .i64 p.fr) ∧ W.cell? ⟨w.heap.size, 2, none⟩ = some (.int .i64 p.tt) ∧ W.cell? ⟨w.heap.size, 3, none⟩ = some (.int .i64 p.g) ∧ W.cell? ⟨w.heap.size, 4, none⟩ = some (.int .i64 p.nd) ∧ W.cell? ⟨w.heap.size, 5, none⟩ = some (.int .i64 p.tr) ∧ W.cell? ⟨w.heap.size, 6, none⟩ = some (.int .i64 p.lw) ∧ W.cell? ⟨w.heap.size, 7, none⟩ = some (.int .i64 p.co) ∧ W.cell? ⟨w.heap.size, 8, none⟩ = some (.int .i64 p.ti) ∧ W.cell? ⟨w.heap.size, 9, none⟩ = some (.slice tA p.tl.length tc) ∧ W.cell? ⟨w.heap.size, 10, none⟩ = some (.slice oA p.os.length oc) ∧ W.cell? ⟨w.heap.size + 1, 0, none⟩ = some (.int .i64 q.kd) ∧ W.cell? ⟨w.heap.size + 1, 1, none⟩ = some (.int .i64 q.fr) ∧ W.cell? ⟨w.heap.size + 1, 2, none⟩ = some (.int .i64 q.tt) ∧ W.cell? ⟨w.heap.size + 1, 3, none⟩ = some (.int .i64 q.g) ∧ W.cell? ⟨w.heap.size + 1, 4, none⟩ = some (.int .i64 q.nd) ∧ W.cell? ⟨w.heap.size + 1, 5, none⟩ = some (.int .i64 q.tr) ∧ W.cell? ⟨w.heap.size + 1, 6, none⟩ = some (.int .i64 q.lw) ∧ W.cell? ⟨w.heap.size + 1, 7, none⟩ = some (.int .i64 q.co) ∧ W.cell? ⟨w.heap.size + 1, 8, none⟩ = some (.int .i64 q.ti) ∧ W.cell? ⟨w.heap.size + 1, 9, none⟩ = some (.slice tB q.tl.length td) ∧ W.cell? ⟨w.heap.size + 1, 10, none⟩ = some (.slice oB q.os.length od)) (by kernel_rfl) (HSC.out _ (below_drew (Below.refl _ wc))) (fun hHeld => ?_)
      refine wpAnyH_take (i := 0) (oi := { dst := some 9, op := Op.load 37 (Operand.tmp 2), type := 37, pos := "law.go:115", after := #[], guard := none }) (v := ?vv70) rfl (by kernel_rfl) (by kernel_rfl) (by kernel_rfl) (fun _ _ _ h => h) ?hy70 (by assumption) ?rest70
      case hy70 => (refine Or.inl ⟨by rfl, ?_⟩; intro W hSw; (try dsimp only at hSw); go_simp; (try with_reducible rfl))
      try simp only [Act.put, List.setIfInBounds_toArray, List.set_cons_zero, List.set_cons_succ]
      refine wpAnyH_take (i := 2) (oi := { dst := some 11, op := Op.load 37 (Operand.tmp 3), type := 37, pos := "law.go:115", after := #[], guard := none }) (v := ?vv71) rfl (by kernel_rfl) (by kernel_rfl) (by kernel_rfl) (fun _ _ _ h => h) ?hy71 (by assumption) ?rest71
      case hy71 => (refine Or.inl ⟨by rfl, ?_⟩; intro W hSw; (try dsimp only at hSw); go_simp; (try with_reducible rfl))
      try simp only [Act.put, List.setIfInBounds_toArray, List.set_cons_zero, List.set_cons_succ]
      refine wpAnyH_take (i := 5) (oi := { dst := some 14, op := Op.load 37 (Operand.tmp 2), type := 37, pos := "law.go:115", after := #[], guard := none }) (v := ?vv72) rfl (by kernel_rfl) (by kernel_rfl) (by kernel_rfl) (fun _ _ _ h => h) ?hy72 (by assumption) ?rest72
      case hy72 => (refine Or.inl ⟨by rfl, ?_⟩; intro W hSw; (try dsimp only at hSw); go_simp; (try with_reducible rfl))
      try simp only [Act.put, List.setIfInBounds_toArray, List.set_cons_zero, List.set_cons_succ]
      refine wpAnyH_take (i := 6) (oi := { dst := some 15, op := Op.load 37 (Operand.tmp 3), type := 37, pos := "law.go:115", after := #[], guard := none }) (v := ?vv73) rfl (by kernel_rfl) (by kernel_rfl) (by kernel_rfl) (fun _ _ _ h => h) ?hy73 (by assumption) ?rest73
      case hy73 => (refine Or.inl ⟨by rfl, ?_⟩; intro W hSw; (try dsimp only at hSw); go_simp; (try with_reducible rfl))
      try simp only [Act.put, List.setIfInBounds_toArray, List.set_cons_zero, List.set_cons_succ]
      refine wpAnyH_ready (rs := [1]) (by kernel_rfl) (by simp) ?_
      refine AllReadyH.cons (o := { dst := some 10, op := Op.call { callee := Callee.value (Operand.func 18), args := #[Operand.tmp 9], argTypes := #[37] }, type := 50, pos := "law.go:115", after := #[{ on := 0, ground := Ground.data }], guard := none }) rfl (fun K hK => ?step74) ?more74
      case more74 => exact AllReadyH.nil
      ((go_simp; go_at_call 18; refine (ours_any (HPM.out _ (below_drew (Below.refl _ wc))).1).mono ?_; rintro e x1 ⟨rfl, hbn⟩; have X1 := Lib.hid (below_of_drew hbn); clear hbn; go_wp2_with fail))
      refine hK.out _ _ ?hS74 (fun hHeld => ?rr74)
      case hS74 => (exact HSC.out _ X1.out)
      clear hK K
      try simp only [Act.put, List.setIfInBounds_toArray, List.set_cons_zero, List.set_cons_succ]
      refine wpAnyH_ready (rs := [3]) (by kernel_rfl) (by simp) ?_
      refine AllReadyH.cons (o := { dst := some 12, op := Op.call { callee := Callee.value (Operand.func 18), args := #[Operand.tmp 11], argTypes := #[37] }, type := 50, pos := "law.go:115", after := #[{ on := 2, ground := Ground.data }, { on := 1, ground := Ground.chain }], guard := none }) rfl (fun K hK => ?step75) ?more75
      case more75 => exact AllReadyH.nil
      ((go_simp; go_at_call 18; refine (ours_any (HPM.out _ X1.out).2).mono ?_; rintro e x2 ⟨rfl, hbn⟩; have X2 := Lib.hid (X1.out.trans (hbn.mono X1.out.size)); clear hbn; go_wp2_with fail))
      refine hK.out _ _ ?hS75 (fun hHeld => ?rr75)
      case hS75 => (exact HSC.out _ X2.out)
      clear hK K
      try simp only [Act.put, List.setIfInBounds_toArray, List.set_cons_zero, List.set_cons_succ]
      refine wpAnyH_ready (rs := [4]) (by kernel_rfl) (by simp) ?_
      refine AllReadyH.cons (o := { dst := some 13, op := Op.call { callee := Callee.value (Operand.func 35), args := #[Operand.tmp 10, Operand.tmp 12], argTypes := #[50, 50] }, type := 4, pos := "law.go:115", after := #[{ on := 1, ground := Ground.data }, { on := 3, ground := Ground.data }, { on := 3, ground := Ground.chain }], guard := none }) rfl (fun K hK => ?step76) ?more76
      case more76 => exact AllReadyH.nil
      ((go_simp; go_at_call 35; refine (HFT.out _ X2.out).mono ?_; rintro e x3 ⟨rfl, hbn⟩; have X3 := Lib.hid (X2.out.trans (hbn.mono X2.out.size)); clear hbn; go_wp2_with fail))
      refine hK.out _ _ ?hS76 (fun hHeld => ?rr76)
      case hS76 => (exact HSC.out _ X3.out)
      clear hK K
      try simp only [Act.put, List.setIfInBounds_toArray, List.set_cons_zero, List.set_cons_succ]
      refine wpAnyH_ready (rs := [7]) (by kernel_rfl) (by simp) ?_
      refine AllReadyH.cons (o := { dst := some 16, op := Op.call { callee := Callee.value (Operand.func 36), args := #[Operand.tmp 14, Operand.tmp 15], argTypes := #[37, 37] }, type := 4, pos := "law.go:115", after := #[{ on := 5, ground := Ground.data }, { on := 6, ground := Ground.data }, { on := 4, ground := Ground.chain }], guard := none }) rfl (fun K hK => ?step77) ?more77
      case more77 => exact AllReadyH.nil
      ((go_simp; go_at_call 36; refine (HRF.out _ X3.out).mono ?_; rintro e x4 ⟨rfl, hbn⟩; have X4 := Lib.hid (X3.out.trans (hbn.mono X3.out.size)); clear hbn; go_wp2_with fail))
      refine hK.out _ _ ?hS77 (fun hHeld => ?rr77)
      case hS77 => (exact HSC.out _ X4.out)
      clear hK K
      try simp only [Act.put, List.setIfInBounds_toArray, List.set_cons_zero, List.set_cons_succ]
      refine wpAnyH_take (i := 8) (oi := { dst := some 17, op := Op.binOp BinOp.eql 4 (Operand.tmp 13) (Operand.tmp 16) 4, type := 4, pos := "law.go:115", after := #[{ on := 4, ground := Ground.data }, { on := 7, ground := Ground.data }], guard := none }) (v := (.bool true)) rfl (by kernel_rfl) (by kernel_rfl) (by kernel_rfl) (fun _ _ _ h => h) ?hy78 (by assumption) ?rest78
      case hy78 => ((refine Or.inl ⟨by rfl, ?_⟩; intro W hSw; (try dsimp only at hSw); go_simp; (try simp)))
      try simp only [Act.put, List.setIfInBounds_toArray, List.set_cons_zero, List.set_cons_succ]
      refine wpAnyH_take (i := 9) (oi := { dst := some 18, op := Op.move (Operand.tmp 17), type := 4, pos := "law.go:115", after := #[{ on := 8, ground := Ground.data }, { on := 7, ground := Ground.chain }], guard := none }) (v := ?vv79) rfl (by kernel_rfl) (by kernel_rfl) (by kernel_rfl) (fun _ _ _ h => h) ?hy79 (by assumption) ?rest79
      case hy79 => (refine Or.inl ⟨by rfl, ?_⟩; intro W hSw; (try dsimp only at hSw); go_simp; (try with_reducible rfl))
      try simp only [Act.put, List.setIfInBounds_toArray, List.set_cons_zero, List.set_cons_succ]
      refine wpAnyH_take (i := 10) (oi := { dst := some 19, op := Op.fieldAddr 37 (Operand.tmp 2) 0, type := 0, pos := "law.go:115", after := #[{ on := 9, ground := Ground.guard }], guard := some (9, true) }) (v := ?vv80) rfl (by kernel_rfl) (by kernel_rfl) (by kernel_rfl) (fun _ _ _ h => h) ?hy80 (by assumption) ?rest80
      case hy80 => (refine Or.inl ⟨by rfl, ?_⟩; intro W hSw; (try dsimp only at hSw); go_simp; (try with_reducible rfl))
      try simp only [Act.put, List.setIfInBounds_toArray, List.set_cons_zero, List.set_cons_succ]
      refine wpAnyH_take (i := 11) (oi := { dst := some 20, op := Op.load 3 (Operand.tmp 19), type := 3, pos := "law.go:115", after := #[{ on := 10, ground := Ground.data }, { on := 9, ground := Ground.guard }], guard := some (9, true) }) (v := ?vv81) rfl (by kernel_rfl) (by kernel_rfl) (by kernel_rfl) (fun _ _ _ h => h) ?hy81 (by assumption) ?rest81
      case hy81 => (refine Or.inl ⟨by rfl, ?_⟩; intro W hSw; (try dsimp only at hSw); go_simp; (try with_reducible rfl))
      try simp only [Act.put, List.setIfInBounds_toArray, List.set_cons_zero, List.set_cons_succ]
      refine wpAnyH_take (i := 12) (oi := { dst := some 21, op := Op.binOp BinOp.leq 3 (Operand.tmp 20) (Operand.const (Value.int IntKind.i64 4)) 3, type := 4, pos := "law.go:115", after := #[{ on := 11, ground := Ground.data }, { on := 9, ground := Ground.guard }], guard := some (9, true) }) (v := (.bool false)) rfl (by kernel_rfl) (by kernel_rfl) (by kernel_rfl) (fun _ _ _ h => h) ?hy82 (by assumption) ?rest82
      case hy82 => ((refine Or.inl ⟨by rfl, ?_⟩; intro W hSw; (try dsimp only at hSw); go_simp; (try simp [q4])))
      try simp only [Act.put, List.setIfInBounds_toArray, List.set_cons_zero, List.set_cons_succ]
      refine wpAnyH_take (i := 13) (oi := { dst := some 22, op := Op.move (Operand.tmp 21), type := 4, pos := "law.go:115", after := #[{ on := 12, ground := Ground.data }, { on := 9, ground := Ground.chain }, { on := 9, ground := Ground.guard }], guard := some (9, true) }) (v := ?vv83) rfl (by kernel_rfl) (by kernel_rfl) (by kernel_rfl) (fun _ _ _ h => h) ?hy83 (by assumption) ?rest83
      case hy83 => (refine Or.inl ⟨by rfl, ?_⟩; intro W hSw; (try dsimp only at hSw); go_simp; (try with_reducible rfl))
      try simp only [Act.put, List.setIfInBounds_toArray, List.set_cons_zero, List.set_cons_succ]
      refine wpAnyH_take (i := 14) (oi := { dst := some 23, op := Op.load 37 (Operand.tmp 2), type := 37, pos := "law.go:115", after := #[{ on := 13, ground := Ground.guard }], guard := some (13, false) }) (v := ?vv84) rfl (by kernel_rfl) (by kernel_rfl) (by kernel_rfl) (fun _ _ _ h => h) ?hy84 (by assumption) ?rest84
      case hy84 => (refine Or.inl ⟨by rfl, ?_⟩; intro W hSw; (try dsimp only at hSw); go_simp; (try with_reducible rfl))
      try simp only [Act.put, List.setIfInBounds_toArray, List.set_cons_zero, List.set_cons_succ]
      refine wpAnyH_take (i := 16) (oi := { dst := some 25, op := Op.load 37 (Operand.tmp 3), type := 37, pos := "law.go:115", after := #[{ on := 13, ground := Ground.guard }], guard := some (13, false) }) (v := ?vv85) rfl (by kernel_rfl) (by kernel_rfl) (by kernel_rfl) (fun _ _ _ h => h) ?hy85 (by assumption) ?rest85
      case hy85 => (refine Or.inl ⟨by rfl, ?_⟩; intro W hSw; (try dsimp only at hSw); go_simp; (try with_reducible rfl))
      try simp only [Act.put, List.setIfInBounds_toArray, List.set_cons_zero, List.set_cons_succ]
      refine wpAnyH_ready (rs := [15]) (by kernel_rfl) (by simp) ?_
      refine AllReadyH.cons (o := { dst := some 24, op := Op.call { callee := Callee.value (Operand.func 18), args := #[Operand.tmp 23], argTypes := #[37] }, type := 50, pos := "law.go:115", after := #[{ on := 14, ground := Ground.data }, { on := 13, ground := Ground.chain }, { on := 13, ground := Ground.guard }], guard := some (13, false) }) rfl (fun K hK => ?step86) ?more86
      case more86 => exact AllReadyH.nil
      ((go_simp; go_at_call 18; refine (ours_any (HPM.out _ X4.out).1).mono ?_; rintro e x5 ⟨rfl, hbn⟩; have X5 := Lib.hid (X4.out.trans (hbn.mono X4.out.size)); clear hbn; go_wp2_with fail))
      refine hK.out _ _ ?hS86 (fun hHeld => ?rr86)
      case hS86 => (exact HSC.out _ X5.out)
      clear hK K
      try simp only [Act.put, List.setIfInBounds_toArray, List.set_cons_zero, List.set_cons_succ]
      refine wpAnyH_ready (rs := [17]) (by kernel_rfl) (by simp) ?_
      refine AllReadyH.cons (o := { dst := some 26, op := Op.call { callee := Callee.value (Operand.func 18), args := #[Operand.tmp 25], argTypes := #[37] }, type := 50, pos := "law.go:115", after := #[{ on := 16, ground := Ground.data }, { on := 15, ground := Ground.chain }, { on := 13, ground := Ground.guard }], guard := some (13, false) }) rfl (fun K hK => ?step87) ?more87
      case more87 => exact AllReadyH.nil
      ((go_simp; go_at_call 18; refine (ours_any (HPM.out _ X5.out).2).mono ?_; rintro e x6 ⟨rfl, hbn⟩; have X6 := Lib.hid (X5.out.trans (hbn.mono X5.out.size)); clear hbn; go_wp2_with fail))
      refine hK.out _ _ ?hS87 (fun hHeld => ?rr87)
      case hS87 => (exact HSC.out _ X6.out)
      clear hK K
      try simp only [Act.put, List.setIfInBounds_toArray, List.set_cons_zero, List.set_cons_succ]
      refine wpAnyH_ready (rs := [18]) (by kernel_rfl) (by simp) ?_
      refine AllReadyH.cons (o := { dst := some 27, op := Op.call { callee := Callee.value (Operand.func 35), args := #[Operand.tmp 24, Operand.tmp 26], argTypes := #[50, 50] }, type := 4, pos := "law.go:115", after := #[{ on := 15, ground := Ground.data }, { on := 17, ground := Ground.data }, { on := 17, ground := Ground.chain }, { on := 13, ground := Ground.guard }], guard := some (13, false) }) rfl (fun K hK => ?step88) ?more88
      case more88 => exact AllReadyH.nil
      ((go_simp; go_at_call 35; refine (HFT.out _ X6.out).mono ?_; rintro e x7 ⟨rfl, hbn⟩; have X7 := Lib.hid (X6.out.trans (hbn.mono X6.out.size)); clear hbn; go_wp2_with fail))
      refine hK.out _ _ ?hS88 (fun hHeld => ?rr88)
      case hS88 => (exact HSC.out _ X7.out)
      clear hK K
      try simp only [Act.put, List.setIfInBounds_toArray, List.set_cons_zero, List.set_cons_succ]
      refine wpAnyH_take (i := 19) (oi := { dst := some 28, op := Op.unOp UnOp.not 4 (Operand.tmp 27), type := 4, pos := "law.go:115", after := #[{ on := 18, ground := Ground.data }, { on := 13, ground := Ground.guard }], guard := some (13, false) }) (v := ?vv89) rfl (by kernel_rfl) (by kernel_rfl) (by kernel_rfl) (fun _ _ _ h => h) ?hy89 (by assumption) ?rest89
      case hy89 => (refine Or.inl ⟨by rfl, ?_⟩; intro W hSw; (try dsimp only at hSw); go_simp; (try with_reducible rfl))
      try simp only [Act.put, List.setIfInBounds_toArray, List.set_cons_zero, List.set_cons_succ]
      refine wpAnyH_take (i := 20) (oi := { dst := some 29, op := Op.pick (Operand.tmp 22) (Operand.const (Value.bool true)) (Operand.tmp 28), type := 4, pos := "law.go:115", after := #[{ on := 13, ground := Ground.data }, { on := 19, ground := Ground.data }, { on := 9, ground := Ground.guard }], guard := some (9, true) }) (v := ?vv90) rfl (by kernel_rfl) (by kernel_rfl) (by kernel_rfl) (fun _ _ _ h => h) ?hy90 (by assumption) ?rest90
      case hy90 => (refine Or.inl ⟨by rfl, ?_⟩; intro W hSw; (try dsimp only at hSw); go_simp; (try with_reducible rfl))
      try simp only [Act.put, List.setIfInBounds_toArray, List.set_cons_zero, List.set_cons_succ]
      refine wpAnyH_take (i := 21) (oi := { dst := some 30, op := Op.pick (Operand.tmp 18) (Operand.tmp 29) (Operand.const (Value.bool false)), type := 4, pos := "law.go:115", after := #[{ on := 9, ground := Ground.data }, { on := 20, ground := Ground.data }], guard := none }) (v := ?vv91) rfl (by kernel_rfl) (by kernel_rfl) (by kernel_rfl) (fun _ _ _ h => h) ?hy91 (by assumption) ?rest91
      case hy91 => (refine Or.inl ⟨by rfl, ?_⟩; intro W hSw; (try dsimp only at hSw); go_simp; (try with_reducible rfl))
      try simp only [Act.put, List.setIfInBounds_toArray, List.set_cons_zero, List.set_cons_succ]
      refine wpAnyH_take (i := 22) (oi := { dst := some 31, op := Op.move (Operand.tmp 30), type := 4, pos := "law.go:115", after := #[{ on := 21, ground := Ground.data }, { on := 18, ground := Ground.chain }], guard := none }) (v := ?vv92) rfl (by kernel_rfl) (by kernel_rfl) (by kernel_rfl) (fun _ _ _ h => h) ?hy92 (by assumption) ?rest92
      case hy92 => (refine Or.inl ⟨by rfl, ?_⟩; intro W hSw; (try dsimp only at hSw); go_simp; (try with_reducible rfl))
      try simp only [Act.put, List.setIfInBounds_toArray, List.set_cons_zero, List.set_cons_succ]
      refine wpAnyH_ready (rs := [23]) (by kernel_rfl) (by simp) ?_
      refine AllReadyH.cons (o := { dst := some 32, op := Op.call { callee := Callee.value (Operand.func 37), args := #[], argTypes := #[] }, type := 4, pos := "law.go:115", after := #[{ on := 22, ground := Ground.chain }, { on := 22, ground := Ground.guard }], guard := some (22, true) }) rfl (fun K hK => ?step93) ?more93
      case more93 => exact AllReadyH.nil
      ((go_simp; go_at_call 37; refine (HAW.out _ X7.out).mono ?_; rintro e x8 ⟨rfl, hbn⟩; have X8 := Lib.hid (X7.out.trans (hbn.mono X7.out.size)); clear hbn; go_wp2_with fail))
      refine hK.out _ _ ?hS93 (fun hHeld => ?rr93)
      case hS93 => (exact HSC.out _ X8.out)
      clear hK K
      try simp only [Act.put, List.setIfInBounds_toArray, List.set_cons_zero, List.set_cons_succ]
      refine wpAnyH_take (i := 24) (oi := { dst := some 33, op := Op.pick (Operand.tmp 31) (Operand.tmp 32) (Operand.const (Value.bool false)), type := 4, pos := "law.go:115", after := #[{ on := 22, ground := Ground.data }, { on := 23, ground := Ground.data }], guard := none }) (v := ?vv94) rfl (by kernel_rfl) (by kernel_rfl) (by kernel_rfl) (fun _ _ _ h => h) ?hy94 (by assumption) ?rest94
      case hy94 => (refine Or.inl ⟨by rfl, ?_⟩; intro W hSw; (try dsimp only at hSw); go_simp; (try with_reducible rfl))
      try simp only [Act.put, List.setIfInBounds_toArray, List.set_cons_zero, List.set_cons_succ]
      refine wpAnyH_take (i := 25) (oi := { dst := some 4, op := Op.assign (Operand.tmp 33), type := 4, pos := "law.go:115", after := #[{ on := 24, ground := Ground.data }, { on := 23, ground := Ground.chain }, { on := 0, ground := Ground.phase }, { on := 1, ground := Ground.phase }, { on := 2, ground := Ground.phase }, { on := 3, ground := Ground.phase }, { on := 4, ground := Ground.phase }, { on := 5, ground := Ground.phase }, { on := 6, ground := Ground.phase }, { on := 7, ground := Ground.phase }, { on := 8, ground := Ground.phase }, { on := 9, ground := Ground.phase }, { on := 10, ground := Ground.phase }, { on := 11, ground := Ground.phase }, { on := 12, ground := Ground.phase }, { on := 13, ground := Ground.phase }, { on := 14, ground := Ground.phase }, { on := 15, ground := Ground.phase }, { on := 16, ground := Ground.phase }, { on := 17, ground := Ground.phase }, { on := 18, ground := Ground.phase }, { on := 19, ground := Ground.phase }, { on := 20, ground := Ground.phase }, { on := 21, ground := Ground.phase }, { on := 22, ground := Ground.phase }, { on := 23, ground := Ground.phase }, { on := 24, ground := Ground.phase }], guard := none }) (v := ?vv95) rfl (by kernel_rfl) (by kernel_rfl) (by kernel_rfl) (fun _ _ _ h => h) ?hy95 (by assumption) ?rest95
      case hy95 => (refine Or.inl ⟨by rfl, ?_⟩; intro W hSw; (try dsimp only at hSw); go_simp; (try with_reducible rfl))
      try simp only [Act.put, List.setIfInBounds_toArray, List.set_cons_zero, List.set_cons_succ]
      refine wpAnyH_done (by kernel_rfl) ?_ _
      clear hHeld
      dsimp only [onlyN]
      go_wp2_with fail
      go_ret
      exact ⟨rfl, HBC.out.trans (X8.out.mono HBC.out.size)⟩
end Go.Proofs.YtabfbnpbgdlinaaGreatDoor
