/- The law on answers. (genmegd.py wrote it.) -/
import Derived.Test.YtfaaeacgmlklhaaDoorZMegC
import Derived.Test.YtfaaeacgmlklhaaDoorZMefD
set_option linter.unusedSimpArgs false
set_option linter.unusedVariables false
set_option linter.unnecessarySimpa false
namespace Go.Proofs.YtfaaeacgmlklhaaDoor
open Go.RowKit Go.Shelf

/-- The law's two boxes, with messages that were cut. -/
def Boxes (w W : World) (p q : MsgV) : Prop := Below w.heap.size w W ∧ ∃ tA tc oA oc tB td oB od, W.heap[w.heap.size]? = some (.cells (cellM p tA tc oA oc) 26 (0, 0)) ∧ W.heap[w.heap.size + 1]? = some (.cells (cellM q tB td oB od) 26 (0, 0)) ∧ MsgIs W (.agg (cellM p tA tc oA oc)) p ∧ MsgIs W (.agg (cellM q tB td oB od)) q
/-- What stands behind both cuts: the boxes are stored. -/
theorem boxes_of {w w3 w4 W : World} {p q : MsgV} {tA tB oA oB : Option Addr} {tc td oc od : Nat} {B1 B2 : Nat}
    (hb : Below w.heap.size w w4) (hB1 : w.heap.size + 2 ≤ B1) (hB2 : w.heap.size + 2 ≤ B2)
    (n1 : NumsAt w (.slice tA p.tl.length tc) p.tl) (o1 : RowN w3 B1 4 (.slice oA p.os.length oc) p.os.length (opC p.os)) (h34 : Below w3.heap.size w3 w4) (n2 : NumsAt w (.slice tB q.tl.length td) q.tl) (o2 : RowN w4 B2 4 (.slice oB q.os.length od) q.os.length (opC q.os)) (k1 : KeysIn p.os) (k2 : KeysIn q.os)
    (ht : Touch (fun k => k = w.heap.size ∨ k = w.heap.size + 1) w4 W) (h3 : W.heap[w.heap.size]? = some (.cells (cellM p tA tc oA oc) 26 (0, 0))) (h5 : W.heap[w.heap.size + 1]? = some (.cells (cellM q tB td oB od) 26 (0, 0))) : Boxes w W p q := by
  have hW := hb.trans (ht.below (fun i e => by omega) hb.size)
  exact ⟨hW, tA, tc, oA, oc, tB, td, oB, od, h3, h5, ⟨tA, tc, oA, oc, rfl, n1.below hW, ((o1.1.below h34).touch ht (fun b e hb => by have := (o1.2.1 b e).1; omega)).ops rfl, k1⟩, ⟨tB, td, oB, od, rfl, n2.below hW, (o2.1.touch ht (fun b e hb => by have := (o2.2.1 b e).1; omega)).ops rfl, k2⟩⟩
theorem KeysIn.cut (m : MsgV) : KeysIn (cutM m).os := fun o ho => by have := cutO_keys m.os o ho; omega
set_option maxRecDepth 100000 in
set_option maxHeartbeats 16000000 in
theorem law_answers {w : World} (hG : Glob w) (hMv : Mov w) {v u : Value} {m n : MsgV} (k : Int) (h : MsgAt w v m) (h2 : MsgAt w u n) :
    Calls Tryd.prog 3 #[v, .int .i64 k, u] w fun e w' => e = .returned (.bool true) ∧ Below w.heap.size w w' := by
  have HG := Lib.hid (And.intro hG hMv)
  obtain ⟨tA0, tc0, oA0, oc0, rfl, hna, hoa⟩ := h
  obtain ⟨tB0, td0, oB0, od0, rfl, hnb, hob⟩ := h2
  have hb1 := below_new (w := w) (.cells (cellM m tA0 tc0 oA0 oc0) 26)
  have hat1 := alloc_at w (.cells (cellM m tA0 tc0 oA0 oc0) 26)
  have hb2 := hb1.trans ((below_new (w := w.alloc (.cells (cellM m tA0 tc0 oA0 oc0) 26)) (.cells (cellM n tB0 td0 oB0 od0) 26)).mono hb1.size)
  have hat3 := ((below_new (w := w.alloc (.cells (cellM m tA0 tc0 oA0 oc0) 26)) (.cells (cellM n tB0 td0 oB0 od0) 26)).block w.heap.size (heap_lt hat1)).trans hat1
  have hat5 := alloc_at (w.alloc (.cells (cellM m tA0 tc0 oA0 oc0) 26)) (.cells (cellM n tB0 td0 oB0 od0) 26)
  rw [asz] at hat5
  have HC1 := Lib.hid (fun W (hW : Below w.heap.size w W) => lawcut_cells (hna.below hW) (hoa.below hW))
  have HC2 := Lib.hid (fun W (hW : Below w.heap.size w W) => lawcut_cells (hnb.below hW) (hob.below hW))
  obtain ⟨W2, hW2⟩ : ∃ W, W = (w.alloc (.cells (cellM m tA0 tc0 oA0 oc0) 26)).alloc (.cells (cellM n tB0 td0 oB0 od0) 26) := ⟨_, rfl⟩
  have HW2 := Lib.hid hW2
  rw [← hW2] at hb2 hat3 hat5
  have hsz : W2.heap.size = w.heap.size + 2 := by rw [hW2, asz, asz]
  have HSZ := Lib.hid hsz
  have HB2 := Lib.hid hb2
  have HA2 := Lib.hid (And.intro hat3 hat5)
  have HNA := Lib.hid (And.intro (cut_nums hna) (cut_nums hnb))
  clear hG hMv hna hnb hoa hob hb1 hat1 hb2 hat3 hat5 hsz hW2
  go_enter Tryd.func3, Tryd.ntmps3
  go_wp2_with fail
  rw [← HW2.out]
  go_cut [] from 9 to 12 (fun wx => Boxes w wx (cutM m) (cutM n))
  · refine wp_only ?_
    refine wp_region_held_drew (S := fun _ => True) (by kernel_rfl) trivial (fun hHeld => ?_)
    refine wpAnyH_ready (rs := [0, 2]) (by kernel_rfl) (by simp) ?_
    have hl := HA2.out.1
    have l0 := cell_of hl 0
    have l1 := cell_of hl 1
    have l2 := cell_of hl 2
    have l3 := cell_of hl 3
    have l4 := cell_of hl 4
    have l5 := cell_of hl 5
    have l6 := cell_of hl 6
    have l7 := cell_of hl 7
    have l8 := cell_of hl 8
    have l9 := cell_of hl 9
    have l10 := cell_of hl 10
    simp at l0 l1 l2 l3 l4 l5 l6 l7 l8 l9 l10
    clear hl
    refine AllReadyH.cons (o := { dst := some 9, op := Op.load 26 (Operand.tmp 3), type := 26, pos := "law.go:88", after := #[], guard := none }) rfl (fun K hK => ?step1) ?more1
    ((go_simp))
    refine hK.out _ _ ?hS1 (fun hHeld => ?rr1)
    case hS1 => (trivial)
    clear hK K
    try simp only [Act.put, List.setIfInBounds_toArray, List.set_cons_zero, List.set_cons_succ]
    · skip
      clear l0 l1 l2 l3 l4 l5 l6 l7 l8 l9 l10
      refine wpAnyH_ready (rs := [1, 2]) (by kernel_rfl) (by simp) ?_
      refine AllReadyH.cons (o := { dst := some 10, op := Op.call { callee := Callee.value (Operand.func 4), args := #[Operand.tmp 9], argTypes := #[26] }, type := 26, pos := "law.go:88", after := #[{ on := 0, ground := Ground.data }], guard := none }) rfl (fun K hK => ?step2) ?more2
      ((go_simp; go_at_call 4; refine (HC1.out _ (below_drew HB2.out)).mono ?_; rintro e w3 ⟨oA, oc, rfl, hn1, ho1, hb3⟩; have HO1 := Lib.hid ho1; have HB3 := Lib.hid (below_of_drew hb3); clear hn1 ho1 hb3; go_wp2_with fail))
      refine hK.out _ _ ?hS2 (fun hHeld => ?rr2)
      case hS2 => (trivial)
      clear hK K
      try simp only [Act.put, List.setIfInBounds_toArray, List.set_cons_zero, List.set_cons_succ]
      · skip
        refine wpAnyH_ready (rs := [2]) (by kernel_rfl) (by simp) ?_
        have hl := (HB3.out.block (w.heap.size + 1) (heap_lt HA2.out.2)).trans HA2.out.2
        have l0 := cell_of hl 0
        have l1 := cell_of hl 1
        have l2 := cell_of hl 2
        have l3 := cell_of hl 3
        have l4 := cell_of hl 4
        have l5 := cell_of hl 5
        have l6 := cell_of hl 6
        have l7 := cell_of hl 7
        have l8 := cell_of hl 8
        have l9 := cell_of hl 9
        have l10 := cell_of hl 10
        simp at l0 l1 l2 l3 l4 l5 l6 l7 l8 l9 l10
        clear hl
        refine AllReadyH.cons (o := { dst := some 11, op := Op.load 26 (Operand.tmp 5), type := 26, pos := "law.go:88", after := #[], guard := none }) rfl (fun K hK => ?step3) ?more3
        case more3 => exact AllReadyH.nil
        ((go_simp))
        refine hK.out _ _ ?hS3 (fun hHeld => ?rr3)
        case hS3 => (trivial)
        clear hK K
        try simp only [Act.put, List.setIfInBounds_toArray, List.set_cons_zero, List.set_cons_succ]
        clear l0 l1 l2 l3 l4 l5 l6 l7 l8 l9 l10
        refine wpAnyH_ready (rs := [3]) (by kernel_rfl) (by simp) ?_
        refine AllReadyH.cons (o := { dst := some 12, op := Op.call { callee := Callee.value (Operand.func 4), args := #[Operand.tmp 11], argTypes := #[26] }, type := 26, pos := "law.go:88", after := #[{ on := 2, ground := Ground.data }, { on := 1, ground := Ground.chain }], guard := none }) rfl (fun K hK => ?step4) ?more4
        case more4 => exact AllReadyH.nil
        ((go_simp; go_at_call 4; refine (HC2.out _ (HB2.out.trans (HB3.out.mono HB2.out.size))).mono ?_; rintro e w4 ⟨oB, od, rfl, hn2, ho2, hb4⟩; have HO2 := Lib.hid ho2; have HB4 := Lib.hid (HB3.out.trans (hb4.mono HB3.out.size)); have HB34 := Lib.hid hb4; clear hn2 ho2 hb4; go_wp2_with fail))
        refine hK.out _ _ ?hS4 (fun hHeld => ?rr4)
        case hS4 => (trivial)
        clear hK K
        try simp only [Act.put, List.setIfInBounds_toArray, List.set_cons_zero, List.set_cons_succ]
        have hM4 := (HB4.out.block w.heap.size (heap_lt HA2.out.1)).trans HA2.out.1
        have hZ4 := (HB4.out.block (w.heap.size + 1) (heap_lt HA2.out.2)).trans HA2.out.2
        have c0 := cell_of hM4 0
        have c1 := cell_of hM4 1
        have c2 := cell_of hM4 2
        have c3 := cell_of hM4 3
        have c4 := cell_of hM4 4
        have c5 := cell_of hM4 5
        have c6 := cell_of hM4 6
        have c7 := cell_of hM4 7
        have c8 := cell_of hM4 8
        have c9 := cell_of hM4 9
        have c10 := cell_of hM4 10
        have f0 := free0 hM4 0
        have f1 := free0 hM4 1
        have f2 := free0 hM4 2
        have f3 := free0 hM4 3
        have f4 := free0 hM4 4
        have f5 := free0 hM4 5
        have f6 := free0 hM4 6
        have f7 := free0 hM4 7
        have f8 := free0 hM4 8
        have f9 := free0 hM4 9
        have f10 := free0 hM4 10
        simp at c0 c1 c2 c3 c4 c5 c6 c7 c8 c9 c10
        have HM4 := Lib.hid hM4
        have HZ4 := Lib.hid hZ4
        clear hM4 hZ4
        refine wpAnyH_ready (rs := [4]) (by kernel_rfl) (by simp) ?_
        refine AllReadyH.cons (o := { dst := none, op := Op.store 26 (Operand.tmp 3) (Operand.tmp 10), type := 0, pos := "law.go:88", after := #[{ on := 1, ground := Ground.data }, { on := 3, ground := Ground.chain }, { on := 0, ground := Ground.phase }, { on := 1, ground := Ground.phase }, { on := 2, ground := Ground.textOnly Departure.lateStores }, { on := 3, ground := Ground.textOnly Departure.lateStoresUnsure }], guard := none }) rfl (fun K hK => ?step5) ?more5
        case more5 => exact AllReadyH.nil
        ((go_simp))
        refine hK.out _ _ ?hS5 (fun hHeld => ?rr5)
        case hS5 => (trivial)
        clear hK K
        try simp only [Act.put, List.setIfInBounds_toArray, List.set_cons_zero, List.set_cons_succ]
        obtain ⟨W5, hW5⟩ : ∃ W, W = (World.setCell (World.setCell (World.setCell (World.setCell (World.setCell (World.setCell (World.setCell (World.setCell (World.setCell (World.setCell (World.setCell w4 ⟨w.heap.size, 0, none⟩ (.int .i64 (cutM m).kd)) ⟨w.heap.size, 1, none⟩ (.int .i64 (cutM m).fr)) ⟨w.heap.size, 2, none⟩ (.int .i64 (cutM m).tt)) ⟨w.heap.size, 3, none⟩ (.int .i64 (cutM m).g)) ⟨w.heap.size, 4, none⟩ (.int .i64 (cutM m).nd)) ⟨w.heap.size, 5, none⟩ (.int .i64 (cutM m).tr)) ⟨w.heap.size, 6, none⟩ (.int .i64 (cutM m).lw)) ⟨w.heap.size, 7, none⟩ (.int .i64 (cutM m).co)) ⟨w.heap.size, 8, none⟩ (.int .i64 (cutM m).ti)) ⟨w.heap.size, 9, none⟩ (.slice tA0 (cutM m).tl.length tc0)) ⟨w.heap.size, 10, none⟩ (.slice oA (cutM m).os.length oc)) := ⟨_, rfl⟩
        rw [← hW5]
        have hS5 : W5 = w4.setCells w.heap.size 0 [.int .i64 (cutM m).kd, .int .i64 (cutM m).fr, .int .i64 (cutM m).tt, .int .i64 (cutM m).g, .int .i64 (cutM m).nd, .int .i64 (cutM m).tr, .int .i64 (cutM m).lw, .int .i64 (cutM m).co, .int .i64 (cutM m).ti, .slice tA0 (cutM m).tl.length tc0, .slice oA (cutM m).os.length oc] := hW5
        have hM5 : W5.heap[w.heap.size]? = some (.cells (cellM (cutM m) tA0 tc0 oA oc) 26 (0, 0)) := by rw [hS5]; exact setCells_at w.heap.size [.int .i64 (cutM m).kd, .int .i64 (cutM m).fr, .int .i64 (cutM m).tt, .int .i64 (cutM m).g, .int .i64 (cutM m).nd, .int .i64 (cutM m).tr, .int .i64 (cutM m).lw, .int .i64 (cutM m).co, .int .i64 (cutM m).ti, .slice tA0 (cutM m).tl.length tc0, .slice oA (cutM m).os.length oc] [] [.int .i64 m.kd, .int .i64 m.fr, .int .i64 m.tt, .int .i64 m.g, .int .i64 m.nd, .int .i64 m.tr, .int .i64 m.lw, .int .i64 m.co, .int .i64 m.ti, .slice tA0 m.tl.length tc0, .slice oA0 m.os.length oc0] w4 rfl HM4.out
        have hZ5 : W5.heap[w.heap.size + 1]? = some (.cells (cellM n tB0 td0 oB0 od0) 26 (0, 0)) := by rw [hS5]; exact (setCells_block w.heap.size [.int .i64 (cutM m).kd, .int .i64 (cutM m).fr, .int .i64 (cutM m).tt, .int .i64 (cutM m).g, .int .i64 (cutM m).nd, .int .i64 (cutM m).tr, .int .i64 (cutM m).lw, .int .i64 (cutM m).co, .int .i64 (cutM m).ti, .slice tA0 (cutM m).tl.length tc0, .slice oA (cutM m).os.length oc] 0 w4 _ (by omega)).trans HZ4.out
        have HT5 : Hid (Touch (fun k => k = w.heap.size ∨ k = w.heap.size + 1) w4 W5) := Lib.hid (by rw [hS5]; exact setCells_touch w.heap.size (fun _ => .inl rfl) [.int .i64 (cutM m).kd, .int .i64 (cutM m).fr, .int .i64 (cutM m).tt, .int .i64 (cutM m).g, .int .i64 (cutM m).nd, .int .i64 (cutM m).tr, .int .i64 (cutM m).lw, .int .i64 (cutM m).co, .int .i64 (cutM m).ti, .slice tA0 (cutM m).tl.length tc0, .slice oA (cutM m).os.length oc] 0 w4 (Touch.refl _ _))
        clear hW5 hS5 c0 f0 c1 f1 c2 f2 c3 f3 c4 f4 c5 f5 c6 f6 c7 f7 c8 f8 c9 f9 c10 f10
        have c0 := cell_of hZ5 0
        have c1 := cell_of hZ5 1
        have c2 := cell_of hZ5 2
        have c3 := cell_of hZ5 3
        have c4 := cell_of hZ5 4
        have c5 := cell_of hZ5 5
        have c6 := cell_of hZ5 6
        have c7 := cell_of hZ5 7
        have c8 := cell_of hZ5 8
        have c9 := cell_of hZ5 9
        have c10 := cell_of hZ5 10
        have f0 := free0 hZ5 0
        have f1 := free0 hZ5 1
        have f2 := free0 hZ5 2
        have f3 := free0 hZ5 3
        have f4 := free0 hZ5 4
        have f5 := free0 hZ5 5
        have f6 := free0 hZ5 6
        have f7 := free0 hZ5 7
        have f8 := free0 hZ5 8
        have f9 := free0 hZ5 9
        have f10 := free0 hZ5 10
        simp at c0 c1 c2 c3 c4 c5 c6 c7 c8 c9 c10
        have HM5 := Lib.hid (And.intro hM5 hZ5)
        clear hM5 hZ5
        refine wpAnyH_ready (rs := [5]) (by kernel_rfl) (by simp) ?_
        refine AllReadyH.cons (o := { dst := none, op := Op.store 26 (Operand.tmp 5) (Operand.tmp 12), type := 0, pos := "law.go:88", after := #[{ on := 3, ground := Ground.data }, { on := 4, ground := Ground.chain }, { on := 0, ground := Ground.phase }, { on := 1, ground := Ground.phase }, { on := 2, ground := Ground.phase }, { on := 3, ground := Ground.phase }, { on := 4, ground := Ground.phase }], guard := none }) rfl (fun K hK => ?step6) ?more6
        case more6 => exact AllReadyH.nil
        ((go_simp))
        refine hK.out _ _ ?hS6 (fun hHeld => ?rr6)
        case hS6 => (trivial)
        clear hK K
        try simp only [Act.put, List.setIfInBounds_toArray, List.set_cons_zero, List.set_cons_succ]
        obtain ⟨W6, hW6⟩ : ∃ W, W = (World.setCell (World.setCell (World.setCell (World.setCell (World.setCell (World.setCell (World.setCell (World.setCell (World.setCell (World.setCell (World.setCell W5 ⟨(w.heap.size + 1), 0, none⟩ (.int .i64 (cutM n).kd)) ⟨(w.heap.size + 1), 1, none⟩ (.int .i64 (cutM n).fr)) ⟨(w.heap.size + 1), 2, none⟩ (.int .i64 (cutM n).tt)) ⟨(w.heap.size + 1), 3, none⟩ (.int .i64 (cutM n).g)) ⟨(w.heap.size + 1), 4, none⟩ (.int .i64 (cutM n).nd)) ⟨(w.heap.size + 1), 5, none⟩ (.int .i64 (cutM n).tr)) ⟨(w.heap.size + 1), 6, none⟩ (.int .i64 (cutM n).lw)) ⟨(w.heap.size + 1), 7, none⟩ (.int .i64 (cutM n).co)) ⟨(w.heap.size + 1), 8, none⟩ (.int .i64 (cutM n).ti)) ⟨(w.heap.size + 1), 9, none⟩ (.slice tB0 (cutM n).tl.length td0)) ⟨(w.heap.size + 1), 10, none⟩ (.slice oB (cutM n).os.length od)) := ⟨_, rfl⟩
        rw [← hW6]
        have hS6 : W6 = W5.setCells (w.heap.size + 1) 0 [.int .i64 (cutM n).kd, .int .i64 (cutM n).fr, .int .i64 (cutM n).tt, .int .i64 (cutM n).g, .int .i64 (cutM n).nd, .int .i64 (cutM n).tr, .int .i64 (cutM n).lw, .int .i64 (cutM n).co, .int .i64 (cutM n).ti, .slice tB0 (cutM n).tl.length td0, .slice oB (cutM n).os.length od] := hW6
        have HM6 : Hid (W6.heap[w.heap.size]? = some (.cells (cellM (cutM m) tA0 tc0 oA oc) 26 (0, 0))) := Lib.hid (by rw [hS6]; exact (setCells_block (w.heap.size + 1) [.int .i64 (cutM n).kd, .int .i64 (cutM n).fr, .int .i64 (cutM n).tt, .int .i64 (cutM n).g, .int .i64 (cutM n).nd, .int .i64 (cutM n).tr, .int .i64 (cutM n).lw, .int .i64 (cutM n).co, .int .i64 (cutM n).ti, .slice tB0 (cutM n).tl.length td0, .slice oB (cutM n).os.length od] 0 W5 _ (by omega)).trans HM5.out.1)
        have HZ6 : Hid (W6.heap[w.heap.size + 1]? = some (.cells (cellM (cutM n) tB0 td0 oB od) 26 (0, 0))) := Lib.hid (by rw [hS6]; exact setCells_at (w.heap.size + 1) [.int .i64 (cutM n).kd, .int .i64 (cutM n).fr, .int .i64 (cutM n).tt, .int .i64 (cutM n).g, .int .i64 (cutM n).nd, .int .i64 (cutM n).tr, .int .i64 (cutM n).lw, .int .i64 (cutM n).co, .int .i64 (cutM n).ti, .slice tB0 (cutM n).tl.length td0, .slice oB (cutM n).os.length od] [] [.int .i64 n.kd, .int .i64 n.fr, .int .i64 n.tt, .int .i64 n.g, .int .i64 n.nd, .int .i64 n.tr, .int .i64 n.lw, .int .i64 n.co, .int .i64 n.ti, .slice tB0 n.tl.length td0, .slice oB0 n.os.length od0] W5 rfl HM5.out.2)
        have HT6 : Hid (Touch (fun k => k = w.heap.size ∨ k = w.heap.size + 1) w4 W6) := Lib.hid (by rw [hS6]; exact setCells_touch (w.heap.size + 1) (fun _ => .inr rfl) [.int .i64 (cutM n).kd, .int .i64 (cutM n).fr, .int .i64 (cutM n).tt, .int .i64 (cutM n).g, .int .i64 (cutM n).nd, .int .i64 (cutM n).tr, .int .i64 (cutM n).lw, .int .i64 (cutM n).co, .int .i64 (cutM n).ti, .slice tB0 (cutM n).tl.length td0, .slice oB (cutM n).os.length od] 0 W5 HT5.out)
        clear hW6 hS6 c0 f0 c1 f1 c2 f2 c3 f3 c4 f4 c5 f5 c6 f6 c7 f7 c8 f8 c9 f9 c10 f10
        refine wpAnyH_done (by kernel_rfl) ?_ _
        clear hHeld
        dsimp only [onlyN]
        go_wp2_with fail
        go_meet
        exact boxes_of (HB2.out.trans (HB4.out.mono HB2.out.size)) (by have := HSZ.out; show w.heap.size + 2 ≤ W2.heap.size; omega) (by have := HSZ.out; have := HB3.out.size; omega) HNA.out.1 HO1.out HB34.out HNA.out.2 HO2.out (KeysIn.cut m) (KeysIn.cut n) HT6.out HM6.out HZ6.out
      · skip
        have hl := HA2.out.2
        have l0 := cell_of hl 0
        have l1 := cell_of hl 1
        have l2 := cell_of hl 2
        have l3 := cell_of hl 3
        have l4 := cell_of hl 4
        have l5 := cell_of hl 5
        have l6 := cell_of hl 6
        have l7 := cell_of hl 7
        have l8 := cell_of hl 8
        have l9 := cell_of hl 9
        have l10 := cell_of hl 10
        simp at l0 l1 l2 l3 l4 l5 l6 l7 l8 l9 l10
        clear hl
        refine AllReadyH.cons (o := { dst := some 11, op := Op.load 26 (Operand.tmp 5), type := 26, pos := "law.go:88", after := #[], guard := none }) rfl (fun K hK => ?step7) ?more7
        case more7 => exact AllReadyH.nil
        ((go_simp))
        refine hK.out _ _ ?hS7 (fun hHeld => ?rr7)
        case hS7 => (trivial)
        clear hK K
        try simp only [Act.put, List.setIfInBounds_toArray, List.set_cons_zero, List.set_cons_succ]
        clear l0 l1 l2 l3 l4 l5 l6 l7 l8 l9 l10
        refine wpAnyH_ready (rs := [1]) (by kernel_rfl) (by simp) ?_
        refine AllReadyH.cons (o := { dst := some 10, op := Op.call { callee := Callee.value (Operand.func 4), args := #[Operand.tmp 9], argTypes := #[26] }, type := 26, pos := "law.go:88", after := #[{ on := 0, ground := Ground.data }], guard := none }) rfl (fun K hK => ?step8) ?more8
        case more8 => exact AllReadyH.nil
        ((go_simp; go_at_call 4; refine (HC1.out _ (below_drew HB2.out)).mono ?_; rintro e w3 ⟨oA, oc, rfl, hn1, ho1, hb3⟩; have HO1 := Lib.hid ho1; have HB3 := Lib.hid (below_of_drew hb3); clear hn1 ho1 hb3; go_wp2_with fail))
        refine hK.out _ _ ?hS8 (fun hHeld => ?rr8)
        case hS8 => (trivial)
        clear hK K
        try simp only [Act.put, List.setIfInBounds_toArray, List.set_cons_zero, List.set_cons_succ]
        refine wpAnyH_ready (rs := [3]) (by kernel_rfl) (by simp) ?_
        refine AllReadyH.cons (o := { dst := some 12, op := Op.call { callee := Callee.value (Operand.func 4), args := #[Operand.tmp 11], argTypes := #[26] }, type := 26, pos := "law.go:88", after := #[{ on := 2, ground := Ground.data }, { on := 1, ground := Ground.chain }], guard := none }) rfl (fun K hK => ?step9) ?more9
        case more9 => exact AllReadyH.nil
        ((go_simp; go_at_call 4; refine (HC2.out _ (HB2.out.trans (HB3.out.mono HB2.out.size))).mono ?_; rintro e w4 ⟨oB, od, rfl, hn2, ho2, hb4⟩; have HO2 := Lib.hid ho2; have HB4 := Lib.hid (HB3.out.trans (hb4.mono HB3.out.size)); have HB34 := Lib.hid hb4; clear hn2 ho2 hb4; go_wp2_with fail))
        refine hK.out _ _ ?hS9 (fun hHeld => ?rr9)
        case hS9 => (trivial)
        clear hK K
        try simp only [Act.put, List.setIfInBounds_toArray, List.set_cons_zero, List.set_cons_succ]
        have hM4 := (HB4.out.block w.heap.size (heap_lt HA2.out.1)).trans HA2.out.1
        have hZ4 := (HB4.out.block (w.heap.size + 1) (heap_lt HA2.out.2)).trans HA2.out.2
        have c0 := cell_of hM4 0
        have c1 := cell_of hM4 1
        have c2 := cell_of hM4 2
        have c3 := cell_of hM4 3
        have c4 := cell_of hM4 4
        have c5 := cell_of hM4 5
        have c6 := cell_of hM4 6
        have c7 := cell_of hM4 7
        have c8 := cell_of hM4 8
        have c9 := cell_of hM4 9
        have c10 := cell_of hM4 10
        have f0 := free0 hM4 0
        have f1 := free0 hM4 1
        have f2 := free0 hM4 2
        have f3 := free0 hM4 3
        have f4 := free0 hM4 4
        have f5 := free0 hM4 5
        have f6 := free0 hM4 6
        have f7 := free0 hM4 7
        have f8 := free0 hM4 8
        have f9 := free0 hM4 9
        have f10 := free0 hM4 10
        simp at c0 c1 c2 c3 c4 c5 c6 c7 c8 c9 c10
        have HM4 := Lib.hid hM4
        have HZ4 := Lib.hid hZ4
        clear hM4 hZ4
        refine wpAnyH_ready (rs := [4]) (by kernel_rfl) (by simp) ?_
        refine AllReadyH.cons (o := { dst := none, op := Op.store 26 (Operand.tmp 3) (Operand.tmp 10), type := 0, pos := "law.go:88", after := #[{ on := 1, ground := Ground.data }, { on := 3, ground := Ground.chain }, { on := 0, ground := Ground.phase }, { on := 1, ground := Ground.phase }, { on := 2, ground := Ground.textOnly Departure.lateStores }, { on := 3, ground := Ground.textOnly Departure.lateStoresUnsure }], guard := none }) rfl (fun K hK => ?step10) ?more10
        case more10 => exact AllReadyH.nil
        ((go_simp))
        refine hK.out _ _ ?hS10 (fun hHeld => ?rr10)
        case hS10 => (trivial)
        clear hK K
        try simp only [Act.put, List.setIfInBounds_toArray, List.set_cons_zero, List.set_cons_succ]
        obtain ⟨W5, hW5⟩ : ∃ W, W = (World.setCell (World.setCell (World.setCell (World.setCell (World.setCell (World.setCell (World.setCell (World.setCell (World.setCell (World.setCell (World.setCell w4 ⟨w.heap.size, 0, none⟩ (.int .i64 (cutM m).kd)) ⟨w.heap.size, 1, none⟩ (.int .i64 (cutM m).fr)) ⟨w.heap.size, 2, none⟩ (.int .i64 (cutM m).tt)) ⟨w.heap.size, 3, none⟩ (.int .i64 (cutM m).g)) ⟨w.heap.size, 4, none⟩ (.int .i64 (cutM m).nd)) ⟨w.heap.size, 5, none⟩ (.int .i64 (cutM m).tr)) ⟨w.heap.size, 6, none⟩ (.int .i64 (cutM m).lw)) ⟨w.heap.size, 7, none⟩ (.int .i64 (cutM m).co)) ⟨w.heap.size, 8, none⟩ (.int .i64 (cutM m).ti)) ⟨w.heap.size, 9, none⟩ (.slice tA0 (cutM m).tl.length tc0)) ⟨w.heap.size, 10, none⟩ (.slice oA (cutM m).os.length oc)) := ⟨_, rfl⟩
        rw [← hW5]
        have hS5 : W5 = w4.setCells w.heap.size 0 [.int .i64 (cutM m).kd, .int .i64 (cutM m).fr, .int .i64 (cutM m).tt, .int .i64 (cutM m).g, .int .i64 (cutM m).nd, .int .i64 (cutM m).tr, .int .i64 (cutM m).lw, .int .i64 (cutM m).co, .int .i64 (cutM m).ti, .slice tA0 (cutM m).tl.length tc0, .slice oA (cutM m).os.length oc] := hW5
        have hM5 : W5.heap[w.heap.size]? = some (.cells (cellM (cutM m) tA0 tc0 oA oc) 26 (0, 0)) := by rw [hS5]; exact setCells_at w.heap.size [.int .i64 (cutM m).kd, .int .i64 (cutM m).fr, .int .i64 (cutM m).tt, .int .i64 (cutM m).g, .int .i64 (cutM m).nd, .int .i64 (cutM m).tr, .int .i64 (cutM m).lw, .int .i64 (cutM m).co, .int .i64 (cutM m).ti, .slice tA0 (cutM m).tl.length tc0, .slice oA (cutM m).os.length oc] [] [.int .i64 m.kd, .int .i64 m.fr, .int .i64 m.tt, .int .i64 m.g, .int .i64 m.nd, .int .i64 m.tr, .int .i64 m.lw, .int .i64 m.co, .int .i64 m.ti, .slice tA0 m.tl.length tc0, .slice oA0 m.os.length oc0] w4 rfl HM4.out
        have hZ5 : W5.heap[w.heap.size + 1]? = some (.cells (cellM n tB0 td0 oB0 od0) 26 (0, 0)) := by rw [hS5]; exact (setCells_block w.heap.size [.int .i64 (cutM m).kd, .int .i64 (cutM m).fr, .int .i64 (cutM m).tt, .int .i64 (cutM m).g, .int .i64 (cutM m).nd, .int .i64 (cutM m).tr, .int .i64 (cutM m).lw, .int .i64 (cutM m).co, .int .i64 (cutM m).ti, .slice tA0 (cutM m).tl.length tc0, .slice oA (cutM m).os.length oc] 0 w4 _ (by omega)).trans HZ4.out
        have HT5 : Hid (Touch (fun k => k = w.heap.size ∨ k = w.heap.size + 1) w4 W5) := Lib.hid (by rw [hS5]; exact setCells_touch w.heap.size (fun _ => .inl rfl) [.int .i64 (cutM m).kd, .int .i64 (cutM m).fr, .int .i64 (cutM m).tt, .int .i64 (cutM m).g, .int .i64 (cutM m).nd, .int .i64 (cutM m).tr, .int .i64 (cutM m).lw, .int .i64 (cutM m).co, .int .i64 (cutM m).ti, .slice tA0 (cutM m).tl.length tc0, .slice oA (cutM m).os.length oc] 0 w4 (Touch.refl _ _))
        clear hW5 hS5 c0 f0 c1 f1 c2 f2 c3 f3 c4 f4 c5 f5 c6 f6 c7 f7 c8 f8 c9 f9 c10 f10
        have c0 := cell_of hZ5 0
        have c1 := cell_of hZ5 1
        have c2 := cell_of hZ5 2
        have c3 := cell_of hZ5 3
        have c4 := cell_of hZ5 4
        have c5 := cell_of hZ5 5
        have c6 := cell_of hZ5 6
        have c7 := cell_of hZ5 7
        have c8 := cell_of hZ5 8
        have c9 := cell_of hZ5 9
        have c10 := cell_of hZ5 10
        have f0 := free0 hZ5 0
        have f1 := free0 hZ5 1
        have f2 := free0 hZ5 2
        have f3 := free0 hZ5 3
        have f4 := free0 hZ5 4
        have f5 := free0 hZ5 5
        have f6 := free0 hZ5 6
        have f7 := free0 hZ5 7
        have f8 := free0 hZ5 8
        have f9 := free0 hZ5 9
        have f10 := free0 hZ5 10
        simp at c0 c1 c2 c3 c4 c5 c6 c7 c8 c9 c10
        have HM5 := Lib.hid (And.intro hM5 hZ5)
        clear hM5 hZ5
        refine wpAnyH_ready (rs := [5]) (by kernel_rfl) (by simp) ?_
        refine AllReadyH.cons (o := { dst := none, op := Op.store 26 (Operand.tmp 5) (Operand.tmp 12), type := 0, pos := "law.go:88", after := #[{ on := 3, ground := Ground.data }, { on := 4, ground := Ground.chain }, { on := 0, ground := Ground.phase }, { on := 1, ground := Ground.phase }, { on := 2, ground := Ground.phase }, { on := 3, ground := Ground.phase }, { on := 4, ground := Ground.phase }], guard := none }) rfl (fun K hK => ?step11) ?more11
        case more11 => exact AllReadyH.nil
        ((go_simp))
        refine hK.out _ _ ?hS11 (fun hHeld => ?rr11)
        case hS11 => (trivial)
        clear hK K
        try simp only [Act.put, List.setIfInBounds_toArray, List.set_cons_zero, List.set_cons_succ]
        obtain ⟨W6, hW6⟩ : ∃ W, W = (World.setCell (World.setCell (World.setCell (World.setCell (World.setCell (World.setCell (World.setCell (World.setCell (World.setCell (World.setCell (World.setCell W5 ⟨(w.heap.size + 1), 0, none⟩ (.int .i64 (cutM n).kd)) ⟨(w.heap.size + 1), 1, none⟩ (.int .i64 (cutM n).fr)) ⟨(w.heap.size + 1), 2, none⟩ (.int .i64 (cutM n).tt)) ⟨(w.heap.size + 1), 3, none⟩ (.int .i64 (cutM n).g)) ⟨(w.heap.size + 1), 4, none⟩ (.int .i64 (cutM n).nd)) ⟨(w.heap.size + 1), 5, none⟩ (.int .i64 (cutM n).tr)) ⟨(w.heap.size + 1), 6, none⟩ (.int .i64 (cutM n).lw)) ⟨(w.heap.size + 1), 7, none⟩ (.int .i64 (cutM n).co)) ⟨(w.heap.size + 1), 8, none⟩ (.int .i64 (cutM n).ti)) ⟨(w.heap.size + 1), 9, none⟩ (.slice tB0 (cutM n).tl.length td0)) ⟨(w.heap.size + 1), 10, none⟩ (.slice oB (cutM n).os.length od)) := ⟨_, rfl⟩
        rw [← hW6]
        have hS6 : W6 = W5.setCells (w.heap.size + 1) 0 [.int .i64 (cutM n).kd, .int .i64 (cutM n).fr, .int .i64 (cutM n).tt, .int .i64 (cutM n).g, .int .i64 (cutM n).nd, .int .i64 (cutM n).tr, .int .i64 (cutM n).lw, .int .i64 (cutM n).co, .int .i64 (cutM n).ti, .slice tB0 (cutM n).tl.length td0, .slice oB (cutM n).os.length od] := hW6
        have HM6 : Hid (W6.heap[w.heap.size]? = some (.cells (cellM (cutM m) tA0 tc0 oA oc) 26 (0, 0))) := Lib.hid (by rw [hS6]; exact (setCells_block (w.heap.size + 1) [.int .i64 (cutM n).kd, .int .i64 (cutM n).fr, .int .i64 (cutM n).tt, .int .i64 (cutM n).g, .int .i64 (cutM n).nd, .int .i64 (cutM n).tr, .int .i64 (cutM n).lw, .int .i64 (cutM n).co, .int .i64 (cutM n).ti, .slice tB0 (cutM n).tl.length td0, .slice oB (cutM n).os.length od] 0 W5 _ (by omega)).trans HM5.out.1)
        have HZ6 : Hid (W6.heap[w.heap.size + 1]? = some (.cells (cellM (cutM n) tB0 td0 oB od) 26 (0, 0))) := Lib.hid (by rw [hS6]; exact setCells_at (w.heap.size + 1) [.int .i64 (cutM n).kd, .int .i64 (cutM n).fr, .int .i64 (cutM n).tt, .int .i64 (cutM n).g, .int .i64 (cutM n).nd, .int .i64 (cutM n).tr, .int .i64 (cutM n).lw, .int .i64 (cutM n).co, .int .i64 (cutM n).ti, .slice tB0 (cutM n).tl.length td0, .slice oB (cutM n).os.length od] [] [.int .i64 n.kd, .int .i64 n.fr, .int .i64 n.tt, .int .i64 n.g, .int .i64 n.nd, .int .i64 n.tr, .int .i64 n.lw, .int .i64 n.co, .int .i64 n.ti, .slice tB0 n.tl.length td0, .slice oB0 n.os.length od0] W5 rfl HM5.out.2)
        have HT6 : Hid (Touch (fun k => k = w.heap.size ∨ k = w.heap.size + 1) w4 W6) := Lib.hid (by rw [hS6]; exact setCells_touch (w.heap.size + 1) (fun _ => .inr rfl) [.int .i64 (cutM n).kd, .int .i64 (cutM n).fr, .int .i64 (cutM n).tt, .int .i64 (cutM n).g, .int .i64 (cutM n).nd, .int .i64 (cutM n).tr, .int .i64 (cutM n).lw, .int .i64 (cutM n).co, .int .i64 (cutM n).ti, .slice tB0 (cutM n).tl.length td0, .slice oB (cutM n).os.length od] 0 W5 HT5.out)
        clear hW6 hS6 c0 f0 c1 f1 c2 f2 c3 f3 c4 f4 c5 f5 c6 f6 c7 f7 c8 f8 c9 f9 c10 f10
        refine wpAnyH_done (by kernel_rfl) ?_ _
        clear hHeld
        dsimp only [onlyN]
        go_wp2_with fail
        go_meet
        exact boxes_of (HB2.out.trans (HB4.out.mono HB2.out.size)) (by have := HSZ.out; show w.heap.size + 2 ≤ W2.heap.size; omega) (by have := HSZ.out; have := HB3.out.size; omega) HNA.out.1 HO1.out HB34.out HNA.out.2 HO2.out (KeysIn.cut m) (KeysIn.cut n) HT6.out HM6.out HZ6.out
    · skip
      clear l0 l1 l2 l3 l4 l5 l6 l7 l8 l9 l10
      have hl := HA2.out.2
      have l0 := cell_of hl 0
      have l1 := cell_of hl 1
      have l2 := cell_of hl 2
      have l3 := cell_of hl 3
      have l4 := cell_of hl 4
      have l5 := cell_of hl 5
      have l6 := cell_of hl 6
      have l7 := cell_of hl 7
      have l8 := cell_of hl 8
      have l9 := cell_of hl 9
      have l10 := cell_of hl 10
      simp at l0 l1 l2 l3 l4 l5 l6 l7 l8 l9 l10
      clear hl
      refine AllReadyH.cons (o := { dst := some 11, op := Op.load 26 (Operand.tmp 5), type := 26, pos := "law.go:88", after := #[], guard := none }) rfl (fun K hK => ?step12) ?more12
      case more12 => exact AllReadyH.nil
      ((go_simp))
      refine hK.out _ _ ?hS12 (fun hHeld => ?rr12)
      case hS12 => (trivial)
      clear hK K
      try simp only [Act.put, List.setIfInBounds_toArray, List.set_cons_zero, List.set_cons_succ]
      clear l0 l1 l2 l3 l4 l5 l6 l7 l8 l9 l10
      refine wpAnyH_ready (rs := [0]) (by kernel_rfl) (by simp) ?_
      have hl := HA2.out.1
      have l0 := cell_of hl 0
      have l1 := cell_of hl 1
      have l2 := cell_of hl 2
      have l3 := cell_of hl 3
      have l4 := cell_of hl 4
      have l5 := cell_of hl 5
      have l6 := cell_of hl 6
      have l7 := cell_of hl 7
      have l8 := cell_of hl 8
      have l9 := cell_of hl 9
      have l10 := cell_of hl 10
      simp at l0 l1 l2 l3 l4 l5 l6 l7 l8 l9 l10
      clear hl
      refine AllReadyH.cons (o := { dst := some 9, op := Op.load 26 (Operand.tmp 3), type := 26, pos := "law.go:88", after := #[], guard := none }) rfl (fun K hK => ?step13) ?more13
      case more13 => exact AllReadyH.nil
      ((go_simp))
      refine hK.out _ _ ?hS13 (fun hHeld => ?rr13)
      case hS13 => (trivial)
      clear hK K
      try simp only [Act.put, List.setIfInBounds_toArray, List.set_cons_zero, List.set_cons_succ]
      clear l0 l1 l2 l3 l4 l5 l6 l7 l8 l9 l10
      refine wpAnyH_ready (rs := [1]) (by kernel_rfl) (by simp) ?_
      refine AllReadyH.cons (o := { dst := some 10, op := Op.call { callee := Callee.value (Operand.func 4), args := #[Operand.tmp 9], argTypes := #[26] }, type := 26, pos := "law.go:88", after := #[{ on := 0, ground := Ground.data }], guard := none }) rfl (fun K hK => ?step14) ?more14
      case more14 => exact AllReadyH.nil
      ((go_simp; go_at_call 4; refine (HC1.out _ (below_drew HB2.out)).mono ?_; rintro e w3 ⟨oA, oc, rfl, hn1, ho1, hb3⟩; have HO1 := Lib.hid ho1; have HB3 := Lib.hid (below_of_drew hb3); clear hn1 ho1 hb3; go_wp2_with fail))
      refine hK.out _ _ ?hS14 (fun hHeld => ?rr14)
      case hS14 => (trivial)
      clear hK K
      try simp only [Act.put, List.setIfInBounds_toArray, List.set_cons_zero, List.set_cons_succ]
      refine wpAnyH_ready (rs := [3]) (by kernel_rfl) (by simp) ?_
      refine AllReadyH.cons (o := { dst := some 12, op := Op.call { callee := Callee.value (Operand.func 4), args := #[Operand.tmp 11], argTypes := #[26] }, type := 26, pos := "law.go:88", after := #[{ on := 2, ground := Ground.data }, { on := 1, ground := Ground.chain }], guard := none }) rfl (fun K hK => ?step15) ?more15
      case more15 => exact AllReadyH.nil
      ((go_simp; go_at_call 4; refine (HC2.out _ (HB2.out.trans (HB3.out.mono HB2.out.size))).mono ?_; rintro e w4 ⟨oB, od, rfl, hn2, ho2, hb4⟩; have HO2 := Lib.hid ho2; have HB4 := Lib.hid (HB3.out.trans (hb4.mono HB3.out.size)); have HB34 := Lib.hid hb4; clear hn2 ho2 hb4; go_wp2_with fail))
      refine hK.out _ _ ?hS15 (fun hHeld => ?rr15)
      case hS15 => (trivial)
      clear hK K
      try simp only [Act.put, List.setIfInBounds_toArray, List.set_cons_zero, List.set_cons_succ]
      have hM4 := (HB4.out.block w.heap.size (heap_lt HA2.out.1)).trans HA2.out.1
      have hZ4 := (HB4.out.block (w.heap.size + 1) (heap_lt HA2.out.2)).trans HA2.out.2
      have c0 := cell_of hM4 0
      have c1 := cell_of hM4 1
      have c2 := cell_of hM4 2
      have c3 := cell_of hM4 3
      have c4 := cell_of hM4 4
      have c5 := cell_of hM4 5
      have c6 := cell_of hM4 6
      have c7 := cell_of hM4 7
      have c8 := cell_of hM4 8
      have c9 := cell_of hM4 9
      have c10 := cell_of hM4 10
      have f0 := free0 hM4 0
      have f1 := free0 hM4 1
      have f2 := free0 hM4 2
      have f3 := free0 hM4 3
      have f4 := free0 hM4 4
      have f5 := free0 hM4 5
      have f6 := free0 hM4 6
      have f7 := free0 hM4 7
      have f8 := free0 hM4 8
      have f9 := free0 hM4 9
      have f10 := free0 hM4 10
      simp at c0 c1 c2 c3 c4 c5 c6 c7 c8 c9 c10
      have HM4 := Lib.hid hM4
      have HZ4 := Lib.hid hZ4
      clear hM4 hZ4
      refine wpAnyH_ready (rs := [4]) (by kernel_rfl) (by simp) ?_
      refine AllReadyH.cons (o := { dst := none, op := Op.store 26 (Operand.tmp 3) (Operand.tmp 10), type := 0, pos := "law.go:88", after := #[{ on := 1, ground := Ground.data }, { on := 3, ground := Ground.chain }, { on := 0, ground := Ground.phase }, { on := 1, ground := Ground.phase }, { on := 2, ground := Ground.textOnly Departure.lateStores }, { on := 3, ground := Ground.textOnly Departure.lateStoresUnsure }], guard := none }) rfl (fun K hK => ?step16) ?more16
      case more16 => exact AllReadyH.nil
      ((go_simp))
      refine hK.out _ _ ?hS16 (fun hHeld => ?rr16)
      case hS16 => (trivial)
      clear hK K
      try simp only [Act.put, List.setIfInBounds_toArray, List.set_cons_zero, List.set_cons_succ]
      obtain ⟨W5, hW5⟩ : ∃ W, W = (World.setCell (World.setCell (World.setCell (World.setCell (World.setCell (World.setCell (World.setCell (World.setCell (World.setCell (World.setCell (World.setCell w4 ⟨w.heap.size, 0, none⟩ (.int .i64 (cutM m).kd)) ⟨w.heap.size, 1, none⟩ (.int .i64 (cutM m).fr)) ⟨w.heap.size, 2, none⟩ (.int .i64 (cutM m).tt)) ⟨w.heap.size, 3, none⟩ (.int .i64 (cutM m).g)) ⟨w.heap.size, 4, none⟩ (.int .i64 (cutM m).nd)) ⟨w.heap.size, 5, none⟩ (.int .i64 (cutM m).tr)) ⟨w.heap.size, 6, none⟩ (.int .i64 (cutM m).lw)) ⟨w.heap.size, 7, none⟩ (.int .i64 (cutM m).co)) ⟨w.heap.size, 8, none⟩ (.int .i64 (cutM m).ti)) ⟨w.heap.size, 9, none⟩ (.slice tA0 (cutM m).tl.length tc0)) ⟨w.heap.size, 10, none⟩ (.slice oA (cutM m).os.length oc)) := ⟨_, rfl⟩
      rw [← hW5]
      have hS5 : W5 = w4.setCells w.heap.size 0 [.int .i64 (cutM m).kd, .int .i64 (cutM m).fr, .int .i64 (cutM m).tt, .int .i64 (cutM m).g, .int .i64 (cutM m).nd, .int .i64 (cutM m).tr, .int .i64 (cutM m).lw, .int .i64 (cutM m).co, .int .i64 (cutM m).ti, .slice tA0 (cutM m).tl.length tc0, .slice oA (cutM m).os.length oc] := hW5
      have hM5 : W5.heap[w.heap.size]? = some (.cells (cellM (cutM m) tA0 tc0 oA oc) 26 (0, 0)) := by rw [hS5]; exact setCells_at w.heap.size [.int .i64 (cutM m).kd, .int .i64 (cutM m).fr, .int .i64 (cutM m).tt, .int .i64 (cutM m).g, .int .i64 (cutM m).nd, .int .i64 (cutM m).tr, .int .i64 (cutM m).lw, .int .i64 (cutM m).co, .int .i64 (cutM m).ti, .slice tA0 (cutM m).tl.length tc0, .slice oA (cutM m).os.length oc] [] [.int .i64 m.kd, .int .i64 m.fr, .int .i64 m.tt, .int .i64 m.g, .int .i64 m.nd, .int .i64 m.tr, .int .i64 m.lw, .int .i64 m.co, .int .i64 m.ti, .slice tA0 m.tl.length tc0, .slice oA0 m.os.length oc0] w4 rfl HM4.out
      have hZ5 : W5.heap[w.heap.size + 1]? = some (.cells (cellM n tB0 td0 oB0 od0) 26 (0, 0)) := by rw [hS5]; exact (setCells_block w.heap.size [.int .i64 (cutM m).kd, .int .i64 (cutM m).fr, .int .i64 (cutM m).tt, .int .i64 (cutM m).g, .int .i64 (cutM m).nd, .int .i64 (cutM m).tr, .int .i64 (cutM m).lw, .int .i64 (cutM m).co, .int .i64 (cutM m).ti, .slice tA0 (cutM m).tl.length tc0, .slice oA (cutM m).os.length oc] 0 w4 _ (by omega)).trans HZ4.out
      have HT5 : Hid (Touch (fun k => k = w.heap.size ∨ k = w.heap.size + 1) w4 W5) := Lib.hid (by rw [hS5]; exact setCells_touch w.heap.size (fun _ => .inl rfl) [.int .i64 (cutM m).kd, .int .i64 (cutM m).fr, .int .i64 (cutM m).tt, .int .i64 (cutM m).g, .int .i64 (cutM m).nd, .int .i64 (cutM m).tr, .int .i64 (cutM m).lw, .int .i64 (cutM m).co, .int .i64 (cutM m).ti, .slice tA0 (cutM m).tl.length tc0, .slice oA (cutM m).os.length oc] 0 w4 (Touch.refl _ _))
      clear hW5 hS5 c0 f0 c1 f1 c2 f2 c3 f3 c4 f4 c5 f5 c6 f6 c7 f7 c8 f8 c9 f9 c10 f10
      have c0 := cell_of hZ5 0
      have c1 := cell_of hZ5 1
      have c2 := cell_of hZ5 2
      have c3 := cell_of hZ5 3
      have c4 := cell_of hZ5 4
      have c5 := cell_of hZ5 5
      have c6 := cell_of hZ5 6
      have c7 := cell_of hZ5 7
      have c8 := cell_of hZ5 8
      have c9 := cell_of hZ5 9
      have c10 := cell_of hZ5 10
      have f0 := free0 hZ5 0
      have f1 := free0 hZ5 1
      have f2 := free0 hZ5 2
      have f3 := free0 hZ5 3
      have f4 := free0 hZ5 4
      have f5 := free0 hZ5 5
      have f6 := free0 hZ5 6
      have f7 := free0 hZ5 7
      have f8 := free0 hZ5 8
      have f9 := free0 hZ5 9
      have f10 := free0 hZ5 10
      simp at c0 c1 c2 c3 c4 c5 c6 c7 c8 c9 c10
      have HM5 := Lib.hid (And.intro hM5 hZ5)
      clear hM5 hZ5
      refine wpAnyH_ready (rs := [5]) (by kernel_rfl) (by simp) ?_
      refine AllReadyH.cons (o := { dst := none, op := Op.store 26 (Operand.tmp 5) (Operand.tmp 12), type := 0, pos := "law.go:88", after := #[{ on := 3, ground := Ground.data }, { on := 4, ground := Ground.chain }, { on := 0, ground := Ground.phase }, { on := 1, ground := Ground.phase }, { on := 2, ground := Ground.phase }, { on := 3, ground := Ground.phase }, { on := 4, ground := Ground.phase }], guard := none }) rfl (fun K hK => ?step17) ?more17
      case more17 => exact AllReadyH.nil
      ((go_simp))
      refine hK.out _ _ ?hS17 (fun hHeld => ?rr17)
      case hS17 => (trivial)
      clear hK K
      try simp only [Act.put, List.setIfInBounds_toArray, List.set_cons_zero, List.set_cons_succ]
      obtain ⟨W6, hW6⟩ : ∃ W, W = (World.setCell (World.setCell (World.setCell (World.setCell (World.setCell (World.setCell (World.setCell (World.setCell (World.setCell (World.setCell (World.setCell W5 ⟨(w.heap.size + 1), 0, none⟩ (.int .i64 (cutM n).kd)) ⟨(w.heap.size + 1), 1, none⟩ (.int .i64 (cutM n).fr)) ⟨(w.heap.size + 1), 2, none⟩ (.int .i64 (cutM n).tt)) ⟨(w.heap.size + 1), 3, none⟩ (.int .i64 (cutM n).g)) ⟨(w.heap.size + 1), 4, none⟩ (.int .i64 (cutM n).nd)) ⟨(w.heap.size + 1), 5, none⟩ (.int .i64 (cutM n).tr)) ⟨(w.heap.size + 1), 6, none⟩ (.int .i64 (cutM n).lw)) ⟨(w.heap.size + 1), 7, none⟩ (.int .i64 (cutM n).co)) ⟨(w.heap.size + 1), 8, none⟩ (.int .i64 (cutM n).ti)) ⟨(w.heap.size + 1), 9, none⟩ (.slice tB0 (cutM n).tl.length td0)) ⟨(w.heap.size + 1), 10, none⟩ (.slice oB (cutM n).os.length od)) := ⟨_, rfl⟩
      rw [← hW6]
      have hS6 : W6 = W5.setCells (w.heap.size + 1) 0 [.int .i64 (cutM n).kd, .int .i64 (cutM n).fr, .int .i64 (cutM n).tt, .int .i64 (cutM n).g, .int .i64 (cutM n).nd, .int .i64 (cutM n).tr, .int .i64 (cutM n).lw, .int .i64 (cutM n).co, .int .i64 (cutM n).ti, .slice tB0 (cutM n).tl.length td0, .slice oB (cutM n).os.length od] := hW6
      have HM6 : Hid (W6.heap[w.heap.size]? = some (.cells (cellM (cutM m) tA0 tc0 oA oc) 26 (0, 0))) := Lib.hid (by rw [hS6]; exact (setCells_block (w.heap.size + 1) [.int .i64 (cutM n).kd, .int .i64 (cutM n).fr, .int .i64 (cutM n).tt, .int .i64 (cutM n).g, .int .i64 (cutM n).nd, .int .i64 (cutM n).tr, .int .i64 (cutM n).lw, .int .i64 (cutM n).co, .int .i64 (cutM n).ti, .slice tB0 (cutM n).tl.length td0, .slice oB (cutM n).os.length od] 0 W5 _ (by omega)).trans HM5.out.1)
      have HZ6 : Hid (W6.heap[w.heap.size + 1]? = some (.cells (cellM (cutM n) tB0 td0 oB od) 26 (0, 0))) := Lib.hid (by rw [hS6]; exact setCells_at (w.heap.size + 1) [.int .i64 (cutM n).kd, .int .i64 (cutM n).fr, .int .i64 (cutM n).tt, .int .i64 (cutM n).g, .int .i64 (cutM n).nd, .int .i64 (cutM n).tr, .int .i64 (cutM n).lw, .int .i64 (cutM n).co, .int .i64 (cutM n).ti, .slice tB0 (cutM n).tl.length td0, .slice oB (cutM n).os.length od] [] [.int .i64 n.kd, .int .i64 n.fr, .int .i64 n.tt, .int .i64 n.g, .int .i64 n.nd, .int .i64 n.tr, .int .i64 n.lw, .int .i64 n.co, .int .i64 n.ti, .slice tB0 n.tl.length td0, .slice oB0 n.os.length od0] W5 rfl HM5.out.2)
      have HT6 : Hid (Touch (fun k => k = w.heap.size ∨ k = w.heap.size + 1) w4 W6) := Lib.hid (by rw [hS6]; exact setCells_touch (w.heap.size + 1) (fun _ => .inr rfl) [.int .i64 (cutM n).kd, .int .i64 (cutM n).fr, .int .i64 (cutM n).tt, .int .i64 (cutM n).g, .int .i64 (cutM n).nd, .int .i64 (cutM n).tr, .int .i64 (cutM n).lw, .int .i64 (cutM n).co, .int .i64 (cutM n).ti, .slice tB0 (cutM n).tl.length td0, .slice oB (cutM n).os.length od] 0 W5 HT5.out)
      clear hW6 hS6 c0 f0 c1 f1 c2 f2 c3 f3 c4 f4 c5 f5 c6 f6 c7 f7 c8 f8 c9 f9 c10 f10
      refine wpAnyH_done (by kernel_rfl) ?_ _
      clear hHeld
      dsimp only [onlyN]
      go_wp2_with fail
      go_meet
      exact boxes_of (HB2.out.trans (HB4.out.mono HB2.out.size)) (by have := HSZ.out; show w.heap.size + 2 ≤ W2.heap.size; omega) (by have := HSZ.out; have := HB3.out.size; omega) HNA.out.1 HO1.out HB34.out HNA.out.2 HO2.out (KeysIn.cut m) (KeysIn.cut n) HT6.out HM6.out HZ6.out
  · -- behind the cuts
    obtain ⟨hbx, tA, tc, oA, oc, tB, td, oB, od, h3, h5, hm, hn⟩ := hcut
    generalize cutM m = p at *
    generalize cutM n = q at *
    have HBX := Lib.hid hbx
    have HM := Lib.hid (And.intro h3 h5)
    have HMM0 := Lib.hid (And.intro hm hn)
    have HOU := Lib.hid (ours_any hm)
    have c0 := cell_of h3 0
    have c1 := cell_of h3 1
    have c2 := cell_of h3 2
    have c3 := cell_of h3 3
    have c4 := cell_of h3 4
    have c5 := cell_of h3 5
    have c6 := cell_of h3 6
    have c7 := cell_of h3 7
    have c8 := cell_of h3 8
    have c9 := cell_of h3 9
    have c10 := cell_of h3 10
    simp at c0 c1 c2 c3 c4 c5 c6 c7 c8 c9 c10
    clear hbx h3 h5 hm hn
    go_wp2_with fail
    refine (HOU.out).mono ?_
    rintro e w6 ⟨rfl, hb6⟩
    have HAN := Lib.hid (Answer_any (HMM0.out.1.below hb6) k)
    have HB6 := Lib.hid (HBX.out.trans (hb6.mono HBX.out.size))
    have HM6 := Lib.hid (And.intro ((hb6.block w.heap.size (heap_lt HM.out.1)).trans HM.out.1) ((hb6.block (w.heap.size + 1) (heap_lt HM.out.2)).trans HM.out.2))
    have HS6 := Lib.hid hb6
    clear hb6 c0 c1 c2 c3 c4 c5 c6 c7 c8 c9 c10
    go_wp2_with fail
    refine (HAN.out).mono ?_
    rintro e w7 ⟨va, rfl, hva, hb7⟩
    obtain ⟨xA, xc, yA, yc, rfl, hx0, hy0, _⟩ := hva
    have hx0 : NumsAt w7 (.slice xA 0 xc) [] := hx0
    have hy0 : OpsAt w7 (.slice yA 0 yc) [] := hy0
    have HN0 := Lib.hid (And.intro (nums_nil_any hx0) (ops_nil_any hy0))
    have HM7 := Lib.hid (And.intro ((hb7.block w.heap.size (heap_lt HM6.out.1)).trans HM6.out.1) ((hb7.block (w.heap.size + 1) (heap_lt HM6.out.2)).trans HM6.out.2))
    have HB7 := Lib.hid (HB6.out.trans (hb7.mono HB6.out.size))
    have HMM := Lib.hid (fun W (hW : Below w7.heap.size w7 W) => And.intro (HMM0.out.1.below (HS6.out.trans ((hb7.trans (hW.mono hb7.size)).mono HS6.out.size))) (HMM0.out.2.below (HS6.out.trans ((hb7.trans (hW.mono hb7.size)).mono HS6.out.size))))
    have hz7 : w.heap.size < w7.heap.size := heap_lt HM7.out.1
    have hm7 := HM7.out.1
    have c0 := cell_of hm7 0
    have c1 := cell_of hm7 1
    have c2 := cell_of hm7 2
    have c3 := cell_of hm7 3
    have c4 := cell_of hm7 4
    have c5 := cell_of hm7 5
    have c6 := cell_of hm7 6
    have c7 := cell_of hm7 7
    have c8 := cell_of hm7 8
    have c9 := cell_of hm7 9
    have c10 := cell_of hm7 10
    simp at c0 c1 c2 c3 c4 c5 c6 c7 c8 c9 c10
    clear hb7 hx0 hy0 hm7 HAN HOU
    simp only [ansM, List.length_nil]
    by_cases hk : k = 11 ∨ k = 12 ∨ k = 14
    · rw [if_pos hk]
      have hkb : ((k == 11) = true) ∨ ((k == 11) = false ∧ (k == 12) = true) ∨ ((k == 11) = false ∧ (k == 12) = false ∧ (k == 14) = true) := by
        rcases hk with rfl | rfl | rfl <;> simp
      rcases hkb with h1 | ⟨h1, h2⟩ | ⟨h1, h2, h4⟩
      · skip
        have hb8 := (below_new (w := w7) (.cells #[.int .i64 k, .int .i64 p.tt, .int .i64 p.fr, .int .i64 p.g, .int .i64 p.nd, .int .i64 p.tr, .int .i64 0, .int .i64 0, .int .i64 0, .slice xA 0 xc, .slice yA 0 yc] 31)).trans ((below_new (w := w7.alloc (.cells #[.int .i64 k, .int .i64 p.tt, .int .i64 p.fr, .int .i64 p.g, .int .i64 p.nd, .int .i64 p.tr, .int .i64 0, .int .i64 0, .int .i64 0, .slice xA 0 xc, .slice yA 0 yc] 31)) (.cells #[.int .i64 k, .int .i64 p.tt, .int .i64 p.fr, .int .i64 p.g, .int .i64 p.nd, .int .i64 p.tr, .int .i64 0, .int .i64 0, .int .i64 0, .slice none 0 0, .slice none 0 0] 26)).mono (below_new (w := w7) (.cells #[.int .i64 k, .int .i64 p.tt, .int .i64 p.fr, .int .i64 p.g, .int .i64 p.nd, .int .i64 p.tr, .int .i64 0, .int .i64 0, .int .i64 0, .slice xA 0 xc, .slice yA 0 yc] 31)).size)
        have hA7 := alloc_at w7 (.cells #[.int .i64 k, .int .i64 p.tt, .int .i64 p.fr, .int .i64 p.g, .int .i64 p.nd, .int .i64 p.tr, .int .i64 0, .int .i64 0, .int .i64 0, .slice xA 0 xc, .slice yA 0 yc] 31)
        have hA8 := ((below_new (w := w7.alloc (.cells #[.int .i64 k, .int .i64 p.tt, .int .i64 p.fr, .int .i64 p.g, .int .i64 p.nd, .int .i64 p.tr, .int .i64 0, .int .i64 0, .int .i64 0, .slice xA 0 xc, .slice yA 0 yc] 31)) (.cells #[.int .i64 k, .int .i64 p.tt, .int .i64 p.fr, .int .i64 p.g, .int .i64 p.nd, .int .i64 p.tr, .int .i64 0, .int .i64 0, .int .i64 0, .slice none 0 0, .slice none 0 0] 26)).block w7.heap.size (heap_lt hA7)).trans hA7
        have hW8 := alloc_at (w7.alloc (.cells #[.int .i64 k, .int .i64 p.tt, .int .i64 p.fr, .int .i64 p.g, .int .i64 p.nd, .int .i64 p.tr, .int .i64 0, .int .i64 0, .int .i64 0, .slice xA 0 xc, .slice yA 0 yc] 31)) (.cells #[.int .i64 k, .int .i64 p.tt, .int .i64 p.fr, .int .i64 p.g, .int .i64 p.nd, .int .i64 p.tr, .int .i64 0, .int .i64 0, .int .i64 0, .slice none 0 0, .slice none 0 0] 26)
        rw [asz] at hW8
        obtain ⟨W8, hW8e⟩ : ∃ W, W = ((w7.alloc (.cells #[.int .i64 k, .int .i64 p.tt, .int .i64 p.fr, .int .i64 p.g, .int .i64 p.nd, .int .i64 p.tr, .int .i64 0, .int .i64 0, .int .i64 0, .slice xA 0 xc, .slice yA 0 yc] 31)).alloc (.cells #[.int .i64 k, .int .i64 p.tt, .int .i64 p.fr, .int .i64 p.g, .int .i64 p.nd, .int .i64 p.tr, .int .i64 0, .int .i64 0, .int .i64 0, .slice none 0 0, .slice none 0 0] 26)) := ⟨_, rfl⟩
        have HW8E := Lib.hid hW8e
        rw [← hW8e] at hb8 hA8 hW8
        have hM8 := (hb8.block w.heap.size (heap_lt HM7.out.1)).trans HM7.out.1
        have hN8 := (hb8.block (w.heap.size + 1) (heap_lt HM7.out.2)).trans HM7.out.2
        have HB8 := Lib.hid (HB7.out.trans (hb8.mono HB7.out.size))
        have HPM : Hid (∀ W, Below W8.heap.size W8 W → MsgIs W (.agg #[.int .i64 p.kd, .int .i64 p.fr, .int .i64 p.tt, .int .i64 p.g, .int .i64 p.nd, .int .i64 p.tr, .int .i64 p.lw, .int .i64 p.co, .int .i64 p.ti, .slice tA p.tl.length tc, .slice oA p.os.length oc]) p ∧ MsgIs W (.agg #[.int .i64 q.kd, .int .i64 q.fr, .int .i64 q.tt, .int .i64 q.g, .int .i64 q.nd, .int .i64 q.tr, .int .i64 q.lw, .int .i64 q.co, .int .i64 q.ti, .slice tB q.tl.length td, .slice oB q.os.length od]) q ∧ MsgIs W (.agg #[.int .i64 k, .int .i64 p.tt, .int .i64 p.fr, .int .i64 p.g, .int .i64 p.nd, .int .i64 p.tr, .int .i64 0, .int .i64 0, .int .i64 0, .slice xA 0 xc, .slice yA 0 yc]) (ansM p k) ∧ MsgIs W (.agg #[.int .i64 k, .int .i64 p.tt, .int .i64 p.fr, .int .i64 p.g, .int .i64 p.nd, .int .i64 p.tr, .int .i64 0, .int .i64 0, .int .i64 0, .slice none 0 0, .slice none 0 0]) (ansM p k)) := Lib.hid (fun W hW => by
          have h := HMM.out W (hb8.trans (hW.mono hb8.size))
          refine ⟨h.1, h.2, ⟨xA, xc, yA, yc, by simp only [ansM]; rw [if_pos hk]; rfl, HN0.out.1 W, HN0.out.2 W, fun o h => by cases h⟩, ⟨none, 0, none, 0, by simp only [ansM]; rw [if_pos hk]; rfl, NumsAt.nil _, OpsAt.nil _, fun o h => by cases h⟩⟩)
        have HSC : Hid (∀ W, Below W8.heap.size W8 W → W.cell? ⟨w.heap.size, 0, none⟩ = some (.int .i64 p.kd) ∧ W.cell? ⟨w.heap.size, 1, none⟩ = some (.int .i64 p.fr) ∧ W.cell? ⟨w.heap.size, 2, none⟩ = some (.int .i64 p.tt) ∧ W.cell? ⟨w.heap.size, 3, none⟩ = some (.int .i64 p.g) ∧ W.cell? ⟨w.heap.size, 4, none⟩ = some (.int .i64 p.nd) ∧ W.cell? ⟨w.heap.size, 5, none⟩ = some (.int .i64 p.tr) ∧ W.cell? ⟨w.heap.size, 6, none⟩ = some (.int .i64 p.lw) ∧ W.cell? ⟨w.heap.size, 7, none⟩ = some (.int .i64 p.co) ∧ W.cell? ⟨w.heap.size, 8, none⟩ = some (.int .i64 p.ti) ∧ W.cell? ⟨w.heap.size, 9, none⟩ = some (.slice tA p.tl.length tc) ∧ W.cell? ⟨w.heap.size, 10, none⟩ = some (.slice oA p.os.length oc) ∧ W.cell? ⟨w.heap.size + 1, 0, none⟩ = some (.int .i64 q.kd) ∧ W.cell? ⟨w.heap.size + 1, 1, none⟩ = some (.int .i64 q.fr) ∧ W.cell? ⟨w.heap.size + 1, 2, none⟩ = some (.int .i64 q.tt) ∧ W.cell? ⟨w.heap.size + 1, 3, none⟩ = some (.int .i64 q.g) ∧ W.cell? ⟨w.heap.size + 1, 4, none⟩ = some (.int .i64 q.nd) ∧ W.cell? ⟨w.heap.size + 1, 5, none⟩ = some (.int .i64 q.tr) ∧ W.cell? ⟨w.heap.size + 1, 6, none⟩ = some (.int .i64 q.lw) ∧ W.cell? ⟨w.heap.size + 1, 7, none⟩ = some (.int .i64 q.co) ∧ W.cell? ⟨w.heap.size + 1, 8, none⟩ = some (.int .i64 q.ti) ∧ W.cell? ⟨w.heap.size + 1, 9, none⟩ = some (.slice tB q.tl.length td) ∧ W.cell? ⟨w.heap.size + 1, 10, none⟩ = some (.slice oB q.os.length od) ∧ W.cell? ⟨w7.heap.size, 0, none⟩ = some (.int .i64 k) ∧ W.cell? ⟨w7.heap.size, 1, none⟩ = some (.int .i64 p.tt) ∧ W.cell? ⟨w7.heap.size, 2, none⟩ = some (.int .i64 p.fr) ∧ W.cell? ⟨w7.heap.size, 3, none⟩ = some (.int .i64 p.g) ∧ W.cell? ⟨w7.heap.size, 4, none⟩ = some (.int .i64 p.nd) ∧ W.cell? ⟨w7.heap.size, 5, none⟩ = some (.int .i64 p.tr) ∧ W.cell? ⟨w7.heap.size, 6, none⟩ = some (.int .i64 0) ∧ W.cell? ⟨w7.heap.size, 7, none⟩ = some (.int .i64 0) ∧ W.cell? ⟨w7.heap.size, 8, none⟩ = some (.int .i64 0) ∧ W.cell? ⟨w7.heap.size, 9, none⟩ = some (.slice xA 0 xc) ∧ W.cell? ⟨w7.heap.size, 10, none⟩ = some (.slice yA 0 yc) ∧ W.cell? ⟨w7.heap.size + 1, 0, none⟩ = some (.int .i64 k) ∧ W.cell? ⟨w7.heap.size + 1, 1, none⟩ = some (.int .i64 p.tt) ∧ W.cell? ⟨w7.heap.size + 1, 2, none⟩ = some (.int .i64 p.fr) ∧ W.cell? ⟨w7.heap.size + 1, 3, none⟩ = some (.int .i64 p.g) ∧ W.cell? ⟨w7.heap.size + 1, 4, none⟩ = some (.int .i64 p.nd) ∧ W.cell? ⟨w7.heap.size + 1, 5, none⟩ = some (.int .i64 p.tr) ∧ W.cell? ⟨w7.heap.size + 1, 6, none⟩ = some (.int .i64 0) ∧ W.cell? ⟨w7.heap.size + 1, 7, none⟩ = some (.int .i64 0) ∧ W.cell? ⟨w7.heap.size + 1, 8, none⟩ = some (.int .i64 0) ∧ W.cell? ⟨w7.heap.size + 1, 9, none⟩ = some (.slice none 0 0) ∧ W.cell? ⟨w7.heap.size + 1, 10, none⟩ = some (.slice none 0 0)) := Lib.hid (fun W hW => by
          have hm := (hW.block w.heap.size (heap_lt hM8)).trans hM8
          have hn := (hW.block (w.heap.size + 1) (heap_lt hN8)).trans hN8
          have ha := (hW.block w7.heap.size (heap_lt hA8)).trans hA8
          have hw := (hW.block (w7.heap.size + 1) (heap_lt hW8)).trans hW8
          exact ⟨cell_of hm 0, cell_of hm 1, cell_of hm 2, cell_of hm 3, cell_of hm 4, cell_of hm 5, cell_of hm 6, cell_of hm 7, cell_of hm 8, cell_of hm 9, cell_of hm 10, cell_of hn 0, cell_of hn 1, cell_of hn 2, cell_of hn 3, cell_of hn 4, cell_of hn 5, cell_of hn 6, cell_of hn 7, cell_of hn 8, cell_of hn 9, cell_of hn 10, cell_of ha 0, cell_of ha 1, cell_of ha 2, cell_of ha 3, cell_of ha 4, cell_of ha 5, cell_of ha 6, cell_of ha 7, cell_of ha 8, cell_of ha 9, cell_of ha 10, cell_of hw 0, cell_of hw 1, cell_of hw 2, cell_of hw 3, cell_of hw 4, cell_of hw 5, cell_of hw 6, cell_of hw 7, cell_of hw 8, cell_of hw 9, cell_of hw 10⟩)
        have HGB := Lib.hid (fun W (hW : Below W8.heap.size W8 W) => awake_m (HG.out.1.below (HB8.out.trans (hW.mono HB8.out.size))) (HG.out.2.below (HB8.out.trans (hW.mono HB8.out.size))))
        clear hb8 hA7 hA8 hW8 hM8 hN8 hW8e hk
        go_wp2_with fail
        rw [← HW8E.out]
        clear c0 c1 c2 c3 c4 c5 c6 c7 c8 c9 c10
        refine wp_only ?_
        refine wp_region_held_drew (S := fun W => W.cell? ⟨w.heap.size, 0, none⟩ = some (.int .i64 p.kd) ∧ W.cell? ⟨w.heap.size, 1, none⟩ = some (.int .i64 p.fr) ∧ W.cell? ⟨w.heap.size, 2, none⟩ = some (.int .i64 p.tt) ∧ W.cell? ⟨w.heap.size, 3, none⟩ = some (.int .i64 p.g) ∧ W.cell? ⟨w.heap.size, 4, none⟩ = some (.int .i64 p.nd) ∧ W.cell? ⟨w.heap.size, 5, none⟩ = some (.int .i64 p.tr) ∧ W.cell? ⟨w.heap.size, 6, none⟩ = some (.int .i64 p.lw) ∧ W.cell? ⟨w.heap.size, 7, none⟩ = some (.int .i64 p.co) ∧ W.cell? ⟨w.heap.size, 8, none⟩ = some (.int .i64 p.ti) ∧ W.cell? ⟨w.heap.size, 9, none⟩ = some (.slice tA p.tl.length tc) ∧ W.cell? ⟨w.heap.size, 10, none⟩ = some (.slice oA p.os.length oc) ∧ W.cell? ⟨w.heap.size + 1, 0, none⟩ = some (.int .i64 q.kd) ∧ W.cell? ⟨w.heap.size + 1, 1, none⟩ = some (.int .i64 q.fr) ∧ W.cell? ⟨w.heap.size + 1, 2, none⟩ = some (.int .i64 q.tt) ∧ W.cell? ⟨w.heap.size + 1, 3, none⟩ = some (.int .i64 q.g) ∧ W.cell? ⟨w.heap.size + 1, 4, none⟩ = some (.int .i64 q.nd) ∧ W.cell? ⟨w.heap.size + 1, 5, none⟩ = some (.int .i64 q.tr) ∧ W.cell? ⟨w.heap.size + 1, 6, none⟩ = some (.int .i64 q.lw) ∧ W.cell? ⟨w.heap.size + 1, 7, none⟩ = some (.int .i64 q.co) ∧ W.cell? ⟨w.heap.size + 1, 8, none⟩ = some (.int .i64 q.ti) ∧ W.cell? ⟨w.heap.size + 1, 9, none⟩ = some (.slice tB q.tl.length td) ∧ W.cell? ⟨w.heap.size + 1, 10, none⟩ = some (.slice oB q.os.length od) ∧ W.cell? ⟨w7.heap.size, 0, none⟩ = some (.int .i64 k) ∧ W.cell? ⟨w7.heap.size, 1, none⟩ = some (.int .i64 p.tt) ∧ W.cell? ⟨w7.heap.size, 2, none⟩ = some (.int .i64 p.fr) ∧ W.cell? ⟨w7.heap.size, 3, none⟩ = some (.int .i64 p.g) ∧ W.cell? ⟨w7.heap.size, 4, none⟩ = some (.int .i64 p.nd) ∧ W.cell? ⟨w7.heap.size, 5, none⟩ = some (.int .i64 p.tr) ∧ W.cell? ⟨w7.heap.size, 6, none⟩ = some (.int .i64 0) ∧ W.cell? ⟨w7.heap.size, 7, none⟩ = some (.int .i64 0) ∧ W.cell? ⟨w7.heap.size, 8, none⟩ = some (.int .i64 0) ∧ W.cell? ⟨w7.heap.size, 9, none⟩ = some (.slice xA 0 xc) ∧ W.cell? ⟨w7.heap.size, 10, none⟩ = some (.slice yA 0 yc) ∧ W.cell? ⟨w7.heap.size + 1, 0, none⟩ = some (.int .i64 k) ∧ W.cell? ⟨w7.heap.size + 1, 1, none⟩ = some (.int .i64 p.tt) ∧ W.cell? ⟨w7.heap.size + 1, 2, none⟩ = some (.int .i64 p.fr) ∧ W.cell? ⟨w7.heap.size + 1, 3, none⟩ = some (.int .i64 p.g) ∧ W.cell? ⟨w7.heap.size + 1, 4, none⟩ = some (.int .i64 p.nd) ∧ W.cell? ⟨w7.heap.size + 1, 5, none⟩ = some (.int .i64 p.tr) ∧ W.cell? ⟨w7.heap.size + 1, 6, none⟩ = some (.int .i64 0) ∧ W.cell? ⟨w7.heap.size + 1, 7, none⟩ = some (.int .i64 0) ∧ W.cell? ⟨w7.heap.size + 1, 8, none⟩ = some (.int .i64 0) ∧ W.cell? ⟨w7.heap.size + 1, 9, none⟩ = some (.slice none 0 0) ∧ W.cell? ⟨w7.heap.size + 1, 10, none⟩ = some (.slice none 0 0)) (by kernel_rfl) (HSC.out _ (below_drew (Below.refl _ _))) (fun hHeld => ?_)
        refine wpAnyH_take (i := 0) (oi := { dst := some 40, op := Op.load 31 (Operand.tmp 7), type := 31, pos := "law.go:94", after := #[], guard := none }) (v := ?vv18) rfl (by kernel_rfl) (by kernel_rfl) (by kernel_rfl) (fun _ _ _ h => h) ?hy18 (by assumption) ?rest18
        case hy18 => (refine Or.inl ⟨by rfl, ?_⟩; intro W hSw; (try dsimp only at hSw); go_simp; (try with_reducible rfl))
        try simp only [Act.put, List.setIfInBounds_toArray, List.set_cons_zero, List.set_cons_succ]
        refine wpAnyH_take (i := 2) (oi := { dst := some 42, op := Op.load 26 (Operand.tmp 8), type := 26, pos := "law.go:94", after := #[], guard := none }) (v := ?vv19) rfl (by kernel_rfl) (by kernel_rfl) (by kernel_rfl) (fun _ _ _ h => h) ?hy19 (by assumption) ?rest19
        case hy19 => (refine Or.inl ⟨by rfl, ?_⟩; intro W hSw; (try dsimp only at hSw); go_simp; (try with_reducible rfl))
        try simp only [Act.put, List.setIfInBounds_toArray, List.set_cons_zero, List.set_cons_succ]
        refine wpAnyH_ready (rs := [1]) (by kernel_rfl) (by simp) ?_
        refine AllReadyH.cons (o := { dst := some 41, op := Op.call { callee := Callee.value (Operand.func 8), args := #[Operand.tmp 40], argTypes := #[31] }, type := 26, pos := "law.go:94", after := #[{ on := 0, ground := Ground.data }], guard := none }) rfl (fun K hK => ?step20) ?more20
        case more20 => exact AllReadyH.nil
        ((go_simp; go_at_call 8; refine (plain_m (HPM.out _ (below_drew (Below.refl _ W8))).2.2.1).mono ?_; rintro e x1 ⟨rfl, hbn⟩; have X1 := Lib.hid (below_of_drew hbn); clear hbn; go_wp2_with fail))
        refine hK.out _ _ ?hS20 (fun hHeld => ?rr20)
        case hS20 => (exact HSC.out _ X1.out)
        clear hK K
        try simp only [Act.put, List.setIfInBounds_toArray, List.set_cons_zero, List.set_cons_succ]
        have HQ1 := Lib.hid (rsame_any (HPM.out _ X1.out).2.2.1 (HPM.out _ X1.out).2.2.2)
        rw [decide_eq_true (rfl : ansM p k = ansM p k)] at HQ1
        refine wpAnyH_ready (rs := [3]) (by kernel_rfl) (by simp) ?_
        refine AllReadyH.cons (o := { dst := some 43, op := Op.call { callee := Callee.value (Operand.func 7), args := #[Operand.tmp 41, Operand.tmp 42], argTypes := #[26, 26] }, type := 4, pos := "law.go:94", after := #[{ on := 1, ground := Ground.data }, { on := 2, ground := Ground.data }, { on := 1, ground := Ground.chain }], guard := none }) rfl (fun K hK => ?step21) ?more21
        case more21 => exact AllReadyH.nil
        ((go_simp; go_at_call 7; refine (HQ1.out).mono ?_; rintro e x2 ⟨rfl, hbn⟩; have X2 := Lib.hid (X1.out.trans (hbn.mono X1.out.size)); clear hbn; go_wp2_with fail))
        refine hK.out _ _ ?hS21 (fun hHeld => ?rr21)
        case hS21 => (exact HSC.out _ X2.out)
        clear hK K
        try simp only [Act.put, List.setIfInBounds_toArray, List.set_cons_zero, List.set_cons_succ]
        refine wpAnyH_take (i := 4) (oi := { dst := some 44, op := Op.move (Operand.tmp 43), type := 4, pos := "law.go:94", after := #[{ on := 3, ground := Ground.data }, { on := 3, ground := Ground.chain }], guard := none }) (v := ?vv22) rfl (by kernel_rfl) (by kernel_rfl) (by kernel_rfl) (fun _ _ _ h => h) ?hy22 (by assumption) ?rest22
        case hy22 => (refine Or.inl ⟨by rfl, ?_⟩; intro W hSw; (try dsimp only at hSw); go_simp; (try with_reducible rfl))
        try simp only [Act.put, List.setIfInBounds_toArray, List.set_cons_zero, List.set_cons_succ]
        refine wpAnyH_take (i := 5) (oi := { dst := some 45, op := Op.load 26 (Operand.tmp 3), type := 26, pos := "law.go:94", after := #[{ on := 4, ground := Ground.guard }], guard := some (4, true) }) (v := ?vv23) rfl (by kernel_rfl) (by kernel_rfl) (by kernel_rfl) (fun _ _ _ h => h) ?hy23 (by assumption) ?rest23
        case hy23 => (refine Or.inl ⟨by rfl, ?_⟩; intro W hSw; (try dsimp only at hSw); go_simp; (try with_reducible rfl))
        try simp only [Act.put, List.setIfInBounds_toArray, List.set_cons_zero, List.set_cons_succ]
        refine wpAnyH_take (i := 7) (oi := { dst := some 47, op := Op.load 26 (Operand.tmp 5), type := 26, pos := "law.go:94", after := #[{ on := 4, ground := Ground.guard }], guard := some (4, true) }) (v := ?vv24) rfl (by kernel_rfl) (by kernel_rfl) (by kernel_rfl) (fun _ _ _ h => h) ?hy24 (by assumption) ?rest24
        case hy24 => (refine Or.inl ⟨by rfl, ?_⟩; intro W hSw; (try dsimp only at hSw); go_simp; (try with_reducible rfl))
        try simp only [Act.put, List.setIfInBounds_toArray, List.set_cons_zero, List.set_cons_succ]
        refine wpAnyH_take (i := 10) (oi := { dst := some 50, op := Op.load 26 (Operand.tmp 3), type := 26, pos := "law.go:94", after := #[{ on := 4, ground := Ground.guard }], guard := some (4, true) }) (v := ?vv25) rfl (by kernel_rfl) (by kernel_rfl) (by kernel_rfl) (fun _ _ _ h => h) ?hy25 (by assumption) ?rest25
        case hy25 => (refine Or.inl ⟨by rfl, ?_⟩; intro W hSw; (try dsimp only at hSw); go_simp; (try with_reducible rfl))
        try simp only [Act.put, List.setIfInBounds_toArray, List.set_cons_zero, List.set_cons_succ]
        refine wpAnyH_take (i := 11) (oi := { dst := some 51, op := Op.load 26 (Operand.tmp 5), type := 26, pos := "law.go:94", after := #[{ on := 4, ground := Ground.guard }], guard := some (4, true) }) (v := ?vv26) rfl (by kernel_rfl) (by kernel_rfl) (by kernel_rfl) (fun _ _ _ h => h) ?hy26 (by assumption) ?rest26
        case hy26 => (refine Or.inl ⟨by rfl, ?_⟩; intro W hSw; (try dsimp only at hSw); go_simp; (try with_reducible rfl))
        try simp only [Act.put, List.setIfInBounds_toArray, List.set_cons_zero, List.set_cons_succ]
        refine wpAnyH_ready (rs := [6]) (by kernel_rfl) (by simp) ?_
        refine AllReadyH.cons (o := { dst := some 46, op := Op.call { callee := Callee.value (Operand.func 6), args := #[Operand.tmp 45], argTypes := #[26] }, type := 31, pos := "law.go:94", after := #[{ on := 5, ground := Ground.data }, { on := 4, ground := Ground.chain }, { on := 4, ground := Ground.guard }], guard := some (4, true) }) rfl (fun K hK => ?step27) ?more27
        case more27 => exact AllReadyH.nil
        ((go_simp; go_at_call 6; refine (ours_any (HPM.out _ X2.out).1).mono ?_; rintro e x3 ⟨rfl, hbn⟩; have X3 := Lib.hid (X2.out.trans (hbn.mono X2.out.size)); clear hbn; go_wp2_with fail))
        refine hK.out _ _ ?hS27 (fun hHeld => ?rr27)
        case hS27 => (exact HSC.out _ X3.out)
        clear hK K
        try simp only [Act.put, List.setIfInBounds_toArray, List.set_cons_zero, List.set_cons_succ]
        refine wpAnyH_ready (rs := [8]) (by kernel_rfl) (by simp) ?_
        refine AllReadyH.cons (o := { dst := some 48, op := Op.call { callee := Callee.value (Operand.func 6), args := #[Operand.tmp 47], argTypes := #[26] }, type := 31, pos := "law.go:94", after := #[{ on := 7, ground := Ground.data }, { on := 6, ground := Ground.chain }, { on := 4, ground := Ground.guard }], guard := some (4, true) }) rfl (fun K hK => ?step28) ?more28
        case more28 => exact AllReadyH.nil
        ((go_simp; go_at_call 6; refine (ours_any (HPM.out _ X3.out).2.1).mono ?_; rintro e x4 ⟨rfl, hbn⟩; have X4 := Lib.hid (X3.out.trans (hbn.mono X3.out.size)); clear hbn; go_wp2_with fail))
        refine hK.out _ _ ?hS28 (fun hHeld => ?rr28)
        case hS28 => (exact HSC.out _ X4.out)
        clear hK K
        try simp only [Act.put, List.setIfInBounds_toArray, List.set_cons_zero, List.set_cons_succ]
        obtain ⟨pq, hpq⟩ : ∃ b, decide (p = q) = b := ⟨_, rfl⟩
        have HQ2 := Lib.hid (Same_any (HPM.out _ X4.out).1 (HPM.out _ X4.out).2.1)
        have HQ3 := Lib.hid (fun W (hW : Below W8.heap.size W8 W) => rsame_any (HPM.out _ hW).1 (HPM.out _ hW).2.1)
        rw [hpq] at HQ2 HQ3
        clear hpq
        refine wpAnyH_ready (rs := [9]) (by kernel_rfl) (by simp) ?_
        refine AllReadyH.cons (o := { dst := some 49, op := Op.call { callee := Callee.value (Operand.func 9), args := #[Operand.tmp 46, Operand.tmp 48], argTypes := #[31, 31] }, type := 4, pos := "law.go:94", after := #[{ on := 6, ground := Ground.data }, { on := 8, ground := Ground.data }, { on := 8, ground := Ground.chain }, { on := 4, ground := Ground.guard }], guard := some (4, true) }) rfl (fun K hK => ?step29) ?more29
        case more29 => exact AllReadyH.nil
        ((go_simp; go_at_call 9; refine (HQ2.out).mono ?_; rintro e x5 ⟨rfl, hbn⟩; have X5 := Lib.hid (X4.out.trans (hbn.mono X4.out.size)); clear hbn; go_wp2_with fail))
        refine hK.out _ _ ?hS29 (fun hHeld => ?rr29)
        case hS29 => (exact HSC.out _ X5.out)
        clear hK K
        try simp only [Act.put, List.setIfInBounds_toArray, List.set_cons_zero, List.set_cons_succ]
        refine wpAnyH_ready (rs := [12]) (by kernel_rfl) (by simp) ?_
        refine AllReadyH.cons (o := { dst := some 52, op := Op.call { callee := Callee.value (Operand.func 7), args := #[Operand.tmp 50, Operand.tmp 51], argTypes := #[26, 26] }, type := 4, pos := "law.go:94", after := #[{ on := 10, ground := Ground.data }, { on := 11, ground := Ground.data }, { on := 9, ground := Ground.chain }, { on := 4, ground := Ground.guard }], guard := some (4, true) }) rfl (fun K hK => ?step30) ?more30
        case more30 => exact AllReadyH.nil
        ((go_simp; go_at_call 7; refine (HQ3.out _ X5.out).mono ?_; rintro e x6 ⟨rfl, hbn⟩; have X6 := Lib.hid (X5.out.trans (hbn.mono X5.out.size)); clear hbn; go_wp2_with fail))
        refine hK.out _ _ ?hS30 (fun hHeld => ?rr30)
        case hS30 => (exact HSC.out _ X6.out)
        clear hK K
        try simp only [Act.put, List.setIfInBounds_toArray, List.set_cons_zero, List.set_cons_succ]
        refine wpAnyH_take (i := 13) (oi := { dst := some 53, op := Op.binOp BinOp.eql 4 (Operand.tmp 49) (Operand.tmp 52) 4, type := 4, pos := "law.go:94", after := #[{ on := 9, ground := Ground.data }, { on := 12, ground := Ground.data }, { on := 4, ground := Ground.guard }], guard := some (4, true) }) (v := (.bool true)) rfl (by kernel_rfl) (by kernel_rfl) (by kernel_rfl) (fun _ _ _ h => h) ?hy31 (by assumption) ?rest31
        case hy31 => ((refine Or.inl ⟨by rfl, ?_⟩; intro W hSw; (try dsimp only at hSw); go_simp; (try simp)))
        try simp only [Act.put, List.setIfInBounds_toArray, List.set_cons_zero, List.set_cons_succ]
        refine wpAnyH_take (i := 14) (oi := { dst := some 54, op := Op.pick (Operand.tmp 44) (Operand.tmp 53) (Operand.const (Value.bool false)), type := 4, pos := "law.go:94", after := #[{ on := 4, ground := Ground.data }, { on := 13, ground := Ground.data }], guard := none }) (v := ?vv32) rfl (by kernel_rfl) (by kernel_rfl) (by kernel_rfl) (fun _ _ _ h => h) ?hy32 (by assumption) ?rest32
        case hy32 => (refine Or.inl ⟨by rfl, ?_⟩; intro W hSw; (try dsimp only at hSw); go_simp; (try with_reducible rfl))
        try simp only [Act.put, List.setIfInBounds_toArray, List.set_cons_zero, List.set_cons_succ]
        refine wpAnyH_take (i := 15) (oi := { dst := some 55, op := Op.move (Operand.tmp 54), type := 4, pos := "law.go:94", after := #[{ on := 14, ground := Ground.data }, { on := 12, ground := Ground.chain }], guard := none }) (v := ?vv33) rfl (by kernel_rfl) (by kernel_rfl) (by kernel_rfl) (fun _ _ _ h => h) ?hy33 (by assumption) ?rest33
        case hy33 => (refine Or.inl ⟨by rfl, ?_⟩; intro W hSw; (try dsimp only at hSw); go_simp; (try with_reducible rfl))
        try simp only [Act.put, List.setIfInBounds_toArray, List.set_cons_zero, List.set_cons_succ]
        refine wpAnyH_take (i := 16) (oi := { dst := some 56, op := Op.load 26 (Operand.tmp 3), type := 26, pos := "law.go:94", after := #[{ on := 15, ground := Ground.guard }], guard := some (15, true) }) (v := ?vv34) rfl (by kernel_rfl) (by kernel_rfl) (by kernel_rfl) (fun _ _ _ h => h) ?hy34 (by assumption) ?rest34
        case hy34 => (refine Or.inl ⟨by rfl, ?_⟩; intro W hSw; (try dsimp only at hSw); go_simp; (try with_reducible rfl))
        try simp only [Act.put, List.setIfInBounds_toArray, List.set_cons_zero, List.set_cons_succ]
        refine wpAnyH_take (i := 18) (oi := { dst := some 58, op := Op.load 26 (Operand.tmp 3), type := 26, pos := "law.go:94", after := #[{ on := 15, ground := Ground.guard }], guard := some (15, true) }) (v := ?vv35) rfl (by kernel_rfl) (by kernel_rfl) (by kernel_rfl) (fun _ _ _ h => h) ?hy35 (by assumption) ?rest35
        case hy35 => (refine Or.inl ⟨by rfl, ?_⟩; intro W hSw; (try dsimp only at hSw); go_simp; (try with_reducible rfl))
        try simp only [Act.put, List.setIfInBounds_toArray, List.set_cons_zero, List.set_cons_succ]
        refine wpAnyH_ready (rs := [17]) (by kernel_rfl) (by simp) ?_
        refine AllReadyH.cons (o := { dst := some 57, op := Op.call { callee := Callee.value (Operand.func 6), args := #[Operand.tmp 56], argTypes := #[26] }, type := 31, pos := "law.go:94", after := #[{ on := 16, ground := Ground.data }, { on := 15, ground := Ground.chain }, { on := 15, ground := Ground.guard }], guard := some (15, true) }) rfl (fun K hK => ?step36) ?more36
        case more36 => exact AllReadyH.nil
        ((go_simp; go_at_call 6; refine (ours_any (HPM.out _ X6.out).1).mono ?_; rintro e x7 ⟨rfl, hbn⟩; have X7 := Lib.hid (X6.out.trans (hbn.mono X6.out.size)); clear hbn; go_wp2_with fail))
        refine hK.out _ _ ?hS36 (fun hHeld => ?rr36)
        case hS36 => (exact HSC.out _ X7.out)
        clear hK K
        try simp only [Act.put, List.setIfInBounds_toArray, List.set_cons_zero, List.set_cons_succ]
        refine wpAnyH_ready (rs := [19]) (by kernel_rfl) (by simp) ?_
        refine AllReadyH.cons (o := { dst := some 59, op := Op.call { callee := Callee.value (Operand.func 6), args := #[Operand.tmp 58], argTypes := #[26] }, type := 31, pos := "law.go:94", after := #[{ on := 18, ground := Ground.data }, { on := 17, ground := Ground.chain }, { on := 15, ground := Ground.guard }], guard := some (15, true) }) rfl (fun K hK => ?step37) ?more37
        case more37 => exact AllReadyH.nil
        ((go_simp; go_at_call 6; refine (ours_any (HPM.out _ X7.out).1).mono ?_; rintro e x8 ⟨rfl, hbn⟩; have X8 := Lib.hid (X7.out.trans (hbn.mono X7.out.size)); clear hbn; go_wp2_with fail))
        refine hK.out _ _ ?hS37 (fun hHeld => ?rr37)
        case hS37 => (exact HSC.out _ X8.out)
        clear hK K
        try simp only [Act.put, List.setIfInBounds_toArray, List.set_cons_zero, List.set_cons_succ]
        have HQ4 := Lib.hid (Same_any (HPM.out _ X8.out).1 (HPM.out _ X8.out).1)
        rw [decide_eq_true (rfl : p = p)] at HQ4
        refine wpAnyH_ready (rs := [20]) (by kernel_rfl) (by simp) ?_
        refine AllReadyH.cons (o := { dst := some 60, op := Op.call { callee := Callee.value (Operand.func 9), args := #[Operand.tmp 57, Operand.tmp 59], argTypes := #[31, 31] }, type := 4, pos := "law.go:94", after := #[{ on := 17, ground := Ground.data }, { on := 19, ground := Ground.data }, { on := 19, ground := Ground.chain }, { on := 15, ground := Ground.guard }], guard := some (15, true) }) rfl (fun K hK => ?step38) ?more38
        case more38 => exact AllReadyH.nil
        ((go_simp; go_at_call 9; refine (HQ4.out).mono ?_; rintro e x9 ⟨rfl, hbn⟩; have X9 := Lib.hid (X8.out.trans (hbn.mono X8.out.size)); clear hbn; go_wp2_with fail))
        refine hK.out _ _ ?hS38 (fun hHeld => ?rr38)
        case hS38 => (exact HSC.out _ X9.out)
        clear hK K
        try simp only [Act.put, List.setIfInBounds_toArray, List.set_cons_zero, List.set_cons_succ]
        refine wpAnyH_take (i := 21) (oi := { dst := some 61, op := Op.pick (Operand.tmp 55) (Operand.tmp 60) (Operand.const (Value.bool false)), type := 4, pos := "law.go:94", after := #[{ on := 15, ground := Ground.data }, { on := 20, ground := Ground.data }], guard := none }) (v := ?vv39) rfl (by kernel_rfl) (by kernel_rfl) (by kernel_rfl) (fun _ _ _ h => h) ?hy39 (by assumption) ?rest39
        case hy39 => (refine Or.inl ⟨by rfl, ?_⟩; intro W hSw; (try dsimp only at hSw); go_simp; (try with_reducible rfl))
        try simp only [Act.put, List.setIfInBounds_toArray, List.set_cons_zero, List.set_cons_succ]
        refine wpAnyH_take (i := 22) (oi := { dst := some 62, op := Op.move (Operand.tmp 61), type := 4, pos := "law.go:94", after := #[{ on := 21, ground := Ground.data }, { on := 20, ground := Ground.chain }], guard := none }) (v := ?vv40) rfl (by kernel_rfl) (by kernel_rfl) (by kernel_rfl) (fun _ _ _ h => h) ?hy40 (by assumption) ?rest40
        case hy40 => (refine Or.inl ⟨by rfl, ?_⟩; intro W hSw; (try dsimp only at hSw); go_simp; (try with_reducible rfl))
        try simp only [Act.put, List.setIfInBounds_toArray, List.set_cons_zero, List.set_cons_succ]
        refine wpAnyH_ready (rs := [23]) (by kernel_rfl) (by simp) ?_
        refine AllReadyH.cons (o := { dst := some 63, op := Op.call { callee := Callee.value (Operand.func 10), args := #[], argTypes := #[] }, type := 4, pos := "law.go:94", after := #[{ on := 22, ground := Ground.chain }, { on := 22, ground := Ground.guard }], guard := some (22, true) }) rfl (fun K hK => ?step41) ?more41
        case more41 => exact AllReadyH.nil
        ((go_simp; go_at_call 10; refine (HGB.out _ X9.out).mono ?_; rintro e x10 ⟨rfl, hbn⟩; have X10 := Lib.hid (X9.out.trans (hbn.mono X9.out.size)); clear hbn; go_wp2_with fail))
        refine hK.out _ _ ?hS41 (fun hHeld => ?rr41)
        case hS41 => (exact HSC.out _ X10.out)
        clear hK K
        try simp only [Act.put, List.setIfInBounds_toArray, List.set_cons_zero, List.set_cons_succ]
        refine wpAnyH_take (i := 24) (oi := { dst := some 64, op := Op.pick (Operand.tmp 62) (Operand.tmp 63) (Operand.const (Value.bool false)), type := 4, pos := "law.go:94", after := #[{ on := 22, ground := Ground.data }, { on := 23, ground := Ground.data }], guard := none }) (v := ?vv42) rfl (by kernel_rfl) (by kernel_rfl) (by kernel_rfl) (fun _ _ _ h => h) ?hy42 (by assumption) ?rest42
        case hy42 => (refine Or.inl ⟨by rfl, ?_⟩; intro W hSw; (try dsimp only at hSw); go_simp; (try with_reducible rfl))
        try simp only [Act.put, List.setIfInBounds_toArray, List.set_cons_zero, List.set_cons_succ]
        refine wpAnyH_take (i := 25) (oi := { dst := some 6, op := Op.assign (Operand.tmp 64), type := 4, pos := "law.go:94", after := #[{ on := 24, ground := Ground.data }, { on := 23, ground := Ground.chain }, { on := 0, ground := Ground.phase }, { on := 1, ground := Ground.phase }, { on := 2, ground := Ground.phase }, { on := 3, ground := Ground.phase }, { on := 4, ground := Ground.phase }, { on := 5, ground := Ground.phase }, { on := 6, ground := Ground.phase }, { on := 7, ground := Ground.phase }, { on := 8, ground := Ground.phase }, { on := 9, ground := Ground.phase }, { on := 10, ground := Ground.phase }, { on := 11, ground := Ground.phase }, { on := 12, ground := Ground.phase }, { on := 13, ground := Ground.phase }, { on := 14, ground := Ground.phase }, { on := 15, ground := Ground.phase }, { on := 16, ground := Ground.phase }, { on := 17, ground := Ground.phase }, { on := 18, ground := Ground.phase }, { on := 19, ground := Ground.phase }, { on := 20, ground := Ground.phase }, { on := 21, ground := Ground.phase }, { on := 22, ground := Ground.phase }, { on := 23, ground := Ground.phase }, { on := 24, ground := Ground.phase }], guard := none }) (v := ?vv43) rfl (by kernel_rfl) (by kernel_rfl) (by kernel_rfl) (fun _ _ _ h => h) ?hy43 (by assumption) ?rest43
        case hy43 => (refine Or.inl ⟨by rfl, ?_⟩; intro W hSw; (try dsimp only at hSw); go_simp; (try with_reducible rfl))
        try simp only [Act.put, List.setIfInBounds_toArray, List.set_cons_zero, List.set_cons_succ]
        refine wpAnyH_done (by kernel_rfl) ?_ _
        clear hHeld
        dsimp only [onlyN]
        go_wp2_with fail
        go_ret
        exact ⟨rfl, HB8.out.trans (X10.out.mono HB8.out.size)⟩
      · skip
        have hb8 := (below_new (w := w7) (.cells #[.int .i64 k, .int .i64 p.tt, .int .i64 p.fr, .int .i64 p.g, .int .i64 p.nd, .int .i64 p.tr, .int .i64 0, .int .i64 0, .int .i64 0, .slice xA 0 xc, .slice yA 0 yc] 31)).trans ((below_new (w := w7.alloc (.cells #[.int .i64 k, .int .i64 p.tt, .int .i64 p.fr, .int .i64 p.g, .int .i64 p.nd, .int .i64 p.tr, .int .i64 0, .int .i64 0, .int .i64 0, .slice xA 0 xc, .slice yA 0 yc] 31)) (.cells #[.int .i64 k, .int .i64 p.tt, .int .i64 p.fr, .int .i64 p.g, .int .i64 p.nd, .int .i64 p.tr, .int .i64 0, .int .i64 0, .int .i64 0, .slice none 0 0, .slice none 0 0] 26)).mono (below_new (w := w7) (.cells #[.int .i64 k, .int .i64 p.tt, .int .i64 p.fr, .int .i64 p.g, .int .i64 p.nd, .int .i64 p.tr, .int .i64 0, .int .i64 0, .int .i64 0, .slice xA 0 xc, .slice yA 0 yc] 31)).size)
        have hA7 := alloc_at w7 (.cells #[.int .i64 k, .int .i64 p.tt, .int .i64 p.fr, .int .i64 p.g, .int .i64 p.nd, .int .i64 p.tr, .int .i64 0, .int .i64 0, .int .i64 0, .slice xA 0 xc, .slice yA 0 yc] 31)
        have hA8 := ((below_new (w := w7.alloc (.cells #[.int .i64 k, .int .i64 p.tt, .int .i64 p.fr, .int .i64 p.g, .int .i64 p.nd, .int .i64 p.tr, .int .i64 0, .int .i64 0, .int .i64 0, .slice xA 0 xc, .slice yA 0 yc] 31)) (.cells #[.int .i64 k, .int .i64 p.tt, .int .i64 p.fr, .int .i64 p.g, .int .i64 p.nd, .int .i64 p.tr, .int .i64 0, .int .i64 0, .int .i64 0, .slice none 0 0, .slice none 0 0] 26)).block w7.heap.size (heap_lt hA7)).trans hA7
        have hW8 := alloc_at (w7.alloc (.cells #[.int .i64 k, .int .i64 p.tt, .int .i64 p.fr, .int .i64 p.g, .int .i64 p.nd, .int .i64 p.tr, .int .i64 0, .int .i64 0, .int .i64 0, .slice xA 0 xc, .slice yA 0 yc] 31)) (.cells #[.int .i64 k, .int .i64 p.tt, .int .i64 p.fr, .int .i64 p.g, .int .i64 p.nd, .int .i64 p.tr, .int .i64 0, .int .i64 0, .int .i64 0, .slice none 0 0, .slice none 0 0] 26)
        rw [asz] at hW8
        obtain ⟨W8, hW8e⟩ : ∃ W, W = ((w7.alloc (.cells #[.int .i64 k, .int .i64 p.tt, .int .i64 p.fr, .int .i64 p.g, .int .i64 p.nd, .int .i64 p.tr, .int .i64 0, .int .i64 0, .int .i64 0, .slice xA 0 xc, .slice yA 0 yc] 31)).alloc (.cells #[.int .i64 k, .int .i64 p.tt, .int .i64 p.fr, .int .i64 p.g, .int .i64 p.nd, .int .i64 p.tr, .int .i64 0, .int .i64 0, .int .i64 0, .slice none 0 0, .slice none 0 0] 26)) := ⟨_, rfl⟩
        have HW8E := Lib.hid hW8e
        rw [← hW8e] at hb8 hA8 hW8
        have hM8 := (hb8.block w.heap.size (heap_lt HM7.out.1)).trans HM7.out.1
        have hN8 := (hb8.block (w.heap.size + 1) (heap_lt HM7.out.2)).trans HM7.out.2
        have HB8 := Lib.hid (HB7.out.trans (hb8.mono HB7.out.size))
        have HPM : Hid (∀ W, Below W8.heap.size W8 W → MsgIs W (.agg #[.int .i64 p.kd, .int .i64 p.fr, .int .i64 p.tt, .int .i64 p.g, .int .i64 p.nd, .int .i64 p.tr, .int .i64 p.lw, .int .i64 p.co, .int .i64 p.ti, .slice tA p.tl.length tc, .slice oA p.os.length oc]) p ∧ MsgIs W (.agg #[.int .i64 q.kd, .int .i64 q.fr, .int .i64 q.tt, .int .i64 q.g, .int .i64 q.nd, .int .i64 q.tr, .int .i64 q.lw, .int .i64 q.co, .int .i64 q.ti, .slice tB q.tl.length td, .slice oB q.os.length od]) q ∧ MsgIs W (.agg #[.int .i64 k, .int .i64 p.tt, .int .i64 p.fr, .int .i64 p.g, .int .i64 p.nd, .int .i64 p.tr, .int .i64 0, .int .i64 0, .int .i64 0, .slice xA 0 xc, .slice yA 0 yc]) (ansM p k) ∧ MsgIs W (.agg #[.int .i64 k, .int .i64 p.tt, .int .i64 p.fr, .int .i64 p.g, .int .i64 p.nd, .int .i64 p.tr, .int .i64 0, .int .i64 0, .int .i64 0, .slice none 0 0, .slice none 0 0]) (ansM p k)) := Lib.hid (fun W hW => by
          have h := HMM.out W (hb8.trans (hW.mono hb8.size))
          refine ⟨h.1, h.2, ⟨xA, xc, yA, yc, by simp only [ansM]; rw [if_pos hk]; rfl, HN0.out.1 W, HN0.out.2 W, fun o h => by cases h⟩, ⟨none, 0, none, 0, by simp only [ansM]; rw [if_pos hk]; rfl, NumsAt.nil _, OpsAt.nil _, fun o h => by cases h⟩⟩)
        have HSC : Hid (∀ W, Below W8.heap.size W8 W → W.cell? ⟨w.heap.size, 0, none⟩ = some (.int .i64 p.kd) ∧ W.cell? ⟨w.heap.size, 1, none⟩ = some (.int .i64 p.fr) ∧ W.cell? ⟨w.heap.size, 2, none⟩ = some (.int .i64 p.tt) ∧ W.cell? ⟨w.heap.size, 3, none⟩ = some (.int .i64 p.g) ∧ W.cell? ⟨w.heap.size, 4, none⟩ = some (.int .i64 p.nd) ∧ W.cell? ⟨w.heap.size, 5, none⟩ = some (.int .i64 p.tr) ∧ W.cell? ⟨w.heap.size, 6, none⟩ = some (.int .i64 p.lw) ∧ W.cell? ⟨w.heap.size, 7, none⟩ = some (.int .i64 p.co) ∧ W.cell? ⟨w.heap.size, 8, none⟩ = some (.int .i64 p.ti) ∧ W.cell? ⟨w.heap.size, 9, none⟩ = some (.slice tA p.tl.length tc) ∧ W.cell? ⟨w.heap.size, 10, none⟩ = some (.slice oA p.os.length oc) ∧ W.cell? ⟨w.heap.size + 1, 0, none⟩ = some (.int .i64 q.kd) ∧ W.cell? ⟨w.heap.size + 1, 1, none⟩ = some (.int .i64 q.fr) ∧ W.cell? ⟨w.heap.size + 1, 2, none⟩ = some (.int .i64 q.tt) ∧ W.cell? ⟨w.heap.size + 1, 3, none⟩ = some (.int .i64 q.g) ∧ W.cell? ⟨w.heap.size + 1, 4, none⟩ = some (.int .i64 q.nd) ∧ W.cell? ⟨w.heap.size + 1, 5, none⟩ = some (.int .i64 q.tr) ∧ W.cell? ⟨w.heap.size + 1, 6, none⟩ = some (.int .i64 q.lw) ∧ W.cell? ⟨w.heap.size + 1, 7, none⟩ = some (.int .i64 q.co) ∧ W.cell? ⟨w.heap.size + 1, 8, none⟩ = some (.int .i64 q.ti) ∧ W.cell? ⟨w.heap.size + 1, 9, none⟩ = some (.slice tB q.tl.length td) ∧ W.cell? ⟨w.heap.size + 1, 10, none⟩ = some (.slice oB q.os.length od) ∧ W.cell? ⟨w7.heap.size, 0, none⟩ = some (.int .i64 k) ∧ W.cell? ⟨w7.heap.size, 1, none⟩ = some (.int .i64 p.tt) ∧ W.cell? ⟨w7.heap.size, 2, none⟩ = some (.int .i64 p.fr) ∧ W.cell? ⟨w7.heap.size, 3, none⟩ = some (.int .i64 p.g) ∧ W.cell? ⟨w7.heap.size, 4, none⟩ = some (.int .i64 p.nd) ∧ W.cell? ⟨w7.heap.size, 5, none⟩ = some (.int .i64 p.tr) ∧ W.cell? ⟨w7.heap.size, 6, none⟩ = some (.int .i64 0) ∧ W.cell? ⟨w7.heap.size, 7, none⟩ = some (.int .i64 0) ∧ W.cell? ⟨w7.heap.size, 8, none⟩ = some (.int .i64 0) ∧ W.cell? ⟨w7.heap.size, 9, none⟩ = some (.slice xA 0 xc) ∧ W.cell? ⟨w7.heap.size, 10, none⟩ = some (.slice yA 0 yc) ∧ W.cell? ⟨w7.heap.size + 1, 0, none⟩ = some (.int .i64 k) ∧ W.cell? ⟨w7.heap.size + 1, 1, none⟩ = some (.int .i64 p.tt) ∧ W.cell? ⟨w7.heap.size + 1, 2, none⟩ = some (.int .i64 p.fr) ∧ W.cell? ⟨w7.heap.size + 1, 3, none⟩ = some (.int .i64 p.g) ∧ W.cell? ⟨w7.heap.size + 1, 4, none⟩ = some (.int .i64 p.nd) ∧ W.cell? ⟨w7.heap.size + 1, 5, none⟩ = some (.int .i64 p.tr) ∧ W.cell? ⟨w7.heap.size + 1, 6, none⟩ = some (.int .i64 0) ∧ W.cell? ⟨w7.heap.size + 1, 7, none⟩ = some (.int .i64 0) ∧ W.cell? ⟨w7.heap.size + 1, 8, none⟩ = some (.int .i64 0) ∧ W.cell? ⟨w7.heap.size + 1, 9, none⟩ = some (.slice none 0 0) ∧ W.cell? ⟨w7.heap.size + 1, 10, none⟩ = some (.slice none 0 0)) := Lib.hid (fun W hW => by
          have hm := (hW.block w.heap.size (heap_lt hM8)).trans hM8
          have hn := (hW.block (w.heap.size + 1) (heap_lt hN8)).trans hN8
          have ha := (hW.block w7.heap.size (heap_lt hA8)).trans hA8
          have hw := (hW.block (w7.heap.size + 1) (heap_lt hW8)).trans hW8
          exact ⟨cell_of hm 0, cell_of hm 1, cell_of hm 2, cell_of hm 3, cell_of hm 4, cell_of hm 5, cell_of hm 6, cell_of hm 7, cell_of hm 8, cell_of hm 9, cell_of hm 10, cell_of hn 0, cell_of hn 1, cell_of hn 2, cell_of hn 3, cell_of hn 4, cell_of hn 5, cell_of hn 6, cell_of hn 7, cell_of hn 8, cell_of hn 9, cell_of hn 10, cell_of ha 0, cell_of ha 1, cell_of ha 2, cell_of ha 3, cell_of ha 4, cell_of ha 5, cell_of ha 6, cell_of ha 7, cell_of ha 8, cell_of ha 9, cell_of ha 10, cell_of hw 0, cell_of hw 1, cell_of hw 2, cell_of hw 3, cell_of hw 4, cell_of hw 5, cell_of hw 6, cell_of hw 7, cell_of hw 8, cell_of hw 9, cell_of hw 10⟩)
        have HGB := Lib.hid (fun W (hW : Below W8.heap.size W8 W) => awake_m (HG.out.1.below (HB8.out.trans (hW.mono HB8.out.size))) (HG.out.2.below (HB8.out.trans (hW.mono HB8.out.size))))
        clear hb8 hA7 hA8 hW8 hM8 hN8 hW8e hk
        go_wp2_with fail
        rw [← HW8E.out]
        clear c0 c1 c2 c3 c4 c5 c6 c7 c8 c9 c10
        refine wp_only ?_
        refine wp_region_held_drew (S := fun W => W.cell? ⟨w.heap.size, 0, none⟩ = some (.int .i64 p.kd) ∧ W.cell? ⟨w.heap.size, 1, none⟩ = some (.int .i64 p.fr) ∧ W.cell? ⟨w.heap.size, 2, none⟩ = some (.int .i64 p.tt) ∧ W.cell? ⟨w.heap.size, 3, none⟩ = some (.int .i64 p.g) ∧ W.cell? ⟨w.heap.size, 4, none⟩ = some (.int .i64 p.nd) ∧ W.cell? ⟨w.heap.size, 5, none⟩ = some (.int .i64 p.tr) ∧ W.cell? ⟨w.heap.size, 6, none⟩ = some (.int .i64 p.lw) ∧ W.cell? ⟨w.heap.size, 7, none⟩ = some (.int .i64 p.co) ∧ W.cell? ⟨w.heap.size, 8, none⟩ = some (.int .i64 p.ti) ∧ W.cell? ⟨w.heap.size, 9, none⟩ = some (.slice tA p.tl.length tc) ∧ W.cell? ⟨w.heap.size, 10, none⟩ = some (.slice oA p.os.length oc) ∧ W.cell? ⟨w.heap.size + 1, 0, none⟩ = some (.int .i64 q.kd) ∧ W.cell? ⟨w.heap.size + 1, 1, none⟩ = some (.int .i64 q.fr) ∧ W.cell? ⟨w.heap.size + 1, 2, none⟩ = some (.int .i64 q.tt) ∧ W.cell? ⟨w.heap.size + 1, 3, none⟩ = some (.int .i64 q.g) ∧ W.cell? ⟨w.heap.size + 1, 4, none⟩ = some (.int .i64 q.nd) ∧ W.cell? ⟨w.heap.size + 1, 5, none⟩ = some (.int .i64 q.tr) ∧ W.cell? ⟨w.heap.size + 1, 6, none⟩ = some (.int .i64 q.lw) ∧ W.cell? ⟨w.heap.size + 1, 7, none⟩ = some (.int .i64 q.co) ∧ W.cell? ⟨w.heap.size + 1, 8, none⟩ = some (.int .i64 q.ti) ∧ W.cell? ⟨w.heap.size + 1, 9, none⟩ = some (.slice tB q.tl.length td) ∧ W.cell? ⟨w.heap.size + 1, 10, none⟩ = some (.slice oB q.os.length od) ∧ W.cell? ⟨w7.heap.size, 0, none⟩ = some (.int .i64 k) ∧ W.cell? ⟨w7.heap.size, 1, none⟩ = some (.int .i64 p.tt) ∧ W.cell? ⟨w7.heap.size, 2, none⟩ = some (.int .i64 p.fr) ∧ W.cell? ⟨w7.heap.size, 3, none⟩ = some (.int .i64 p.g) ∧ W.cell? ⟨w7.heap.size, 4, none⟩ = some (.int .i64 p.nd) ∧ W.cell? ⟨w7.heap.size, 5, none⟩ = some (.int .i64 p.tr) ∧ W.cell? ⟨w7.heap.size, 6, none⟩ = some (.int .i64 0) ∧ W.cell? ⟨w7.heap.size, 7, none⟩ = some (.int .i64 0) ∧ W.cell? ⟨w7.heap.size, 8, none⟩ = some (.int .i64 0) ∧ W.cell? ⟨w7.heap.size, 9, none⟩ = some (.slice xA 0 xc) ∧ W.cell? ⟨w7.heap.size, 10, none⟩ = some (.slice yA 0 yc) ∧ W.cell? ⟨w7.heap.size + 1, 0, none⟩ = some (.int .i64 k) ∧ W.cell? ⟨w7.heap.size + 1, 1, none⟩ = some (.int .i64 p.tt) ∧ W.cell? ⟨w7.heap.size + 1, 2, none⟩ = some (.int .i64 p.fr) ∧ W.cell? ⟨w7.heap.size + 1, 3, none⟩ = some (.int .i64 p.g) ∧ W.cell? ⟨w7.heap.size + 1, 4, none⟩ = some (.int .i64 p.nd) ∧ W.cell? ⟨w7.heap.size + 1, 5, none⟩ = some (.int .i64 p.tr) ∧ W.cell? ⟨w7.heap.size + 1, 6, none⟩ = some (.int .i64 0) ∧ W.cell? ⟨w7.heap.size + 1, 7, none⟩ = some (.int .i64 0) ∧ W.cell? ⟨w7.heap.size + 1, 8, none⟩ = some (.int .i64 0) ∧ W.cell? ⟨w7.heap.size + 1, 9, none⟩ = some (.slice none 0 0) ∧ W.cell? ⟨w7.heap.size + 1, 10, none⟩ = some (.slice none 0 0)) (by kernel_rfl) (HSC.out _ (below_drew (Below.refl _ _))) (fun hHeld => ?_)
        refine wpAnyH_take (i := 0) (oi := { dst := some 40, op := Op.load 31 (Operand.tmp 7), type := 31, pos := "law.go:94", after := #[], guard := none }) (v := ?vv44) rfl (by kernel_rfl) (by kernel_rfl) (by kernel_rfl) (fun _ _ _ h => h) ?hy44 (by assumption) ?rest44
        case hy44 => (refine Or.inl ⟨by rfl, ?_⟩; intro W hSw; (try dsimp only at hSw); go_simp; (try with_reducible rfl))
        try simp only [Act.put, List.setIfInBounds_toArray, List.set_cons_zero, List.set_cons_succ]
        refine wpAnyH_take (i := 2) (oi := { dst := some 42, op := Op.load 26 (Operand.tmp 8), type := 26, pos := "law.go:94", after := #[], guard := none }) (v := ?vv45) rfl (by kernel_rfl) (by kernel_rfl) (by kernel_rfl) (fun _ _ _ h => h) ?hy45 (by assumption) ?rest45
        case hy45 => (refine Or.inl ⟨by rfl, ?_⟩; intro W hSw; (try dsimp only at hSw); go_simp; (try with_reducible rfl))
        try simp only [Act.put, List.setIfInBounds_toArray, List.set_cons_zero, List.set_cons_succ]
        refine wpAnyH_ready (rs := [1]) (by kernel_rfl) (by simp) ?_
        refine AllReadyH.cons (o := { dst := some 41, op := Op.call { callee := Callee.value (Operand.func 8), args := #[Operand.tmp 40], argTypes := #[31] }, type := 26, pos := "law.go:94", after := #[{ on := 0, ground := Ground.data }], guard := none }) rfl (fun K hK => ?step46) ?more46
        case more46 => exact AllReadyH.nil
        ((go_simp; go_at_call 8; refine (plain_m (HPM.out _ (below_drew (Below.refl _ W8))).2.2.1).mono ?_; rintro e x1 ⟨rfl, hbn⟩; have X1 := Lib.hid (below_of_drew hbn); clear hbn; go_wp2_with fail))
        refine hK.out _ _ ?hS46 (fun hHeld => ?rr46)
        case hS46 => (exact HSC.out _ X1.out)
        clear hK K
        try simp only [Act.put, List.setIfInBounds_toArray, List.set_cons_zero, List.set_cons_succ]
        have HQ1 := Lib.hid (rsame_any (HPM.out _ X1.out).2.2.1 (HPM.out _ X1.out).2.2.2)
        rw [decide_eq_true (rfl : ansM p k = ansM p k)] at HQ1
        refine wpAnyH_ready (rs := [3]) (by kernel_rfl) (by simp) ?_
        refine AllReadyH.cons (o := { dst := some 43, op := Op.call { callee := Callee.value (Operand.func 7), args := #[Operand.tmp 41, Operand.tmp 42], argTypes := #[26, 26] }, type := 4, pos := "law.go:94", after := #[{ on := 1, ground := Ground.data }, { on := 2, ground := Ground.data }, { on := 1, ground := Ground.chain }], guard := none }) rfl (fun K hK => ?step47) ?more47
        case more47 => exact AllReadyH.nil
        ((go_simp; go_at_call 7; refine (HQ1.out).mono ?_; rintro e x2 ⟨rfl, hbn⟩; have X2 := Lib.hid (X1.out.trans (hbn.mono X1.out.size)); clear hbn; go_wp2_with fail))
        refine hK.out _ _ ?hS47 (fun hHeld => ?rr47)
        case hS47 => (exact HSC.out _ X2.out)
        clear hK K
        try simp only [Act.put, List.setIfInBounds_toArray, List.set_cons_zero, List.set_cons_succ]
        refine wpAnyH_take (i := 4) (oi := { dst := some 44, op := Op.move (Operand.tmp 43), type := 4, pos := "law.go:94", after := #[{ on := 3, ground := Ground.data }, { on := 3, ground := Ground.chain }], guard := none }) (v := ?vv48) rfl (by kernel_rfl) (by kernel_rfl) (by kernel_rfl) (fun _ _ _ h => h) ?hy48 (by assumption) ?rest48
        case hy48 => (refine Or.inl ⟨by rfl, ?_⟩; intro W hSw; (try dsimp only at hSw); go_simp; (try with_reducible rfl))
        try simp only [Act.put, List.setIfInBounds_toArray, List.set_cons_zero, List.set_cons_succ]
        refine wpAnyH_take (i := 5) (oi := { dst := some 45, op := Op.load 26 (Operand.tmp 3), type := 26, pos := "law.go:94", after := #[{ on := 4, ground := Ground.guard }], guard := some (4, true) }) (v := ?vv49) rfl (by kernel_rfl) (by kernel_rfl) (by kernel_rfl) (fun _ _ _ h => h) ?hy49 (by assumption) ?rest49
        case hy49 => (refine Or.inl ⟨by rfl, ?_⟩; intro W hSw; (try dsimp only at hSw); go_simp; (try with_reducible rfl))
        try simp only [Act.put, List.setIfInBounds_toArray, List.set_cons_zero, List.set_cons_succ]
        refine wpAnyH_take (i := 7) (oi := { dst := some 47, op := Op.load 26 (Operand.tmp 5), type := 26, pos := "law.go:94", after := #[{ on := 4, ground := Ground.guard }], guard := some (4, true) }) (v := ?vv50) rfl (by kernel_rfl) (by kernel_rfl) (by kernel_rfl) (fun _ _ _ h => h) ?hy50 (by assumption) ?rest50
        case hy50 => (refine Or.inl ⟨by rfl, ?_⟩; intro W hSw; (try dsimp only at hSw); go_simp; (try with_reducible rfl))
        try simp only [Act.put, List.setIfInBounds_toArray, List.set_cons_zero, List.set_cons_succ]
        refine wpAnyH_take (i := 10) (oi := { dst := some 50, op := Op.load 26 (Operand.tmp 3), type := 26, pos := "law.go:94", after := #[{ on := 4, ground := Ground.guard }], guard := some (4, true) }) (v := ?vv51) rfl (by kernel_rfl) (by kernel_rfl) (by kernel_rfl) (fun _ _ _ h => h) ?hy51 (by assumption) ?rest51
        case hy51 => (refine Or.inl ⟨by rfl, ?_⟩; intro W hSw; (try dsimp only at hSw); go_simp; (try with_reducible rfl))
        try simp only [Act.put, List.setIfInBounds_toArray, List.set_cons_zero, List.set_cons_succ]
        refine wpAnyH_take (i := 11) (oi := { dst := some 51, op := Op.load 26 (Operand.tmp 5), type := 26, pos := "law.go:94", after := #[{ on := 4, ground := Ground.guard }], guard := some (4, true) }) (v := ?vv52) rfl (by kernel_rfl) (by kernel_rfl) (by kernel_rfl) (fun _ _ _ h => h) ?hy52 (by assumption) ?rest52
        case hy52 => (refine Or.inl ⟨by rfl, ?_⟩; intro W hSw; (try dsimp only at hSw); go_simp; (try with_reducible rfl))
        try simp only [Act.put, List.setIfInBounds_toArray, List.set_cons_zero, List.set_cons_succ]
        refine wpAnyH_ready (rs := [6]) (by kernel_rfl) (by simp) ?_
        refine AllReadyH.cons (o := { dst := some 46, op := Op.call { callee := Callee.value (Operand.func 6), args := #[Operand.tmp 45], argTypes := #[26] }, type := 31, pos := "law.go:94", after := #[{ on := 5, ground := Ground.data }, { on := 4, ground := Ground.chain }, { on := 4, ground := Ground.guard }], guard := some (4, true) }) rfl (fun K hK => ?step53) ?more53
        case more53 => exact AllReadyH.nil
        ((go_simp; go_at_call 6; refine (ours_any (HPM.out _ X2.out).1).mono ?_; rintro e x3 ⟨rfl, hbn⟩; have X3 := Lib.hid (X2.out.trans (hbn.mono X2.out.size)); clear hbn; go_wp2_with fail))
        refine hK.out _ _ ?hS53 (fun hHeld => ?rr53)
        case hS53 => (exact HSC.out _ X3.out)
        clear hK K
        try simp only [Act.put, List.setIfInBounds_toArray, List.set_cons_zero, List.set_cons_succ]
        refine wpAnyH_ready (rs := [8]) (by kernel_rfl) (by simp) ?_
        refine AllReadyH.cons (o := { dst := some 48, op := Op.call { callee := Callee.value (Operand.func 6), args := #[Operand.tmp 47], argTypes := #[26] }, type := 31, pos := "law.go:94", after := #[{ on := 7, ground := Ground.data }, { on := 6, ground := Ground.chain }, { on := 4, ground := Ground.guard }], guard := some (4, true) }) rfl (fun K hK => ?step54) ?more54
        case more54 => exact AllReadyH.nil
        ((go_simp; go_at_call 6; refine (ours_any (HPM.out _ X3.out).2.1).mono ?_; rintro e x4 ⟨rfl, hbn⟩; have X4 := Lib.hid (X3.out.trans (hbn.mono X3.out.size)); clear hbn; go_wp2_with fail))
        refine hK.out _ _ ?hS54 (fun hHeld => ?rr54)
        case hS54 => (exact HSC.out _ X4.out)
        clear hK K
        try simp only [Act.put, List.setIfInBounds_toArray, List.set_cons_zero, List.set_cons_succ]
        obtain ⟨pq, hpq⟩ : ∃ b, decide (p = q) = b := ⟨_, rfl⟩
        have HQ2 := Lib.hid (Same_any (HPM.out _ X4.out).1 (HPM.out _ X4.out).2.1)
        have HQ3 := Lib.hid (fun W (hW : Below W8.heap.size W8 W) => rsame_any (HPM.out _ hW).1 (HPM.out _ hW).2.1)
        rw [hpq] at HQ2 HQ3
        clear hpq
        refine wpAnyH_ready (rs := [9]) (by kernel_rfl) (by simp) ?_
        refine AllReadyH.cons (o := { dst := some 49, op := Op.call { callee := Callee.value (Operand.func 9), args := #[Operand.tmp 46, Operand.tmp 48], argTypes := #[31, 31] }, type := 4, pos := "law.go:94", after := #[{ on := 6, ground := Ground.data }, { on := 8, ground := Ground.data }, { on := 8, ground := Ground.chain }, { on := 4, ground := Ground.guard }], guard := some (4, true) }) rfl (fun K hK => ?step55) ?more55
        case more55 => exact AllReadyH.nil
        ((go_simp; go_at_call 9; refine (HQ2.out).mono ?_; rintro e x5 ⟨rfl, hbn⟩; have X5 := Lib.hid (X4.out.trans (hbn.mono X4.out.size)); clear hbn; go_wp2_with fail))
        refine hK.out _ _ ?hS55 (fun hHeld => ?rr55)
        case hS55 => (exact HSC.out _ X5.out)
        clear hK K
        try simp only [Act.put, List.setIfInBounds_toArray, List.set_cons_zero, List.set_cons_succ]
        refine wpAnyH_ready (rs := [12]) (by kernel_rfl) (by simp) ?_
        refine AllReadyH.cons (o := { dst := some 52, op := Op.call { callee := Callee.value (Operand.func 7), args := #[Operand.tmp 50, Operand.tmp 51], argTypes := #[26, 26] }, type := 4, pos := "law.go:94", after := #[{ on := 10, ground := Ground.data }, { on := 11, ground := Ground.data }, { on := 9, ground := Ground.chain }, { on := 4, ground := Ground.guard }], guard := some (4, true) }) rfl (fun K hK => ?step56) ?more56
        case more56 => exact AllReadyH.nil
        ((go_simp; go_at_call 7; refine (HQ3.out _ X5.out).mono ?_; rintro e x6 ⟨rfl, hbn⟩; have X6 := Lib.hid (X5.out.trans (hbn.mono X5.out.size)); clear hbn; go_wp2_with fail))
        refine hK.out _ _ ?hS56 (fun hHeld => ?rr56)
        case hS56 => (exact HSC.out _ X6.out)
        clear hK K
        try simp only [Act.put, List.setIfInBounds_toArray, List.set_cons_zero, List.set_cons_succ]
        refine wpAnyH_take (i := 13) (oi := { dst := some 53, op := Op.binOp BinOp.eql 4 (Operand.tmp 49) (Operand.tmp 52) 4, type := 4, pos := "law.go:94", after := #[{ on := 9, ground := Ground.data }, { on := 12, ground := Ground.data }, { on := 4, ground := Ground.guard }], guard := some (4, true) }) (v := (.bool true)) rfl (by kernel_rfl) (by kernel_rfl) (by kernel_rfl) (fun _ _ _ h => h) ?hy57 (by assumption) ?rest57
        case hy57 => ((refine Or.inl ⟨by rfl, ?_⟩; intro W hSw; (try dsimp only at hSw); go_simp; (try simp)))
        try simp only [Act.put, List.setIfInBounds_toArray, List.set_cons_zero, List.set_cons_succ]
        refine wpAnyH_take (i := 14) (oi := { dst := some 54, op := Op.pick (Operand.tmp 44) (Operand.tmp 53) (Operand.const (Value.bool false)), type := 4, pos := "law.go:94", after := #[{ on := 4, ground := Ground.data }, { on := 13, ground := Ground.data }], guard := none }) (v := ?vv58) rfl (by kernel_rfl) (by kernel_rfl) (by kernel_rfl) (fun _ _ _ h => h) ?hy58 (by assumption) ?rest58
        case hy58 => (refine Or.inl ⟨by rfl, ?_⟩; intro W hSw; (try dsimp only at hSw); go_simp; (try with_reducible rfl))
        try simp only [Act.put, List.setIfInBounds_toArray, List.set_cons_zero, List.set_cons_succ]
        refine wpAnyH_take (i := 15) (oi := { dst := some 55, op := Op.move (Operand.tmp 54), type := 4, pos := "law.go:94", after := #[{ on := 14, ground := Ground.data }, { on := 12, ground := Ground.chain }], guard := none }) (v := ?vv59) rfl (by kernel_rfl) (by kernel_rfl) (by kernel_rfl) (fun _ _ _ h => h) ?hy59 (by assumption) ?rest59
        case hy59 => (refine Or.inl ⟨by rfl, ?_⟩; intro W hSw; (try dsimp only at hSw); go_simp; (try with_reducible rfl))
        try simp only [Act.put, List.setIfInBounds_toArray, List.set_cons_zero, List.set_cons_succ]
        refine wpAnyH_take (i := 16) (oi := { dst := some 56, op := Op.load 26 (Operand.tmp 3), type := 26, pos := "law.go:94", after := #[{ on := 15, ground := Ground.guard }], guard := some (15, true) }) (v := ?vv60) rfl (by kernel_rfl) (by kernel_rfl) (by kernel_rfl) (fun _ _ _ h => h) ?hy60 (by assumption) ?rest60
        case hy60 => (refine Or.inl ⟨by rfl, ?_⟩; intro W hSw; (try dsimp only at hSw); go_simp; (try with_reducible rfl))
        try simp only [Act.put, List.setIfInBounds_toArray, List.set_cons_zero, List.set_cons_succ]
        refine wpAnyH_take (i := 18) (oi := { dst := some 58, op := Op.load 26 (Operand.tmp 3), type := 26, pos := "law.go:94", after := #[{ on := 15, ground := Ground.guard }], guard := some (15, true) }) (v := ?vv61) rfl (by kernel_rfl) (by kernel_rfl) (by kernel_rfl) (fun _ _ _ h => h) ?hy61 (by assumption) ?rest61
        case hy61 => (refine Or.inl ⟨by rfl, ?_⟩; intro W hSw; (try dsimp only at hSw); go_simp; (try with_reducible rfl))
        try simp only [Act.put, List.setIfInBounds_toArray, List.set_cons_zero, List.set_cons_succ]
        refine wpAnyH_ready (rs := [17]) (by kernel_rfl) (by simp) ?_
        refine AllReadyH.cons (o := { dst := some 57, op := Op.call { callee := Callee.value (Operand.func 6), args := #[Operand.tmp 56], argTypes := #[26] }, type := 31, pos := "law.go:94", after := #[{ on := 16, ground := Ground.data }, { on := 15, ground := Ground.chain }, { on := 15, ground := Ground.guard }], guard := some (15, true) }) rfl (fun K hK => ?step62) ?more62
        case more62 => exact AllReadyH.nil
        ((go_simp; go_at_call 6; refine (ours_any (HPM.out _ X6.out).1).mono ?_; rintro e x7 ⟨rfl, hbn⟩; have X7 := Lib.hid (X6.out.trans (hbn.mono X6.out.size)); clear hbn; go_wp2_with fail))
        refine hK.out _ _ ?hS62 (fun hHeld => ?rr62)
        case hS62 => (exact HSC.out _ X7.out)
        clear hK K
        try simp only [Act.put, List.setIfInBounds_toArray, List.set_cons_zero, List.set_cons_succ]
        refine wpAnyH_ready (rs := [19]) (by kernel_rfl) (by simp) ?_
        refine AllReadyH.cons (o := { dst := some 59, op := Op.call { callee := Callee.value (Operand.func 6), args := #[Operand.tmp 58], argTypes := #[26] }, type := 31, pos := "law.go:94", after := #[{ on := 18, ground := Ground.data }, { on := 17, ground := Ground.chain }, { on := 15, ground := Ground.guard }], guard := some (15, true) }) rfl (fun K hK => ?step63) ?more63
        case more63 => exact AllReadyH.nil
        ((go_simp; go_at_call 6; refine (ours_any (HPM.out _ X7.out).1).mono ?_; rintro e x8 ⟨rfl, hbn⟩; have X8 := Lib.hid (X7.out.trans (hbn.mono X7.out.size)); clear hbn; go_wp2_with fail))
        refine hK.out _ _ ?hS63 (fun hHeld => ?rr63)
        case hS63 => (exact HSC.out _ X8.out)
        clear hK K
        try simp only [Act.put, List.setIfInBounds_toArray, List.set_cons_zero, List.set_cons_succ]
        have HQ4 := Lib.hid (Same_any (HPM.out _ X8.out).1 (HPM.out _ X8.out).1)
        rw [decide_eq_true (rfl : p = p)] at HQ4
        refine wpAnyH_ready (rs := [20]) (by kernel_rfl) (by simp) ?_
        refine AllReadyH.cons (o := { dst := some 60, op := Op.call { callee := Callee.value (Operand.func 9), args := #[Operand.tmp 57, Operand.tmp 59], argTypes := #[31, 31] }, type := 4, pos := "law.go:94", after := #[{ on := 17, ground := Ground.data }, { on := 19, ground := Ground.data }, { on := 19, ground := Ground.chain }, { on := 15, ground := Ground.guard }], guard := some (15, true) }) rfl (fun K hK => ?step64) ?more64
        case more64 => exact AllReadyH.nil
        ((go_simp; go_at_call 9; refine (HQ4.out).mono ?_; rintro e x9 ⟨rfl, hbn⟩; have X9 := Lib.hid (X8.out.trans (hbn.mono X8.out.size)); clear hbn; go_wp2_with fail))
        refine hK.out _ _ ?hS64 (fun hHeld => ?rr64)
        case hS64 => (exact HSC.out _ X9.out)
        clear hK K
        try simp only [Act.put, List.setIfInBounds_toArray, List.set_cons_zero, List.set_cons_succ]
        refine wpAnyH_take (i := 21) (oi := { dst := some 61, op := Op.pick (Operand.tmp 55) (Operand.tmp 60) (Operand.const (Value.bool false)), type := 4, pos := "law.go:94", after := #[{ on := 15, ground := Ground.data }, { on := 20, ground := Ground.data }], guard := none }) (v := ?vv65) rfl (by kernel_rfl) (by kernel_rfl) (by kernel_rfl) (fun _ _ _ h => h) ?hy65 (by assumption) ?rest65
        case hy65 => (refine Or.inl ⟨by rfl, ?_⟩; intro W hSw; (try dsimp only at hSw); go_simp; (try with_reducible rfl))
        try simp only [Act.put, List.setIfInBounds_toArray, List.set_cons_zero, List.set_cons_succ]
        refine wpAnyH_take (i := 22) (oi := { dst := some 62, op := Op.move (Operand.tmp 61), type := 4, pos := "law.go:94", after := #[{ on := 21, ground := Ground.data }, { on := 20, ground := Ground.chain }], guard := none }) (v := ?vv66) rfl (by kernel_rfl) (by kernel_rfl) (by kernel_rfl) (fun _ _ _ h => h) ?hy66 (by assumption) ?rest66
        case hy66 => (refine Or.inl ⟨by rfl, ?_⟩; intro W hSw; (try dsimp only at hSw); go_simp; (try with_reducible rfl))
        try simp only [Act.put, List.setIfInBounds_toArray, List.set_cons_zero, List.set_cons_succ]
        refine wpAnyH_ready (rs := [23]) (by kernel_rfl) (by simp) ?_
        refine AllReadyH.cons (o := { dst := some 63, op := Op.call { callee := Callee.value (Operand.func 10), args := #[], argTypes := #[] }, type := 4, pos := "law.go:94", after := #[{ on := 22, ground := Ground.chain }, { on := 22, ground := Ground.guard }], guard := some (22, true) }) rfl (fun K hK => ?step67) ?more67
        case more67 => exact AllReadyH.nil
        ((go_simp; go_at_call 10; refine (HGB.out _ X9.out).mono ?_; rintro e x10 ⟨rfl, hbn⟩; have X10 := Lib.hid (X9.out.trans (hbn.mono X9.out.size)); clear hbn; go_wp2_with fail))
        refine hK.out _ _ ?hS67 (fun hHeld => ?rr67)
        case hS67 => (exact HSC.out _ X10.out)
        clear hK K
        try simp only [Act.put, List.setIfInBounds_toArray, List.set_cons_zero, List.set_cons_succ]
        refine wpAnyH_take (i := 24) (oi := { dst := some 64, op := Op.pick (Operand.tmp 62) (Operand.tmp 63) (Operand.const (Value.bool false)), type := 4, pos := "law.go:94", after := #[{ on := 22, ground := Ground.data }, { on := 23, ground := Ground.data }], guard := none }) (v := ?vv68) rfl (by kernel_rfl) (by kernel_rfl) (by kernel_rfl) (fun _ _ _ h => h) ?hy68 (by assumption) ?rest68
        case hy68 => (refine Or.inl ⟨by rfl, ?_⟩; intro W hSw; (try dsimp only at hSw); go_simp; (try with_reducible rfl))
        try simp only [Act.put, List.setIfInBounds_toArray, List.set_cons_zero, List.set_cons_succ]
        refine wpAnyH_take (i := 25) (oi := { dst := some 6, op := Op.assign (Operand.tmp 64), type := 4, pos := "law.go:94", after := #[{ on := 24, ground := Ground.data }, { on := 23, ground := Ground.chain }, { on := 0, ground := Ground.phase }, { on := 1, ground := Ground.phase }, { on := 2, ground := Ground.phase }, { on := 3, ground := Ground.phase }, { on := 4, ground := Ground.phase }, { on := 5, ground := Ground.phase }, { on := 6, ground := Ground.phase }, { on := 7, ground := Ground.phase }, { on := 8, ground := Ground.phase }, { on := 9, ground := Ground.phase }, { on := 10, ground := Ground.phase }, { on := 11, ground := Ground.phase }, { on := 12, ground := Ground.phase }, { on := 13, ground := Ground.phase }, { on := 14, ground := Ground.phase }, { on := 15, ground := Ground.phase }, { on := 16, ground := Ground.phase }, { on := 17, ground := Ground.phase }, { on := 18, ground := Ground.phase }, { on := 19, ground := Ground.phase }, { on := 20, ground := Ground.phase }, { on := 21, ground := Ground.phase }, { on := 22, ground := Ground.phase }, { on := 23, ground := Ground.phase }, { on := 24, ground := Ground.phase }], guard := none }) (v := ?vv69) rfl (by kernel_rfl) (by kernel_rfl) (by kernel_rfl) (fun _ _ _ h => h) ?hy69 (by assumption) ?rest69
        case hy69 => (refine Or.inl ⟨by rfl, ?_⟩; intro W hSw; (try dsimp only at hSw); go_simp; (try with_reducible rfl))
        try simp only [Act.put, List.setIfInBounds_toArray, List.set_cons_zero, List.set_cons_succ]
        refine wpAnyH_done (by kernel_rfl) ?_ _
        clear hHeld
        dsimp only [onlyN]
        go_wp2_with fail
        go_ret
        exact ⟨rfl, HB8.out.trans (X10.out.mono HB8.out.size)⟩
      · skip
        have hb8 := (below_new (w := w7) (.cells #[.int .i64 k, .int .i64 p.tt, .int .i64 p.fr, .int .i64 p.g, .int .i64 p.nd, .int .i64 p.tr, .int .i64 0, .int .i64 0, .int .i64 0, .slice xA 0 xc, .slice yA 0 yc] 31)).trans ((below_new (w := w7.alloc (.cells #[.int .i64 k, .int .i64 p.tt, .int .i64 p.fr, .int .i64 p.g, .int .i64 p.nd, .int .i64 p.tr, .int .i64 0, .int .i64 0, .int .i64 0, .slice xA 0 xc, .slice yA 0 yc] 31)) (.cells #[.int .i64 k, .int .i64 p.tt, .int .i64 p.fr, .int .i64 p.g, .int .i64 p.nd, .int .i64 p.tr, .int .i64 0, .int .i64 0, .int .i64 0, .slice none 0 0, .slice none 0 0] 26)).mono (below_new (w := w7) (.cells #[.int .i64 k, .int .i64 p.tt, .int .i64 p.fr, .int .i64 p.g, .int .i64 p.nd, .int .i64 p.tr, .int .i64 0, .int .i64 0, .int .i64 0, .slice xA 0 xc, .slice yA 0 yc] 31)).size)
        have hA7 := alloc_at w7 (.cells #[.int .i64 k, .int .i64 p.tt, .int .i64 p.fr, .int .i64 p.g, .int .i64 p.nd, .int .i64 p.tr, .int .i64 0, .int .i64 0, .int .i64 0, .slice xA 0 xc, .slice yA 0 yc] 31)
        have hA8 := ((below_new (w := w7.alloc (.cells #[.int .i64 k, .int .i64 p.tt, .int .i64 p.fr, .int .i64 p.g, .int .i64 p.nd, .int .i64 p.tr, .int .i64 0, .int .i64 0, .int .i64 0, .slice xA 0 xc, .slice yA 0 yc] 31)) (.cells #[.int .i64 k, .int .i64 p.tt, .int .i64 p.fr, .int .i64 p.g, .int .i64 p.nd, .int .i64 p.tr, .int .i64 0, .int .i64 0, .int .i64 0, .slice none 0 0, .slice none 0 0] 26)).block w7.heap.size (heap_lt hA7)).trans hA7
        have hW8 := alloc_at (w7.alloc (.cells #[.int .i64 k, .int .i64 p.tt, .int .i64 p.fr, .int .i64 p.g, .int .i64 p.nd, .int .i64 p.tr, .int .i64 0, .int .i64 0, .int .i64 0, .slice xA 0 xc, .slice yA 0 yc] 31)) (.cells #[.int .i64 k, .int .i64 p.tt, .int .i64 p.fr, .int .i64 p.g, .int .i64 p.nd, .int .i64 p.tr, .int .i64 0, .int .i64 0, .int .i64 0, .slice none 0 0, .slice none 0 0] 26)
        rw [asz] at hW8
        obtain ⟨W8, hW8e⟩ : ∃ W, W = ((w7.alloc (.cells #[.int .i64 k, .int .i64 p.tt, .int .i64 p.fr, .int .i64 p.g, .int .i64 p.nd, .int .i64 p.tr, .int .i64 0, .int .i64 0, .int .i64 0, .slice xA 0 xc, .slice yA 0 yc] 31)).alloc (.cells #[.int .i64 k, .int .i64 p.tt, .int .i64 p.fr, .int .i64 p.g, .int .i64 p.nd, .int .i64 p.tr, .int .i64 0, .int .i64 0, .int .i64 0, .slice none 0 0, .slice none 0 0] 26)) := ⟨_, rfl⟩
        have HW8E := Lib.hid hW8e
        rw [← hW8e] at hb8 hA8 hW8
        have hM8 := (hb8.block w.heap.size (heap_lt HM7.out.1)).trans HM7.out.1
        have hN8 := (hb8.block (w.heap.size + 1) (heap_lt HM7.out.2)).trans HM7.out.2
        have HB8 := Lib.hid (HB7.out.trans (hb8.mono HB7.out.size))
        have HPM : Hid (∀ W, Below W8.heap.size W8 W → MsgIs W (.agg #[.int .i64 p.kd, .int .i64 p.fr, .int .i64 p.tt, .int .i64 p.g, .int .i64 p.nd, .int .i64 p.tr, .int .i64 p.lw, .int .i64 p.co, .int .i64 p.ti, .slice tA p.tl.length tc, .slice oA p.os.length oc]) p ∧ MsgIs W (.agg #[.int .i64 q.kd, .int .i64 q.fr, .int .i64 q.tt, .int .i64 q.g, .int .i64 q.nd, .int .i64 q.tr, .int .i64 q.lw, .int .i64 q.co, .int .i64 q.ti, .slice tB q.tl.length td, .slice oB q.os.length od]) q ∧ MsgIs W (.agg #[.int .i64 k, .int .i64 p.tt, .int .i64 p.fr, .int .i64 p.g, .int .i64 p.nd, .int .i64 p.tr, .int .i64 0, .int .i64 0, .int .i64 0, .slice xA 0 xc, .slice yA 0 yc]) (ansM p k) ∧ MsgIs W (.agg #[.int .i64 k, .int .i64 p.tt, .int .i64 p.fr, .int .i64 p.g, .int .i64 p.nd, .int .i64 p.tr, .int .i64 0, .int .i64 0, .int .i64 0, .slice none 0 0, .slice none 0 0]) (ansM p k)) := Lib.hid (fun W hW => by
          have h := HMM.out W (hb8.trans (hW.mono hb8.size))
          refine ⟨h.1, h.2, ⟨xA, xc, yA, yc, by simp only [ansM]; rw [if_pos hk]; rfl, HN0.out.1 W, HN0.out.2 W, fun o h => by cases h⟩, ⟨none, 0, none, 0, by simp only [ansM]; rw [if_pos hk]; rfl, NumsAt.nil _, OpsAt.nil _, fun o h => by cases h⟩⟩)
        have HSC : Hid (∀ W, Below W8.heap.size W8 W → W.cell? ⟨w.heap.size, 0, none⟩ = some (.int .i64 p.kd) ∧ W.cell? ⟨w.heap.size, 1, none⟩ = some (.int .i64 p.fr) ∧ W.cell? ⟨w.heap.size, 2, none⟩ = some (.int .i64 p.tt) ∧ W.cell? ⟨w.heap.size, 3, none⟩ = some (.int .i64 p.g) ∧ W.cell? ⟨w.heap.size, 4, none⟩ = some (.int .i64 p.nd) ∧ W.cell? ⟨w.heap.size, 5, none⟩ = some (.int .i64 p.tr) ∧ W.cell? ⟨w.heap.size, 6, none⟩ = some (.int .i64 p.lw) ∧ W.cell? ⟨w.heap.size, 7, none⟩ = some (.int .i64 p.co) ∧ W.cell? ⟨w.heap.size, 8, none⟩ = some (.int .i64 p.ti) ∧ W.cell? ⟨w.heap.size, 9, none⟩ = some (.slice tA p.tl.length tc) ∧ W.cell? ⟨w.heap.size, 10, none⟩ = some (.slice oA p.os.length oc) ∧ W.cell? ⟨w.heap.size + 1, 0, none⟩ = some (.int .i64 q.kd) ∧ W.cell? ⟨w.heap.size + 1, 1, none⟩ = some (.int .i64 q.fr) ∧ W.cell? ⟨w.heap.size + 1, 2, none⟩ = some (.int .i64 q.tt) ∧ W.cell? ⟨w.heap.size + 1, 3, none⟩ = some (.int .i64 q.g) ∧ W.cell? ⟨w.heap.size + 1, 4, none⟩ = some (.int .i64 q.nd) ∧ W.cell? ⟨w.heap.size + 1, 5, none⟩ = some (.int .i64 q.tr) ∧ W.cell? ⟨w.heap.size + 1, 6, none⟩ = some (.int .i64 q.lw) ∧ W.cell? ⟨w.heap.size + 1, 7, none⟩ = some (.int .i64 q.co) ∧ W.cell? ⟨w.heap.size + 1, 8, none⟩ = some (.int .i64 q.ti) ∧ W.cell? ⟨w.heap.size + 1, 9, none⟩ = some (.slice tB q.tl.length td) ∧ W.cell? ⟨w.heap.size + 1, 10, none⟩ = some (.slice oB q.os.length od) ∧ W.cell? ⟨w7.heap.size, 0, none⟩ = some (.int .i64 k) ∧ W.cell? ⟨w7.heap.size, 1, none⟩ = some (.int .i64 p.tt) ∧ W.cell? ⟨w7.heap.size, 2, none⟩ = some (.int .i64 p.fr) ∧ W.cell? ⟨w7.heap.size, 3, none⟩ = some (.int .i64 p.g) ∧ W.cell? ⟨w7.heap.size, 4, none⟩ = some (.int .i64 p.nd) ∧ W.cell? ⟨w7.heap.size, 5, none⟩ = some (.int .i64 p.tr) ∧ W.cell? ⟨w7.heap.size, 6, none⟩ = some (.int .i64 0) ∧ W.cell? ⟨w7.heap.size, 7, none⟩ = some (.int .i64 0) ∧ W.cell? ⟨w7.heap.size, 8, none⟩ = some (.int .i64 0) ∧ W.cell? ⟨w7.heap.size, 9, none⟩ = some (.slice xA 0 xc) ∧ W.cell? ⟨w7.heap.size, 10, none⟩ = some (.slice yA 0 yc) ∧ W.cell? ⟨w7.heap.size + 1, 0, none⟩ = some (.int .i64 k) ∧ W.cell? ⟨w7.heap.size + 1, 1, none⟩ = some (.int .i64 p.tt) ∧ W.cell? ⟨w7.heap.size + 1, 2, none⟩ = some (.int .i64 p.fr) ∧ W.cell? ⟨w7.heap.size + 1, 3, none⟩ = some (.int .i64 p.g) ∧ W.cell? ⟨w7.heap.size + 1, 4, none⟩ = some (.int .i64 p.nd) ∧ W.cell? ⟨w7.heap.size + 1, 5, none⟩ = some (.int .i64 p.tr) ∧ W.cell? ⟨w7.heap.size + 1, 6, none⟩ = some (.int .i64 0) ∧ W.cell? ⟨w7.heap.size + 1, 7, none⟩ = some (.int .i64 0) ∧ W.cell? ⟨w7.heap.size + 1, 8, none⟩ = some (.int .i64 0) ∧ W.cell? ⟨w7.heap.size + 1, 9, none⟩ = some (.slice none 0 0) ∧ W.cell? ⟨w7.heap.size + 1, 10, none⟩ = some (.slice none 0 0)) := Lib.hid (fun W hW => by
          have hm := (hW.block w.heap.size (heap_lt hM8)).trans hM8
          have hn := (hW.block (w.heap.size + 1) (heap_lt hN8)).trans hN8
          have ha := (hW.block w7.heap.size (heap_lt hA8)).trans hA8
          have hw := (hW.block (w7.heap.size + 1) (heap_lt hW8)).trans hW8
          exact ⟨cell_of hm 0, cell_of hm 1, cell_of hm 2, cell_of hm 3, cell_of hm 4, cell_of hm 5, cell_of hm 6, cell_of hm 7, cell_of hm 8, cell_of hm 9, cell_of hm 10, cell_of hn 0, cell_of hn 1, cell_of hn 2, cell_of hn 3, cell_of hn 4, cell_of hn 5, cell_of hn 6, cell_of hn 7, cell_of hn 8, cell_of hn 9, cell_of hn 10, cell_of ha 0, cell_of ha 1, cell_of ha 2, cell_of ha 3, cell_of ha 4, cell_of ha 5, cell_of ha 6, cell_of ha 7, cell_of ha 8, cell_of ha 9, cell_of ha 10, cell_of hw 0, cell_of hw 1, cell_of hw 2, cell_of hw 3, cell_of hw 4, cell_of hw 5, cell_of hw 6, cell_of hw 7, cell_of hw 8, cell_of hw 9, cell_of hw 10⟩)
        have HGB := Lib.hid (fun W (hW : Below W8.heap.size W8 W) => awake_m (HG.out.1.below (HB8.out.trans (hW.mono HB8.out.size))) (HG.out.2.below (HB8.out.trans (hW.mono HB8.out.size))))
        clear hb8 hA7 hA8 hW8 hM8 hN8 hW8e hk
        go_wp2_with fail
        rw [← HW8E.out]
        clear c0 c1 c2 c3 c4 c5 c6 c7 c8 c9 c10
        refine wp_only ?_
        refine wp_region_held_drew (S := fun W => W.cell? ⟨w.heap.size, 0, none⟩ = some (.int .i64 p.kd) ∧ W.cell? ⟨w.heap.size, 1, none⟩ = some (.int .i64 p.fr) ∧ W.cell? ⟨w.heap.size, 2, none⟩ = some (.int .i64 p.tt) ∧ W.cell? ⟨w.heap.size, 3, none⟩ = some (.int .i64 p.g) ∧ W.cell? ⟨w.heap.size, 4, none⟩ = some (.int .i64 p.nd) ∧ W.cell? ⟨w.heap.size, 5, none⟩ = some (.int .i64 p.tr) ∧ W.cell? ⟨w.heap.size, 6, none⟩ = some (.int .i64 p.lw) ∧ W.cell? ⟨w.heap.size, 7, none⟩ = some (.int .i64 p.co) ∧ W.cell? ⟨w.heap.size, 8, none⟩ = some (.int .i64 p.ti) ∧ W.cell? ⟨w.heap.size, 9, none⟩ = some (.slice tA p.tl.length tc) ∧ W.cell? ⟨w.heap.size, 10, none⟩ = some (.slice oA p.os.length oc) ∧ W.cell? ⟨w.heap.size + 1, 0, none⟩ = some (.int .i64 q.kd) ∧ W.cell? ⟨w.heap.size + 1, 1, none⟩ = some (.int .i64 q.fr) ∧ W.cell? ⟨w.heap.size + 1, 2, none⟩ = some (.int .i64 q.tt) ∧ W.cell? ⟨w.heap.size + 1, 3, none⟩ = some (.int .i64 q.g) ∧ W.cell? ⟨w.heap.size + 1, 4, none⟩ = some (.int .i64 q.nd) ∧ W.cell? ⟨w.heap.size + 1, 5, none⟩ = some (.int .i64 q.tr) ∧ W.cell? ⟨w.heap.size + 1, 6, none⟩ = some (.int .i64 q.lw) ∧ W.cell? ⟨w.heap.size + 1, 7, none⟩ = some (.int .i64 q.co) ∧ W.cell? ⟨w.heap.size + 1, 8, none⟩ = some (.int .i64 q.ti) ∧ W.cell? ⟨w.heap.size + 1, 9, none⟩ = some (.slice tB q.tl.length td) ∧ W.cell? ⟨w.heap.size + 1, 10, none⟩ = some (.slice oB q.os.length od) ∧ W.cell? ⟨w7.heap.size, 0, none⟩ = some (.int .i64 k) ∧ W.cell? ⟨w7.heap.size, 1, none⟩ = some (.int .i64 p.tt) ∧ W.cell? ⟨w7.heap.size, 2, none⟩ = some (.int .i64 p.fr) ∧ W.cell? ⟨w7.heap.size, 3, none⟩ = some (.int .i64 p.g) ∧ W.cell? ⟨w7.heap.size, 4, none⟩ = some (.int .i64 p.nd) ∧ W.cell? ⟨w7.heap.size, 5, none⟩ = some (.int .i64 p.tr) ∧ W.cell? ⟨w7.heap.size, 6, none⟩ = some (.int .i64 0) ∧ W.cell? ⟨w7.heap.size, 7, none⟩ = some (.int .i64 0) ∧ W.cell? ⟨w7.heap.size, 8, none⟩ = some (.int .i64 0) ∧ W.cell? ⟨w7.heap.size, 9, none⟩ = some (.slice xA 0 xc) ∧ W.cell? ⟨w7.heap.size, 10, none⟩ = some (.slice yA 0 yc) ∧ W.cell? ⟨w7.heap.size + 1, 0, none⟩ = some (.int .i64 k) ∧ W.cell? ⟨w7.heap.size + 1, 1, none⟩ = some (.int .i64 p.tt) ∧ W.cell? ⟨w7.heap.size + 1, 2, none⟩ = some (.int .i64 p.fr) ∧ W.cell? ⟨w7.heap.size + 1, 3, none⟩ = some (.int .i64 p.g) ∧ W.cell? ⟨w7.heap.size + 1, 4, none⟩ = some (.int .i64 p.nd) ∧ W.cell? ⟨w7.heap.size + 1, 5, none⟩ = some (.int .i64 p.tr) ∧ W.cell? ⟨w7.heap.size + 1, 6, none⟩ = some (.int .i64 0) ∧ W.cell? ⟨w7.heap.size + 1, 7, none⟩ = some (.int .i64 0) ∧ W.cell? ⟨w7.heap.size + 1, 8, none⟩ = some (.int .i64 0) ∧ W.cell? ⟨w7.heap.size + 1, 9, none⟩ = some (.slice none 0 0) ∧ W.cell? ⟨w7.heap.size + 1, 10, none⟩ = some (.slice none 0 0)) (by kernel_rfl) (HSC.out _ (below_drew (Below.refl _ _))) (fun hHeld => ?_)
        refine wpAnyH_take (i := 0) (oi := { dst := some 40, op := Op.load 31 (Operand.tmp 7), type := 31, pos := "law.go:94", after := #[], guard := none }) (v := ?vv70) rfl (by kernel_rfl) (by kernel_rfl) (by kernel_rfl) (fun _ _ _ h => h) ?hy70 (by assumption) ?rest70
        case hy70 => (refine Or.inl ⟨by rfl, ?_⟩; intro W hSw; (try dsimp only at hSw); go_simp; (try with_reducible rfl))
        try simp only [Act.put, List.setIfInBounds_toArray, List.set_cons_zero, List.set_cons_succ]
        refine wpAnyH_take (i := 2) (oi := { dst := some 42, op := Op.load 26 (Operand.tmp 8), type := 26, pos := "law.go:94", after := #[], guard := none }) (v := ?vv71) rfl (by kernel_rfl) (by kernel_rfl) (by kernel_rfl) (fun _ _ _ h => h) ?hy71 (by assumption) ?rest71
        case hy71 => (refine Or.inl ⟨by rfl, ?_⟩; intro W hSw; (try dsimp only at hSw); go_simp; (try with_reducible rfl))
        try simp only [Act.put, List.setIfInBounds_toArray, List.set_cons_zero, List.set_cons_succ]
        refine wpAnyH_ready (rs := [1]) (by kernel_rfl) (by simp) ?_
        refine AllReadyH.cons (o := { dst := some 41, op := Op.call { callee := Callee.value (Operand.func 8), args := #[Operand.tmp 40], argTypes := #[31] }, type := 26, pos := "law.go:94", after := #[{ on := 0, ground := Ground.data }], guard := none }) rfl (fun K hK => ?step72) ?more72
        case more72 => exact AllReadyH.nil
        ((go_simp; go_at_call 8; refine (plain_m (HPM.out _ (below_drew (Below.refl _ W8))).2.2.1).mono ?_; rintro e x1 ⟨rfl, hbn⟩; have X1 := Lib.hid (below_of_drew hbn); clear hbn; go_wp2_with fail))
        refine hK.out _ _ ?hS72 (fun hHeld => ?rr72)
        case hS72 => (exact HSC.out _ X1.out)
        clear hK K
        try simp only [Act.put, List.setIfInBounds_toArray, List.set_cons_zero, List.set_cons_succ]
        have HQ1 := Lib.hid (rsame_any (HPM.out _ X1.out).2.2.1 (HPM.out _ X1.out).2.2.2)
        rw [decide_eq_true (rfl : ansM p k = ansM p k)] at HQ1
        refine wpAnyH_ready (rs := [3]) (by kernel_rfl) (by simp) ?_
        refine AllReadyH.cons (o := { dst := some 43, op := Op.call { callee := Callee.value (Operand.func 7), args := #[Operand.tmp 41, Operand.tmp 42], argTypes := #[26, 26] }, type := 4, pos := "law.go:94", after := #[{ on := 1, ground := Ground.data }, { on := 2, ground := Ground.data }, { on := 1, ground := Ground.chain }], guard := none }) rfl (fun K hK => ?step73) ?more73
        case more73 => exact AllReadyH.nil
        ((go_simp; go_at_call 7; refine (HQ1.out).mono ?_; rintro e x2 ⟨rfl, hbn⟩; have X2 := Lib.hid (X1.out.trans (hbn.mono X1.out.size)); clear hbn; go_wp2_with fail))
        refine hK.out _ _ ?hS73 (fun hHeld => ?rr73)
        case hS73 => (exact HSC.out _ X2.out)
        clear hK K
        try simp only [Act.put, List.setIfInBounds_toArray, List.set_cons_zero, List.set_cons_succ]
        refine wpAnyH_take (i := 4) (oi := { dst := some 44, op := Op.move (Operand.tmp 43), type := 4, pos := "law.go:94", after := #[{ on := 3, ground := Ground.data }, { on := 3, ground := Ground.chain }], guard := none }) (v := ?vv74) rfl (by kernel_rfl) (by kernel_rfl) (by kernel_rfl) (fun _ _ _ h => h) ?hy74 (by assumption) ?rest74
        case hy74 => (refine Or.inl ⟨by rfl, ?_⟩; intro W hSw; (try dsimp only at hSw); go_simp; (try with_reducible rfl))
        try simp only [Act.put, List.setIfInBounds_toArray, List.set_cons_zero, List.set_cons_succ]
        refine wpAnyH_take (i := 5) (oi := { dst := some 45, op := Op.load 26 (Operand.tmp 3), type := 26, pos := "law.go:94", after := #[{ on := 4, ground := Ground.guard }], guard := some (4, true) }) (v := ?vv75) rfl (by kernel_rfl) (by kernel_rfl) (by kernel_rfl) (fun _ _ _ h => h) ?hy75 (by assumption) ?rest75
        case hy75 => (refine Or.inl ⟨by rfl, ?_⟩; intro W hSw; (try dsimp only at hSw); go_simp; (try with_reducible rfl))
        try simp only [Act.put, List.setIfInBounds_toArray, List.set_cons_zero, List.set_cons_succ]
        refine wpAnyH_take (i := 7) (oi := { dst := some 47, op := Op.load 26 (Operand.tmp 5), type := 26, pos := "law.go:94", after := #[{ on := 4, ground := Ground.guard }], guard := some (4, true) }) (v := ?vv76) rfl (by kernel_rfl) (by kernel_rfl) (by kernel_rfl) (fun _ _ _ h => h) ?hy76 (by assumption) ?rest76
        case hy76 => (refine Or.inl ⟨by rfl, ?_⟩; intro W hSw; (try dsimp only at hSw); go_simp; (try with_reducible rfl))
        try simp only [Act.put, List.setIfInBounds_toArray, List.set_cons_zero, List.set_cons_succ]
        refine wpAnyH_take (i := 10) (oi := { dst := some 50, op := Op.load 26 (Operand.tmp 3), type := 26, pos := "law.go:94", after := #[{ on := 4, ground := Ground.guard }], guard := some (4, true) }) (v := ?vv77) rfl (by kernel_rfl) (by kernel_rfl) (by kernel_rfl) (fun _ _ _ h => h) ?hy77 (by assumption) ?rest77
        case hy77 => (refine Or.inl ⟨by rfl, ?_⟩; intro W hSw; (try dsimp only at hSw); go_simp; (try with_reducible rfl))
        try simp only [Act.put, List.setIfInBounds_toArray, List.set_cons_zero, List.set_cons_succ]
        refine wpAnyH_take (i := 11) (oi := { dst := some 51, op := Op.load 26 (Operand.tmp 5), type := 26, pos := "law.go:94", after := #[{ on := 4, ground := Ground.guard }], guard := some (4, true) }) (v := ?vv78) rfl (by kernel_rfl) (by kernel_rfl) (by kernel_rfl) (fun _ _ _ h => h) ?hy78 (by assumption) ?rest78
        case hy78 => (refine Or.inl ⟨by rfl, ?_⟩; intro W hSw; (try dsimp only at hSw); go_simp; (try with_reducible rfl))
        try simp only [Act.put, List.setIfInBounds_toArray, List.set_cons_zero, List.set_cons_succ]
        refine wpAnyH_ready (rs := [6]) (by kernel_rfl) (by simp) ?_
        refine AllReadyH.cons (o := { dst := some 46, op := Op.call { callee := Callee.value (Operand.func 6), args := #[Operand.tmp 45], argTypes := #[26] }, type := 31, pos := "law.go:94", after := #[{ on := 5, ground := Ground.data }, { on := 4, ground := Ground.chain }, { on := 4, ground := Ground.guard }], guard := some (4, true) }) rfl (fun K hK => ?step79) ?more79
        case more79 => exact AllReadyH.nil
        ((go_simp; go_at_call 6; refine (ours_any (HPM.out _ X2.out).1).mono ?_; rintro e x3 ⟨rfl, hbn⟩; have X3 := Lib.hid (X2.out.trans (hbn.mono X2.out.size)); clear hbn; go_wp2_with fail))
        refine hK.out _ _ ?hS79 (fun hHeld => ?rr79)
        case hS79 => (exact HSC.out _ X3.out)
        clear hK K
        try simp only [Act.put, List.setIfInBounds_toArray, List.set_cons_zero, List.set_cons_succ]
        refine wpAnyH_ready (rs := [8]) (by kernel_rfl) (by simp) ?_
        refine AllReadyH.cons (o := { dst := some 48, op := Op.call { callee := Callee.value (Operand.func 6), args := #[Operand.tmp 47], argTypes := #[26] }, type := 31, pos := "law.go:94", after := #[{ on := 7, ground := Ground.data }, { on := 6, ground := Ground.chain }, { on := 4, ground := Ground.guard }], guard := some (4, true) }) rfl (fun K hK => ?step80) ?more80
        case more80 => exact AllReadyH.nil
        ((go_simp; go_at_call 6; refine (ours_any (HPM.out _ X3.out).2.1).mono ?_; rintro e x4 ⟨rfl, hbn⟩; have X4 := Lib.hid (X3.out.trans (hbn.mono X3.out.size)); clear hbn; go_wp2_with fail))
        refine hK.out _ _ ?hS80 (fun hHeld => ?rr80)
        case hS80 => (exact HSC.out _ X4.out)
        clear hK K
        try simp only [Act.put, List.setIfInBounds_toArray, List.set_cons_zero, List.set_cons_succ]
        obtain ⟨pq, hpq⟩ : ∃ b, decide (p = q) = b := ⟨_, rfl⟩
        have HQ2 := Lib.hid (Same_any (HPM.out _ X4.out).1 (HPM.out _ X4.out).2.1)
        have HQ3 := Lib.hid (fun W (hW : Below W8.heap.size W8 W) => rsame_any (HPM.out _ hW).1 (HPM.out _ hW).2.1)
        rw [hpq] at HQ2 HQ3
        clear hpq
        refine wpAnyH_ready (rs := [9]) (by kernel_rfl) (by simp) ?_
        refine AllReadyH.cons (o := { dst := some 49, op := Op.call { callee := Callee.value (Operand.func 9), args := #[Operand.tmp 46, Operand.tmp 48], argTypes := #[31, 31] }, type := 4, pos := "law.go:94", after := #[{ on := 6, ground := Ground.data }, { on := 8, ground := Ground.data }, { on := 8, ground := Ground.chain }, { on := 4, ground := Ground.guard }], guard := some (4, true) }) rfl (fun K hK => ?step81) ?more81
        case more81 => exact AllReadyH.nil
        ((go_simp; go_at_call 9; refine (HQ2.out).mono ?_; rintro e x5 ⟨rfl, hbn⟩; have X5 := Lib.hid (X4.out.trans (hbn.mono X4.out.size)); clear hbn; go_wp2_with fail))
        refine hK.out _ _ ?hS81 (fun hHeld => ?rr81)
        case hS81 => (exact HSC.out _ X5.out)
        clear hK K
        try simp only [Act.put, List.setIfInBounds_toArray, List.set_cons_zero, List.set_cons_succ]
        refine wpAnyH_ready (rs := [12]) (by kernel_rfl) (by simp) ?_
        refine AllReadyH.cons (o := { dst := some 52, op := Op.call { callee := Callee.value (Operand.func 7), args := #[Operand.tmp 50, Operand.tmp 51], argTypes := #[26, 26] }, type := 4, pos := "law.go:94", after := #[{ on := 10, ground := Ground.data }, { on := 11, ground := Ground.data }, { on := 9, ground := Ground.chain }, { on := 4, ground := Ground.guard }], guard := some (4, true) }) rfl (fun K hK => ?step82) ?more82
        case more82 => exact AllReadyH.nil
        ((go_simp; go_at_call 7; refine (HQ3.out _ X5.out).mono ?_; rintro e x6 ⟨rfl, hbn⟩; have X6 := Lib.hid (X5.out.trans (hbn.mono X5.out.size)); clear hbn; go_wp2_with fail))
        refine hK.out _ _ ?hS82 (fun hHeld => ?rr82)
        case hS82 => (exact HSC.out _ X6.out)
        clear hK K
        try simp only [Act.put, List.setIfInBounds_toArray, List.set_cons_zero, List.set_cons_succ]
        refine wpAnyH_take (i := 13) (oi := { dst := some 53, op := Op.binOp BinOp.eql 4 (Operand.tmp 49) (Operand.tmp 52) 4, type := 4, pos := "law.go:94", after := #[{ on := 9, ground := Ground.data }, { on := 12, ground := Ground.data }, { on := 4, ground := Ground.guard }], guard := some (4, true) }) (v := (.bool true)) rfl (by kernel_rfl) (by kernel_rfl) (by kernel_rfl) (fun _ _ _ h => h) ?hy83 (by assumption) ?rest83
        case hy83 => ((refine Or.inl ⟨by rfl, ?_⟩; intro W hSw; (try dsimp only at hSw); go_simp; (try simp)))
        try simp only [Act.put, List.setIfInBounds_toArray, List.set_cons_zero, List.set_cons_succ]
        refine wpAnyH_take (i := 14) (oi := { dst := some 54, op := Op.pick (Operand.tmp 44) (Operand.tmp 53) (Operand.const (Value.bool false)), type := 4, pos := "law.go:94", after := #[{ on := 4, ground := Ground.data }, { on := 13, ground := Ground.data }], guard := none }) (v := ?vv84) rfl (by kernel_rfl) (by kernel_rfl) (by kernel_rfl) (fun _ _ _ h => h) ?hy84 (by assumption) ?rest84
        case hy84 => (refine Or.inl ⟨by rfl, ?_⟩; intro W hSw; (try dsimp only at hSw); go_simp; (try with_reducible rfl))
        try simp only [Act.put, List.setIfInBounds_toArray, List.set_cons_zero, List.set_cons_succ]
        refine wpAnyH_take (i := 15) (oi := { dst := some 55, op := Op.move (Operand.tmp 54), type := 4, pos := "law.go:94", after := #[{ on := 14, ground := Ground.data }, { on := 12, ground := Ground.chain }], guard := none }) (v := ?vv85) rfl (by kernel_rfl) (by kernel_rfl) (by kernel_rfl) (fun _ _ _ h => h) ?hy85 (by assumption) ?rest85
        case hy85 => (refine Or.inl ⟨by rfl, ?_⟩; intro W hSw; (try dsimp only at hSw); go_simp; (try with_reducible rfl))
        try simp only [Act.put, List.setIfInBounds_toArray, List.set_cons_zero, List.set_cons_succ]
        refine wpAnyH_take (i := 16) (oi := { dst := some 56, op := Op.load 26 (Operand.tmp 3), type := 26, pos := "law.go:94", after := #[{ on := 15, ground := Ground.guard }], guard := some (15, true) }) (v := ?vv86) rfl (by kernel_rfl) (by kernel_rfl) (by kernel_rfl) (fun _ _ _ h => h) ?hy86 (by assumption) ?rest86
        case hy86 => (refine Or.inl ⟨by rfl, ?_⟩; intro W hSw; (try dsimp only at hSw); go_simp; (try with_reducible rfl))
        try simp only [Act.put, List.setIfInBounds_toArray, List.set_cons_zero, List.set_cons_succ]
        refine wpAnyH_take (i := 18) (oi := { dst := some 58, op := Op.load 26 (Operand.tmp 3), type := 26, pos := "law.go:94", after := #[{ on := 15, ground := Ground.guard }], guard := some (15, true) }) (v := ?vv87) rfl (by kernel_rfl) (by kernel_rfl) (by kernel_rfl) (fun _ _ _ h => h) ?hy87 (by assumption) ?rest87
        case hy87 => (refine Or.inl ⟨by rfl, ?_⟩; intro W hSw; (try dsimp only at hSw); go_simp; (try with_reducible rfl))
        try simp only [Act.put, List.setIfInBounds_toArray, List.set_cons_zero, List.set_cons_succ]
        refine wpAnyH_ready (rs := [17]) (by kernel_rfl) (by simp) ?_
        refine AllReadyH.cons (o := { dst := some 57, op := Op.call { callee := Callee.value (Operand.func 6), args := #[Operand.tmp 56], argTypes := #[26] }, type := 31, pos := "law.go:94", after := #[{ on := 16, ground := Ground.data }, { on := 15, ground := Ground.chain }, { on := 15, ground := Ground.guard }], guard := some (15, true) }) rfl (fun K hK => ?step88) ?more88
        case more88 => exact AllReadyH.nil
        ((go_simp; go_at_call 6; refine (ours_any (HPM.out _ X6.out).1).mono ?_; rintro e x7 ⟨rfl, hbn⟩; have X7 := Lib.hid (X6.out.trans (hbn.mono X6.out.size)); clear hbn; go_wp2_with fail))
        refine hK.out _ _ ?hS88 (fun hHeld => ?rr88)
        case hS88 => (exact HSC.out _ X7.out)
        clear hK K
        try simp only [Act.put, List.setIfInBounds_toArray, List.set_cons_zero, List.set_cons_succ]
        refine wpAnyH_ready (rs := [19]) (by kernel_rfl) (by simp) ?_
        refine AllReadyH.cons (o := { dst := some 59, op := Op.call { callee := Callee.value (Operand.func 6), args := #[Operand.tmp 58], argTypes := #[26] }, type := 31, pos := "law.go:94", after := #[{ on := 18, ground := Ground.data }, { on := 17, ground := Ground.chain }, { on := 15, ground := Ground.guard }], guard := some (15, true) }) rfl (fun K hK => ?step89) ?more89
        case more89 => exact AllReadyH.nil
        ((go_simp; go_at_call 6; refine (ours_any (HPM.out _ X7.out).1).mono ?_; rintro e x8 ⟨rfl, hbn⟩; have X8 := Lib.hid (X7.out.trans (hbn.mono X7.out.size)); clear hbn; go_wp2_with fail))
        refine hK.out _ _ ?hS89 (fun hHeld => ?rr89)
        case hS89 => (exact HSC.out _ X8.out)
        clear hK K
        try simp only [Act.put, List.setIfInBounds_toArray, List.set_cons_zero, List.set_cons_succ]
        have HQ4 := Lib.hid (Same_any (HPM.out _ X8.out).1 (HPM.out _ X8.out).1)
        rw [decide_eq_true (rfl : p = p)] at HQ4
        refine wpAnyH_ready (rs := [20]) (by kernel_rfl) (by simp) ?_
        refine AllReadyH.cons (o := { dst := some 60, op := Op.call { callee := Callee.value (Operand.func 9), args := #[Operand.tmp 57, Operand.tmp 59], argTypes := #[31, 31] }, type := 4, pos := "law.go:94", after := #[{ on := 17, ground := Ground.data }, { on := 19, ground := Ground.data }, { on := 19, ground := Ground.chain }, { on := 15, ground := Ground.guard }], guard := some (15, true) }) rfl (fun K hK => ?step90) ?more90
        case more90 => exact AllReadyH.nil
        ((go_simp; go_at_call 9; refine (HQ4.out).mono ?_; rintro e x9 ⟨rfl, hbn⟩; have X9 := Lib.hid (X8.out.trans (hbn.mono X8.out.size)); clear hbn; go_wp2_with fail))
        refine hK.out _ _ ?hS90 (fun hHeld => ?rr90)
        case hS90 => (exact HSC.out _ X9.out)
        clear hK K
        try simp only [Act.put, List.setIfInBounds_toArray, List.set_cons_zero, List.set_cons_succ]
        refine wpAnyH_take (i := 21) (oi := { dst := some 61, op := Op.pick (Operand.tmp 55) (Operand.tmp 60) (Operand.const (Value.bool false)), type := 4, pos := "law.go:94", after := #[{ on := 15, ground := Ground.data }, { on := 20, ground := Ground.data }], guard := none }) (v := ?vv91) rfl (by kernel_rfl) (by kernel_rfl) (by kernel_rfl) (fun _ _ _ h => h) ?hy91 (by assumption) ?rest91
        case hy91 => (refine Or.inl ⟨by rfl, ?_⟩; intro W hSw; (try dsimp only at hSw); go_simp; (try with_reducible rfl))
        try simp only [Act.put, List.setIfInBounds_toArray, List.set_cons_zero, List.set_cons_succ]
        refine wpAnyH_take (i := 22) (oi := { dst := some 62, op := Op.move (Operand.tmp 61), type := 4, pos := "law.go:94", after := #[{ on := 21, ground := Ground.data }, { on := 20, ground := Ground.chain }], guard := none }) (v := ?vv92) rfl (by kernel_rfl) (by kernel_rfl) (by kernel_rfl) (fun _ _ _ h => h) ?hy92 (by assumption) ?rest92
        case hy92 => (refine Or.inl ⟨by rfl, ?_⟩; intro W hSw; (try dsimp only at hSw); go_simp; (try with_reducible rfl))
        try simp only [Act.put, List.setIfInBounds_toArray, List.set_cons_zero, List.set_cons_succ]
        refine wpAnyH_ready (rs := [23]) (by kernel_rfl) (by simp) ?_
        refine AllReadyH.cons (o := { dst := some 63, op := Op.call { callee := Callee.value (Operand.func 10), args := #[], argTypes := #[] }, type := 4, pos := "law.go:94", after := #[{ on := 22, ground := Ground.chain }, { on := 22, ground := Ground.guard }], guard := some (22, true) }) rfl (fun K hK => ?step93) ?more93
        case more93 => exact AllReadyH.nil
        ((go_simp; go_at_call 10; refine (HGB.out _ X9.out).mono ?_; rintro e x10 ⟨rfl, hbn⟩; have X10 := Lib.hid (X9.out.trans (hbn.mono X9.out.size)); clear hbn; go_wp2_with fail))
        refine hK.out _ _ ?hS93 (fun hHeld => ?rr93)
        case hS93 => (exact HSC.out _ X10.out)
        clear hK K
        try simp only [Act.put, List.setIfInBounds_toArray, List.set_cons_zero, List.set_cons_succ]
        refine wpAnyH_take (i := 24) (oi := { dst := some 64, op := Op.pick (Operand.tmp 62) (Operand.tmp 63) (Operand.const (Value.bool false)), type := 4, pos := "law.go:94", after := #[{ on := 22, ground := Ground.data }, { on := 23, ground := Ground.data }], guard := none }) (v := ?vv94) rfl (by kernel_rfl) (by kernel_rfl) (by kernel_rfl) (fun _ _ _ h => h) ?hy94 (by assumption) ?rest94
        case hy94 => (refine Or.inl ⟨by rfl, ?_⟩; intro W hSw; (try dsimp only at hSw); go_simp; (try with_reducible rfl))
        try simp only [Act.put, List.setIfInBounds_toArray, List.set_cons_zero, List.set_cons_succ]
        refine wpAnyH_take (i := 25) (oi := { dst := some 6, op := Op.assign (Operand.tmp 64), type := 4, pos := "law.go:94", after := #[{ on := 24, ground := Ground.data }, { on := 23, ground := Ground.chain }, { on := 0, ground := Ground.phase }, { on := 1, ground := Ground.phase }, { on := 2, ground := Ground.phase }, { on := 3, ground := Ground.phase }, { on := 4, ground := Ground.phase }, { on := 5, ground := Ground.phase }, { on := 6, ground := Ground.phase }, { on := 7, ground := Ground.phase }, { on := 8, ground := Ground.phase }, { on := 9, ground := Ground.phase }, { on := 10, ground := Ground.phase }, { on := 11, ground := Ground.phase }, { on := 12, ground := Ground.phase }, { on := 13, ground := Ground.phase }, { on := 14, ground := Ground.phase }, { on := 15, ground := Ground.phase }, { on := 16, ground := Ground.phase }, { on := 17, ground := Ground.phase }, { on := 18, ground := Ground.phase }, { on := 19, ground := Ground.phase }, { on := 20, ground := Ground.phase }, { on := 21, ground := Ground.phase }, { on := 22, ground := Ground.phase }, { on := 23, ground := Ground.phase }, { on := 24, ground := Ground.phase }], guard := none }) (v := ?vv95) rfl (by kernel_rfl) (by kernel_rfl) (by kernel_rfl) (fun _ _ _ h => h) ?hy95 (by assumption) ?rest95
        case hy95 => (refine Or.inl ⟨by rfl, ?_⟩; intro W hSw; (try dsimp only at hSw); go_simp; (try with_reducible rfl))
        try simp only [Act.put, List.setIfInBounds_toArray, List.set_cons_zero, List.set_cons_succ]
        refine wpAnyH_done (by kernel_rfl) ?_ _
        clear hHeld
        dsimp only [onlyN]
        go_wp2_with fail
        go_ret
        exact ⟨rfl, HB8.out.trans (X10.out.mono HB8.out.size)⟩
    · rw [if_neg hk]
      have h1 : (k == 11) = false := by simp; omega
      have h2 : (k == 12) = false := by simp; omega
      have h4 : (k == 14) = false := by simp; omega
      have hb8 := (below_new (w := w7) (.cells #[.int .i64 k, .int .i64 p.tt, .int .i64 p.fr, .int .i64 p.g, .int .i64 p.nd, .int .i64 0, .int .i64 0, .int .i64 0, .int .i64 0, .slice xA 0 xc, .slice yA 0 yc] 31)).trans ((below_new (w := w7.alloc (.cells #[.int .i64 k, .int .i64 p.tt, .int .i64 p.fr, .int .i64 p.g, .int .i64 p.nd, .int .i64 0, .int .i64 0, .int .i64 0, .int .i64 0, .slice xA 0 xc, .slice yA 0 yc] 31)) (.cells #[.int .i64 k, .int .i64 p.tt, .int .i64 p.fr, .int .i64 p.g, .int .i64 p.nd, .int .i64 0, .int .i64 0, .int .i64 0, .int .i64 0, .slice none 0 0, .slice none 0 0] 26)).mono (below_new (w := w7) (.cells #[.int .i64 k, .int .i64 p.tt, .int .i64 p.fr, .int .i64 p.g, .int .i64 p.nd, .int .i64 0, .int .i64 0, .int .i64 0, .int .i64 0, .slice xA 0 xc, .slice yA 0 yc] 31)).size)
      have hA7 := alloc_at w7 (.cells #[.int .i64 k, .int .i64 p.tt, .int .i64 p.fr, .int .i64 p.g, .int .i64 p.nd, .int .i64 0, .int .i64 0, .int .i64 0, .int .i64 0, .slice xA 0 xc, .slice yA 0 yc] 31)
      have hA8 := ((below_new (w := w7.alloc (.cells #[.int .i64 k, .int .i64 p.tt, .int .i64 p.fr, .int .i64 p.g, .int .i64 p.nd, .int .i64 0, .int .i64 0, .int .i64 0, .int .i64 0, .slice xA 0 xc, .slice yA 0 yc] 31)) (.cells #[.int .i64 k, .int .i64 p.tt, .int .i64 p.fr, .int .i64 p.g, .int .i64 p.nd, .int .i64 0, .int .i64 0, .int .i64 0, .int .i64 0, .slice none 0 0, .slice none 0 0] 26)).block w7.heap.size (heap_lt hA7)).trans hA7
      have hW8 := alloc_at (w7.alloc (.cells #[.int .i64 k, .int .i64 p.tt, .int .i64 p.fr, .int .i64 p.g, .int .i64 p.nd, .int .i64 0, .int .i64 0, .int .i64 0, .int .i64 0, .slice xA 0 xc, .slice yA 0 yc] 31)) (.cells #[.int .i64 k, .int .i64 p.tt, .int .i64 p.fr, .int .i64 p.g, .int .i64 p.nd, .int .i64 0, .int .i64 0, .int .i64 0, .int .i64 0, .slice none 0 0, .slice none 0 0] 26)
      rw [asz] at hW8
      obtain ⟨W8, hW8e⟩ : ∃ W, W = ((w7.alloc (.cells #[.int .i64 k, .int .i64 p.tt, .int .i64 p.fr, .int .i64 p.g, .int .i64 p.nd, .int .i64 0, .int .i64 0, .int .i64 0, .int .i64 0, .slice xA 0 xc, .slice yA 0 yc] 31)).alloc (.cells #[.int .i64 k, .int .i64 p.tt, .int .i64 p.fr, .int .i64 p.g, .int .i64 p.nd, .int .i64 0, .int .i64 0, .int .i64 0, .int .i64 0, .slice none 0 0, .slice none 0 0] 26)) := ⟨_, rfl⟩
      have HW8E := Lib.hid hW8e
      rw [← hW8e] at hb8 hA8 hW8
      have hM8 := (hb8.block w.heap.size (heap_lt HM7.out.1)).trans HM7.out.1
      have hN8 := (hb8.block (w.heap.size + 1) (heap_lt HM7.out.2)).trans HM7.out.2
      have HB8 := Lib.hid (HB7.out.trans (hb8.mono HB7.out.size))
      have HPM : Hid (∀ W, Below W8.heap.size W8 W → MsgIs W (.agg #[.int .i64 p.kd, .int .i64 p.fr, .int .i64 p.tt, .int .i64 p.g, .int .i64 p.nd, .int .i64 p.tr, .int .i64 p.lw, .int .i64 p.co, .int .i64 p.ti, .slice tA p.tl.length tc, .slice oA p.os.length oc]) p ∧ MsgIs W (.agg #[.int .i64 q.kd, .int .i64 q.fr, .int .i64 q.tt, .int .i64 q.g, .int .i64 q.nd, .int .i64 q.tr, .int .i64 q.lw, .int .i64 q.co, .int .i64 q.ti, .slice tB q.tl.length td, .slice oB q.os.length od]) q ∧ MsgIs W (.agg #[.int .i64 k, .int .i64 p.tt, .int .i64 p.fr, .int .i64 p.g, .int .i64 p.nd, .int .i64 0, .int .i64 0, .int .i64 0, .int .i64 0, .slice xA 0 xc, .slice yA 0 yc]) (ansM p k) ∧ MsgIs W (.agg #[.int .i64 k, .int .i64 p.tt, .int .i64 p.fr, .int .i64 p.g, .int .i64 p.nd, .int .i64 0, .int .i64 0, .int .i64 0, .int .i64 0, .slice none 0 0, .slice none 0 0]) (ansM p k)) := Lib.hid (fun W hW => by
        have h := HMM.out W (hb8.trans (hW.mono hb8.size))
        refine ⟨h.1, h.2, ⟨xA, xc, yA, yc, by simp only [ansM]; rw [if_neg hk]; rfl, HN0.out.1 W, HN0.out.2 W, fun o h => by cases h⟩, ⟨none, 0, none, 0, by simp only [ansM]; rw [if_neg hk]; rfl, NumsAt.nil _, OpsAt.nil _, fun o h => by cases h⟩⟩)
      have HSC : Hid (∀ W, Below W8.heap.size W8 W → W.cell? ⟨w.heap.size, 0, none⟩ = some (.int .i64 p.kd) ∧ W.cell? ⟨w.heap.size, 1, none⟩ = some (.int .i64 p.fr) ∧ W.cell? ⟨w.heap.size, 2, none⟩ = some (.int .i64 p.tt) ∧ W.cell? ⟨w.heap.size, 3, none⟩ = some (.int .i64 p.g) ∧ W.cell? ⟨w.heap.size, 4, none⟩ = some (.int .i64 p.nd) ∧ W.cell? ⟨w.heap.size, 5, none⟩ = some (.int .i64 p.tr) ∧ W.cell? ⟨w.heap.size, 6, none⟩ = some (.int .i64 p.lw) ∧ W.cell? ⟨w.heap.size, 7, none⟩ = some (.int .i64 p.co) ∧ W.cell? ⟨w.heap.size, 8, none⟩ = some (.int .i64 p.ti) ∧ W.cell? ⟨w.heap.size, 9, none⟩ = some (.slice tA p.tl.length tc) ∧ W.cell? ⟨w.heap.size, 10, none⟩ = some (.slice oA p.os.length oc) ∧ W.cell? ⟨w.heap.size + 1, 0, none⟩ = some (.int .i64 q.kd) ∧ W.cell? ⟨w.heap.size + 1, 1, none⟩ = some (.int .i64 q.fr) ∧ W.cell? ⟨w.heap.size + 1, 2, none⟩ = some (.int .i64 q.tt) ∧ W.cell? ⟨w.heap.size + 1, 3, none⟩ = some (.int .i64 q.g) ∧ W.cell? ⟨w.heap.size + 1, 4, none⟩ = some (.int .i64 q.nd) ∧ W.cell? ⟨w.heap.size + 1, 5, none⟩ = some (.int .i64 q.tr) ∧ W.cell? ⟨w.heap.size + 1, 6, none⟩ = some (.int .i64 q.lw) ∧ W.cell? ⟨w.heap.size + 1, 7, none⟩ = some (.int .i64 q.co) ∧ W.cell? ⟨w.heap.size + 1, 8, none⟩ = some (.int .i64 q.ti) ∧ W.cell? ⟨w.heap.size + 1, 9, none⟩ = some (.slice tB q.tl.length td) ∧ W.cell? ⟨w.heap.size + 1, 10, none⟩ = some (.slice oB q.os.length od) ∧ W.cell? ⟨w7.heap.size, 0, none⟩ = some (.int .i64 k) ∧ W.cell? ⟨w7.heap.size, 1, none⟩ = some (.int .i64 p.tt) ∧ W.cell? ⟨w7.heap.size, 2, none⟩ = some (.int .i64 p.fr) ∧ W.cell? ⟨w7.heap.size, 3, none⟩ = some (.int .i64 p.g) ∧ W.cell? ⟨w7.heap.size, 4, none⟩ = some (.int .i64 p.nd) ∧ W.cell? ⟨w7.heap.size, 5, none⟩ = some (.int .i64 0) ∧ W.cell? ⟨w7.heap.size, 6, none⟩ = some (.int .i64 0) ∧ W.cell? ⟨w7.heap.size, 7, none⟩ = some (.int .i64 0) ∧ W.cell? ⟨w7.heap.size, 8, none⟩ = some (.int .i64 0) ∧ W.cell? ⟨w7.heap.size, 9, none⟩ = some (.slice xA 0 xc) ∧ W.cell? ⟨w7.heap.size, 10, none⟩ = some (.slice yA 0 yc) ∧ W.cell? ⟨w7.heap.size + 1, 0, none⟩ = some (.int .i64 k) ∧ W.cell? ⟨w7.heap.size + 1, 1, none⟩ = some (.int .i64 p.tt) ∧ W.cell? ⟨w7.heap.size + 1, 2, none⟩ = some (.int .i64 p.fr) ∧ W.cell? ⟨w7.heap.size + 1, 3, none⟩ = some (.int .i64 p.g) ∧ W.cell? ⟨w7.heap.size + 1, 4, none⟩ = some (.int .i64 p.nd) ∧ W.cell? ⟨w7.heap.size + 1, 5, none⟩ = some (.int .i64 0) ∧ W.cell? ⟨w7.heap.size + 1, 6, none⟩ = some (.int .i64 0) ∧ W.cell? ⟨w7.heap.size + 1, 7, none⟩ = some (.int .i64 0) ∧ W.cell? ⟨w7.heap.size + 1, 8, none⟩ = some (.int .i64 0) ∧ W.cell? ⟨w7.heap.size + 1, 9, none⟩ = some (.slice none 0 0) ∧ W.cell? ⟨w7.heap.size + 1, 10, none⟩ = some (.slice none 0 0)) := Lib.hid (fun W hW => by
        have hm := (hW.block w.heap.size (heap_lt hM8)).trans hM8
        have hn := (hW.block (w.heap.size + 1) (heap_lt hN8)).trans hN8
        have ha := (hW.block w7.heap.size (heap_lt hA8)).trans hA8
        have hw := (hW.block (w7.heap.size + 1) (heap_lt hW8)).trans hW8
        exact ⟨cell_of hm 0, cell_of hm 1, cell_of hm 2, cell_of hm 3, cell_of hm 4, cell_of hm 5, cell_of hm 6, cell_of hm 7, cell_of hm 8, cell_of hm 9, cell_of hm 10, cell_of hn 0, cell_of hn 1, cell_of hn 2, cell_of hn 3, cell_of hn 4, cell_of hn 5, cell_of hn 6, cell_of hn 7, cell_of hn 8, cell_of hn 9, cell_of hn 10, cell_of ha 0, cell_of ha 1, cell_of ha 2, cell_of ha 3, cell_of ha 4, cell_of ha 5, cell_of ha 6, cell_of ha 7, cell_of ha 8, cell_of ha 9, cell_of ha 10, cell_of hw 0, cell_of hw 1, cell_of hw 2, cell_of hw 3, cell_of hw 4, cell_of hw 5, cell_of hw 6, cell_of hw 7, cell_of hw 8, cell_of hw 9, cell_of hw 10⟩)
      have HGB := Lib.hid (fun W (hW : Below W8.heap.size W8 W) => awake_m (HG.out.1.below (HB8.out.trans (hW.mono HB8.out.size))) (HG.out.2.below (HB8.out.trans (hW.mono HB8.out.size))))
      clear hb8 hA7 hA8 hW8 hM8 hN8 hW8e hk
      go_wp2_with fail
      rw [← HW8E.out]
      clear c0 c1 c2 c3 c4 c5 c6 c7 c8 c9 c10
      refine wp_only ?_
      refine wp_region_held_drew (S := fun W => W.cell? ⟨w.heap.size, 0, none⟩ = some (.int .i64 p.kd) ∧ W.cell? ⟨w.heap.size, 1, none⟩ = some (.int .i64 p.fr) ∧ W.cell? ⟨w.heap.size, 2, none⟩ = some (.int .i64 p.tt) ∧ W.cell? ⟨w.heap.size, 3, none⟩ = some (.int .i64 p.g) ∧ W.cell? ⟨w.heap.size, 4, none⟩ = some (.int .i64 p.nd) ∧ W.cell? ⟨w.heap.size, 5, none⟩ = some (.int .i64 p.tr) ∧ W.cell? ⟨w.heap.size, 6, none⟩ = some (.int .i64 p.lw) ∧ W.cell? ⟨w.heap.size, 7, none⟩ = some (.int .i64 p.co) ∧ W.cell? ⟨w.heap.size, 8, none⟩ = some (.int .i64 p.ti) ∧ W.cell? ⟨w.heap.size, 9, none⟩ = some (.slice tA p.tl.length tc) ∧ W.cell? ⟨w.heap.size, 10, none⟩ = some (.slice oA p.os.length oc) ∧ W.cell? ⟨w.heap.size + 1, 0, none⟩ = some (.int .i64 q.kd) ∧ W.cell? ⟨w.heap.size + 1, 1, none⟩ = some (.int .i64 q.fr) ∧ W.cell? ⟨w.heap.size + 1, 2, none⟩ = some (.int .i64 q.tt) ∧ W.cell? ⟨w.heap.size + 1, 3, none⟩ = some (.int .i64 q.g) ∧ W.cell? ⟨w.heap.size + 1, 4, none⟩ = some (.int .i64 q.nd) ∧ W.cell? ⟨w.heap.size + 1, 5, none⟩ = some (.int .i64 q.tr) ∧ W.cell? ⟨w.heap.size + 1, 6, none⟩ = some (.int .i64 q.lw) ∧ W.cell? ⟨w.heap.size + 1, 7, none⟩ = some (.int .i64 q.co) ∧ W.cell? ⟨w.heap.size + 1, 8, none⟩ = some (.int .i64 q.ti) ∧ W.cell? ⟨w.heap.size + 1, 9, none⟩ = some (.slice tB q.tl.length td) ∧ W.cell? ⟨w.heap.size + 1, 10, none⟩ = some (.slice oB q.os.length od) ∧ W.cell? ⟨w7.heap.size, 0, none⟩ = some (.int .i64 k) ∧ W.cell? ⟨w7.heap.size, 1, none⟩ = some (.int .i64 p.tt) ∧ W.cell? ⟨w7.heap.size, 2, none⟩ = some (.int .i64 p.fr) ∧ W.cell? ⟨w7.heap.size, 3, none⟩ = some (.int .i64 p.g) ∧ W.cell? ⟨w7.heap.size, 4, none⟩ = some (.int .i64 p.nd) ∧ W.cell? ⟨w7.heap.size, 5, none⟩ = some (.int .i64 0) ∧ W.cell? ⟨w7.heap.size, 6, none⟩ = some (.int .i64 0) ∧ W.cell? ⟨w7.heap.size, 7, none⟩ = some (.int .i64 0) ∧ W.cell? ⟨w7.heap.size, 8, none⟩ = some (.int .i64 0) ∧ W.cell? ⟨w7.heap.size, 9, none⟩ = some (.slice xA 0 xc) ∧ W.cell? ⟨w7.heap.size, 10, none⟩ = some (.slice yA 0 yc) ∧ W.cell? ⟨w7.heap.size + 1, 0, none⟩ = some (.int .i64 k) ∧ W.cell? ⟨w7.heap.size + 1, 1, none⟩ = some (.int .i64 p.tt) ∧ W.cell? ⟨w7.heap.size + 1, 2, none⟩ = some (.int .i64 p.fr) ∧ W.cell? ⟨w7.heap.size + 1, 3, none⟩ = some (.int .i64 p.g) ∧ W.cell? ⟨w7.heap.size + 1, 4, none⟩ = some (.int .i64 p.nd) ∧ W.cell? ⟨w7.heap.size + 1, 5, none⟩ = some (.int .i64 0) ∧ W.cell? ⟨w7.heap.size + 1, 6, none⟩ = some (.int .i64 0) ∧ W.cell? ⟨w7.heap.size + 1, 7, none⟩ = some (.int .i64 0) ∧ W.cell? ⟨w7.heap.size + 1, 8, none⟩ = some (.int .i64 0) ∧ W.cell? ⟨w7.heap.size + 1, 9, none⟩ = some (.slice none 0 0) ∧ W.cell? ⟨w7.heap.size + 1, 10, none⟩ = some (.slice none 0 0)) (by kernel_rfl) (HSC.out _ (below_drew (Below.refl _ _))) (fun hHeld => ?_)
      refine wpAnyH_take (i := 0) (oi := { dst := some 40, op := Op.load 31 (Operand.tmp 7), type := 31, pos := "law.go:94", after := #[], guard := none }) (v := ?vv96) rfl (by kernel_rfl) (by kernel_rfl) (by kernel_rfl) (fun _ _ _ h => h) ?hy96 (by assumption) ?rest96
      case hy96 => (refine Or.inl ⟨by rfl, ?_⟩; intro W hSw; (try dsimp only at hSw); go_simp; (try with_reducible rfl))
      try simp only [Act.put, List.setIfInBounds_toArray, List.set_cons_zero, List.set_cons_succ]
      refine wpAnyH_take (i := 2) (oi := { dst := some 42, op := Op.load 26 (Operand.tmp 8), type := 26, pos := "law.go:94", after := #[], guard := none }) (v := ?vv97) rfl (by kernel_rfl) (by kernel_rfl) (by kernel_rfl) (fun _ _ _ h => h) ?hy97 (by assumption) ?rest97
      case hy97 => (refine Or.inl ⟨by rfl, ?_⟩; intro W hSw; (try dsimp only at hSw); go_simp; (try with_reducible rfl))
      try simp only [Act.put, List.setIfInBounds_toArray, List.set_cons_zero, List.set_cons_succ]
      refine wpAnyH_ready (rs := [1]) (by kernel_rfl) (by simp) ?_
      refine AllReadyH.cons (o := { dst := some 41, op := Op.call { callee := Callee.value (Operand.func 8), args := #[Operand.tmp 40], argTypes := #[31] }, type := 26, pos := "law.go:94", after := #[{ on := 0, ground := Ground.data }], guard := none }) rfl (fun K hK => ?step98) ?more98
      case more98 => exact AllReadyH.nil
      ((go_simp; go_at_call 8; refine (plain_m (HPM.out _ (below_drew (Below.refl _ W8))).2.2.1).mono ?_; rintro e x1 ⟨rfl, hbn⟩; have X1 := Lib.hid (below_of_drew hbn); clear hbn; go_wp2_with fail))
      refine hK.out _ _ ?hS98 (fun hHeld => ?rr98)
      case hS98 => (exact HSC.out _ X1.out)
      clear hK K
      try simp only [Act.put, List.setIfInBounds_toArray, List.set_cons_zero, List.set_cons_succ]
      have HQ1 := Lib.hid (rsame_any (HPM.out _ X1.out).2.2.1 (HPM.out _ X1.out).2.2.2)
      rw [decide_eq_true (rfl : ansM p k = ansM p k)] at HQ1
      refine wpAnyH_ready (rs := [3]) (by kernel_rfl) (by simp) ?_
      refine AllReadyH.cons (o := { dst := some 43, op := Op.call { callee := Callee.value (Operand.func 7), args := #[Operand.tmp 41, Operand.tmp 42], argTypes := #[26, 26] }, type := 4, pos := "law.go:94", after := #[{ on := 1, ground := Ground.data }, { on := 2, ground := Ground.data }, { on := 1, ground := Ground.chain }], guard := none }) rfl (fun K hK => ?step99) ?more99
      case more99 => exact AllReadyH.nil
      ((go_simp; go_at_call 7; refine (HQ1.out).mono ?_; rintro e x2 ⟨rfl, hbn⟩; have X2 := Lib.hid (X1.out.trans (hbn.mono X1.out.size)); clear hbn; go_wp2_with fail))
      refine hK.out _ _ ?hS99 (fun hHeld => ?rr99)
      case hS99 => (exact HSC.out _ X2.out)
      clear hK K
      try simp only [Act.put, List.setIfInBounds_toArray, List.set_cons_zero, List.set_cons_succ]
      refine wpAnyH_take (i := 4) (oi := { dst := some 44, op := Op.move (Operand.tmp 43), type := 4, pos := "law.go:94", after := #[{ on := 3, ground := Ground.data }, { on := 3, ground := Ground.chain }], guard := none }) (v := ?vv100) rfl (by kernel_rfl) (by kernel_rfl) (by kernel_rfl) (fun _ _ _ h => h) ?hy100 (by assumption) ?rest100
      case hy100 => (refine Or.inl ⟨by rfl, ?_⟩; intro W hSw; (try dsimp only at hSw); go_simp; (try with_reducible rfl))
      try simp only [Act.put, List.setIfInBounds_toArray, List.set_cons_zero, List.set_cons_succ]
      refine wpAnyH_take (i := 5) (oi := { dst := some 45, op := Op.load 26 (Operand.tmp 3), type := 26, pos := "law.go:94", after := #[{ on := 4, ground := Ground.guard }], guard := some (4, true) }) (v := ?vv101) rfl (by kernel_rfl) (by kernel_rfl) (by kernel_rfl) (fun _ _ _ h => h) ?hy101 (by assumption) ?rest101
      case hy101 => (refine Or.inl ⟨by rfl, ?_⟩; intro W hSw; (try dsimp only at hSw); go_simp; (try with_reducible rfl))
      try simp only [Act.put, List.setIfInBounds_toArray, List.set_cons_zero, List.set_cons_succ]
      refine wpAnyH_take (i := 7) (oi := { dst := some 47, op := Op.load 26 (Operand.tmp 5), type := 26, pos := "law.go:94", after := #[{ on := 4, ground := Ground.guard }], guard := some (4, true) }) (v := ?vv102) rfl (by kernel_rfl) (by kernel_rfl) (by kernel_rfl) (fun _ _ _ h => h) ?hy102 (by assumption) ?rest102
      case hy102 => (refine Or.inl ⟨by rfl, ?_⟩; intro W hSw; (try dsimp only at hSw); go_simp; (try with_reducible rfl))
      try simp only [Act.put, List.setIfInBounds_toArray, List.set_cons_zero, List.set_cons_succ]
      refine wpAnyH_take (i := 10) (oi := { dst := some 50, op := Op.load 26 (Operand.tmp 3), type := 26, pos := "law.go:94", after := #[{ on := 4, ground := Ground.guard }], guard := some (4, true) }) (v := ?vv103) rfl (by kernel_rfl) (by kernel_rfl) (by kernel_rfl) (fun _ _ _ h => h) ?hy103 (by assumption) ?rest103
      case hy103 => (refine Or.inl ⟨by rfl, ?_⟩; intro W hSw; (try dsimp only at hSw); go_simp; (try with_reducible rfl))
      try simp only [Act.put, List.setIfInBounds_toArray, List.set_cons_zero, List.set_cons_succ]
      refine wpAnyH_take (i := 11) (oi := { dst := some 51, op := Op.load 26 (Operand.tmp 5), type := 26, pos := "law.go:94", after := #[{ on := 4, ground := Ground.guard }], guard := some (4, true) }) (v := ?vv104) rfl (by kernel_rfl) (by kernel_rfl) (by kernel_rfl) (fun _ _ _ h => h) ?hy104 (by assumption) ?rest104
      case hy104 => (refine Or.inl ⟨by rfl, ?_⟩; intro W hSw; (try dsimp only at hSw); go_simp; (try with_reducible rfl))
      try simp only [Act.put, List.setIfInBounds_toArray, List.set_cons_zero, List.set_cons_succ]
      refine wpAnyH_ready (rs := [6]) (by kernel_rfl) (by simp) ?_
      refine AllReadyH.cons (o := { dst := some 46, op := Op.call { callee := Callee.value (Operand.func 6), args := #[Operand.tmp 45], argTypes := #[26] }, type := 31, pos := "law.go:94", after := #[{ on := 5, ground := Ground.data }, { on := 4, ground := Ground.chain }, { on := 4, ground := Ground.guard }], guard := some (4, true) }) rfl (fun K hK => ?step105) ?more105
      case more105 => exact AllReadyH.nil
      ((go_simp; go_at_call 6; refine (ours_any (HPM.out _ X2.out).1).mono ?_; rintro e x3 ⟨rfl, hbn⟩; have X3 := Lib.hid (X2.out.trans (hbn.mono X2.out.size)); clear hbn; go_wp2_with fail))
      refine hK.out _ _ ?hS105 (fun hHeld => ?rr105)
      case hS105 => (exact HSC.out _ X3.out)
      clear hK K
      try simp only [Act.put, List.setIfInBounds_toArray, List.set_cons_zero, List.set_cons_succ]
      refine wpAnyH_ready (rs := [8]) (by kernel_rfl) (by simp) ?_
      refine AllReadyH.cons (o := { dst := some 48, op := Op.call { callee := Callee.value (Operand.func 6), args := #[Operand.tmp 47], argTypes := #[26] }, type := 31, pos := "law.go:94", after := #[{ on := 7, ground := Ground.data }, { on := 6, ground := Ground.chain }, { on := 4, ground := Ground.guard }], guard := some (4, true) }) rfl (fun K hK => ?step106) ?more106
      case more106 => exact AllReadyH.nil
      ((go_simp; go_at_call 6; refine (ours_any (HPM.out _ X3.out).2.1).mono ?_; rintro e x4 ⟨rfl, hbn⟩; have X4 := Lib.hid (X3.out.trans (hbn.mono X3.out.size)); clear hbn; go_wp2_with fail))
      refine hK.out _ _ ?hS106 (fun hHeld => ?rr106)
      case hS106 => (exact HSC.out _ X4.out)
      clear hK K
      try simp only [Act.put, List.setIfInBounds_toArray, List.set_cons_zero, List.set_cons_succ]
      obtain ⟨pq, hpq⟩ : ∃ b, decide (p = q) = b := ⟨_, rfl⟩
      have HQ2 := Lib.hid (Same_any (HPM.out _ X4.out).1 (HPM.out _ X4.out).2.1)
      have HQ3 := Lib.hid (fun W (hW : Below W8.heap.size W8 W) => rsame_any (HPM.out _ hW).1 (HPM.out _ hW).2.1)
      rw [hpq] at HQ2 HQ3
      clear hpq
      refine wpAnyH_ready (rs := [9]) (by kernel_rfl) (by simp) ?_
      refine AllReadyH.cons (o := { dst := some 49, op := Op.call { callee := Callee.value (Operand.func 9), args := #[Operand.tmp 46, Operand.tmp 48], argTypes := #[31, 31] }, type := 4, pos := "law.go:94", after := #[{ on := 6, ground := Ground.data }, { on := 8, ground := Ground.data }, { on := 8, ground := Ground.chain }, { on := 4, ground := Ground.guard }], guard := some (4, true) }) rfl (fun K hK => ?step107) ?more107
      case more107 => exact AllReadyH.nil
      ((go_simp; go_at_call 9; refine (HQ2.out).mono ?_; rintro e x5 ⟨rfl, hbn⟩; have X5 := Lib.hid (X4.out.trans (hbn.mono X4.out.size)); clear hbn; go_wp2_with fail))
      refine hK.out _ _ ?hS107 (fun hHeld => ?rr107)
      case hS107 => (exact HSC.out _ X5.out)
      clear hK K
      try simp only [Act.put, List.setIfInBounds_toArray, List.set_cons_zero, List.set_cons_succ]
      refine wpAnyH_ready (rs := [12]) (by kernel_rfl) (by simp) ?_
      refine AllReadyH.cons (o := { dst := some 52, op := Op.call { callee := Callee.value (Operand.func 7), args := #[Operand.tmp 50, Operand.tmp 51], argTypes := #[26, 26] }, type := 4, pos := "law.go:94", after := #[{ on := 10, ground := Ground.data }, { on := 11, ground := Ground.data }, { on := 9, ground := Ground.chain }, { on := 4, ground := Ground.guard }], guard := some (4, true) }) rfl (fun K hK => ?step108) ?more108
      case more108 => exact AllReadyH.nil
      ((go_simp; go_at_call 7; refine (HQ3.out _ X5.out).mono ?_; rintro e x6 ⟨rfl, hbn⟩; have X6 := Lib.hid (X5.out.trans (hbn.mono X5.out.size)); clear hbn; go_wp2_with fail))
      refine hK.out _ _ ?hS108 (fun hHeld => ?rr108)
      case hS108 => (exact HSC.out _ X6.out)
      clear hK K
      try simp only [Act.put, List.setIfInBounds_toArray, List.set_cons_zero, List.set_cons_succ]
      refine wpAnyH_take (i := 13) (oi := { dst := some 53, op := Op.binOp BinOp.eql 4 (Operand.tmp 49) (Operand.tmp 52) 4, type := 4, pos := "law.go:94", after := #[{ on := 9, ground := Ground.data }, { on := 12, ground := Ground.data }, { on := 4, ground := Ground.guard }], guard := some (4, true) }) (v := (.bool true)) rfl (by kernel_rfl) (by kernel_rfl) (by kernel_rfl) (fun _ _ _ h => h) ?hy109 (by assumption) ?rest109
      case hy109 => ((refine Or.inl ⟨by rfl, ?_⟩; intro W hSw; (try dsimp only at hSw); go_simp; (try simp)))
      try simp only [Act.put, List.setIfInBounds_toArray, List.set_cons_zero, List.set_cons_succ]
      refine wpAnyH_take (i := 14) (oi := { dst := some 54, op := Op.pick (Operand.tmp 44) (Operand.tmp 53) (Operand.const (Value.bool false)), type := 4, pos := "law.go:94", after := #[{ on := 4, ground := Ground.data }, { on := 13, ground := Ground.data }], guard := none }) (v := ?vv110) rfl (by kernel_rfl) (by kernel_rfl) (by kernel_rfl) (fun _ _ _ h => h) ?hy110 (by assumption) ?rest110
      case hy110 => (refine Or.inl ⟨by rfl, ?_⟩; intro W hSw; (try dsimp only at hSw); go_simp; (try with_reducible rfl))
      try simp only [Act.put, List.setIfInBounds_toArray, List.set_cons_zero, List.set_cons_succ]
      refine wpAnyH_take (i := 15) (oi := { dst := some 55, op := Op.move (Operand.tmp 54), type := 4, pos := "law.go:94", after := #[{ on := 14, ground := Ground.data }, { on := 12, ground := Ground.chain }], guard := none }) (v := ?vv111) rfl (by kernel_rfl) (by kernel_rfl) (by kernel_rfl) (fun _ _ _ h => h) ?hy111 (by assumption) ?rest111
      case hy111 => (refine Or.inl ⟨by rfl, ?_⟩; intro W hSw; (try dsimp only at hSw); go_simp; (try with_reducible rfl))
      try simp only [Act.put, List.setIfInBounds_toArray, List.set_cons_zero, List.set_cons_succ]
      refine wpAnyH_take (i := 16) (oi := { dst := some 56, op := Op.load 26 (Operand.tmp 3), type := 26, pos := "law.go:94", after := #[{ on := 15, ground := Ground.guard }], guard := some (15, true) }) (v := ?vv112) rfl (by kernel_rfl) (by kernel_rfl) (by kernel_rfl) (fun _ _ _ h => h) ?hy112 (by assumption) ?rest112
      case hy112 => (refine Or.inl ⟨by rfl, ?_⟩; intro W hSw; (try dsimp only at hSw); go_simp; (try with_reducible rfl))
      try simp only [Act.put, List.setIfInBounds_toArray, List.set_cons_zero, List.set_cons_succ]
      refine wpAnyH_take (i := 18) (oi := { dst := some 58, op := Op.load 26 (Operand.tmp 3), type := 26, pos := "law.go:94", after := #[{ on := 15, ground := Ground.guard }], guard := some (15, true) }) (v := ?vv113) rfl (by kernel_rfl) (by kernel_rfl) (by kernel_rfl) (fun _ _ _ h => h) ?hy113 (by assumption) ?rest113
      case hy113 => (refine Or.inl ⟨by rfl, ?_⟩; intro W hSw; (try dsimp only at hSw); go_simp; (try with_reducible rfl))
      try simp only [Act.put, List.setIfInBounds_toArray, List.set_cons_zero, List.set_cons_succ]
      refine wpAnyH_ready (rs := [17]) (by kernel_rfl) (by simp) ?_
      refine AllReadyH.cons (o := { dst := some 57, op := Op.call { callee := Callee.value (Operand.func 6), args := #[Operand.tmp 56], argTypes := #[26] }, type := 31, pos := "law.go:94", after := #[{ on := 16, ground := Ground.data }, { on := 15, ground := Ground.chain }, { on := 15, ground := Ground.guard }], guard := some (15, true) }) rfl (fun K hK => ?step114) ?more114
      case more114 => exact AllReadyH.nil
      ((go_simp; go_at_call 6; refine (ours_any (HPM.out _ X6.out).1).mono ?_; rintro e x7 ⟨rfl, hbn⟩; have X7 := Lib.hid (X6.out.trans (hbn.mono X6.out.size)); clear hbn; go_wp2_with fail))
      refine hK.out _ _ ?hS114 (fun hHeld => ?rr114)
      case hS114 => (exact HSC.out _ X7.out)
      clear hK K
      try simp only [Act.put, List.setIfInBounds_toArray, List.set_cons_zero, List.set_cons_succ]
      refine wpAnyH_ready (rs := [19]) (by kernel_rfl) (by simp) ?_
      refine AllReadyH.cons (o := { dst := some 59, op := Op.call { callee := Callee.value (Operand.func 6), args := #[Operand.tmp 58], argTypes := #[26] }, type := 31, pos := "law.go:94", after := #[{ on := 18, ground := Ground.data }, { on := 17, ground := Ground.chain }, { on := 15, ground := Ground.guard }], guard := some (15, true) }) rfl (fun K hK => ?step115) ?more115
      case more115 => exact AllReadyH.nil
      ((go_simp; go_at_call 6; refine (ours_any (HPM.out _ X7.out).1).mono ?_; rintro e x8 ⟨rfl, hbn⟩; have X8 := Lib.hid (X7.out.trans (hbn.mono X7.out.size)); clear hbn; go_wp2_with fail))
      refine hK.out _ _ ?hS115 (fun hHeld => ?rr115)
      case hS115 => (exact HSC.out _ X8.out)
      clear hK K
      try simp only [Act.put, List.setIfInBounds_toArray, List.set_cons_zero, List.set_cons_succ]
      have HQ4 := Lib.hid (Same_any (HPM.out _ X8.out).1 (HPM.out _ X8.out).1)
      rw [decide_eq_true (rfl : p = p)] at HQ4
      refine wpAnyH_ready (rs := [20]) (by kernel_rfl) (by simp) ?_
      refine AllReadyH.cons (o := { dst := some 60, op := Op.call { callee := Callee.value (Operand.func 9), args := #[Operand.tmp 57, Operand.tmp 59], argTypes := #[31, 31] }, type := 4, pos := "law.go:94", after := #[{ on := 17, ground := Ground.data }, { on := 19, ground := Ground.data }, { on := 19, ground := Ground.chain }, { on := 15, ground := Ground.guard }], guard := some (15, true) }) rfl (fun K hK => ?step116) ?more116
      case more116 => exact AllReadyH.nil
      ((go_simp; go_at_call 9; refine (HQ4.out).mono ?_; rintro e x9 ⟨rfl, hbn⟩; have X9 := Lib.hid (X8.out.trans (hbn.mono X8.out.size)); clear hbn; go_wp2_with fail))
      refine hK.out _ _ ?hS116 (fun hHeld => ?rr116)
      case hS116 => (exact HSC.out _ X9.out)
      clear hK K
      try simp only [Act.put, List.setIfInBounds_toArray, List.set_cons_zero, List.set_cons_succ]
      refine wpAnyH_take (i := 21) (oi := { dst := some 61, op := Op.pick (Operand.tmp 55) (Operand.tmp 60) (Operand.const (Value.bool false)), type := 4, pos := "law.go:94", after := #[{ on := 15, ground := Ground.data }, { on := 20, ground := Ground.data }], guard := none }) (v := ?vv117) rfl (by kernel_rfl) (by kernel_rfl) (by kernel_rfl) (fun _ _ _ h => h) ?hy117 (by assumption) ?rest117
      case hy117 => (refine Or.inl ⟨by rfl, ?_⟩; intro W hSw; (try dsimp only at hSw); go_simp; (try with_reducible rfl))
      try simp only [Act.put, List.setIfInBounds_toArray, List.set_cons_zero, List.set_cons_succ]
      refine wpAnyH_take (i := 22) (oi := { dst := some 62, op := Op.move (Operand.tmp 61), type := 4, pos := "law.go:94", after := #[{ on := 21, ground := Ground.data }, { on := 20, ground := Ground.chain }], guard := none }) (v := ?vv118) rfl (by kernel_rfl) (by kernel_rfl) (by kernel_rfl) (fun _ _ _ h => h) ?hy118 (by assumption) ?rest118
      case hy118 => (refine Or.inl ⟨by rfl, ?_⟩; intro W hSw; (try dsimp only at hSw); go_simp; (try with_reducible rfl))
      try simp only [Act.put, List.setIfInBounds_toArray, List.set_cons_zero, List.set_cons_succ]
      refine wpAnyH_ready (rs := [23]) (by kernel_rfl) (by simp) ?_
      refine AllReadyH.cons (o := { dst := some 63, op := Op.call { callee := Callee.value (Operand.func 10), args := #[], argTypes := #[] }, type := 4, pos := "law.go:94", after := #[{ on := 22, ground := Ground.chain }, { on := 22, ground := Ground.guard }], guard := some (22, true) }) rfl (fun K hK => ?step119) ?more119
      case more119 => exact AllReadyH.nil
      ((go_simp; go_at_call 10; refine (HGB.out _ X9.out).mono ?_; rintro e x10 ⟨rfl, hbn⟩; have X10 := Lib.hid (X9.out.trans (hbn.mono X9.out.size)); clear hbn; go_wp2_with fail))
      refine hK.out _ _ ?hS119 (fun hHeld => ?rr119)
      case hS119 => (exact HSC.out _ X10.out)
      clear hK K
      try simp only [Act.put, List.setIfInBounds_toArray, List.set_cons_zero, List.set_cons_succ]
      refine wpAnyH_take (i := 24) (oi := { dst := some 64, op := Op.pick (Operand.tmp 62) (Operand.tmp 63) (Operand.const (Value.bool false)), type := 4, pos := "law.go:94", after := #[{ on := 22, ground := Ground.data }, { on := 23, ground := Ground.data }], guard := none }) (v := ?vv120) rfl (by kernel_rfl) (by kernel_rfl) (by kernel_rfl) (fun _ _ _ h => h) ?hy120 (by assumption) ?rest120
      case hy120 => (refine Or.inl ⟨by rfl, ?_⟩; intro W hSw; (try dsimp only at hSw); go_simp; (try with_reducible rfl))
      try simp only [Act.put, List.setIfInBounds_toArray, List.set_cons_zero, List.set_cons_succ]
      refine wpAnyH_take (i := 25) (oi := { dst := some 6, op := Op.assign (Operand.tmp 64), type := 4, pos := "law.go:94", after := #[{ on := 24, ground := Ground.data }, { on := 23, ground := Ground.chain }, { on := 0, ground := Ground.phase }, { on := 1, ground := Ground.phase }, { on := 2, ground := Ground.phase }, { on := 3, ground := Ground.phase }, { on := 4, ground := Ground.phase }, { on := 5, ground := Ground.phase }, { on := 6, ground := Ground.phase }, { on := 7, ground := Ground.phase }, { on := 8, ground := Ground.phase }, { on := 9, ground := Ground.phase }, { on := 10, ground := Ground.phase }, { on := 11, ground := Ground.phase }, { on := 12, ground := Ground.phase }, { on := 13, ground := Ground.phase }, { on := 14, ground := Ground.phase }, { on := 15, ground := Ground.phase }, { on := 16, ground := Ground.phase }, { on := 17, ground := Ground.phase }, { on := 18, ground := Ground.phase }, { on := 19, ground := Ground.phase }, { on := 20, ground := Ground.phase }, { on := 21, ground := Ground.phase }, { on := 22, ground := Ground.phase }, { on := 23, ground := Ground.phase }, { on := 24, ground := Ground.phase }], guard := none }) (v := ?vv121) rfl (by kernel_rfl) (by kernel_rfl) (by kernel_rfl) (fun _ _ _ h => h) ?hy121 (by assumption) ?rest121
      case hy121 => (refine Or.inl ⟨by rfl, ?_⟩; intro W hSw; (try dsimp only at hSw); go_simp; (try with_reducible rfl))
      try simp only [Act.put, List.setIfInBounds_toArray, List.set_cons_zero, List.set_cons_succ]
      refine wpAnyH_done (by kernel_rfl) ?_ _
      clear hHeld
      dsimp only [onlyN]
      go_wp2_with fail
      go_ret
      exact ⟨rfl, HB8.out.trans (X10.out.mono HB8.out.size)⟩
end Go.Proofs.YtfaaeacgmlklhaaDoor
