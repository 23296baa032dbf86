/- The law on bytes. (genmehh.py wrote it.) -/
import Derived.Test.YtfaaeacgmlklhaaGreatDoorZMehE
import Derived.Test.YtfaaeacgmlklhaaGreatDoorZMegA
import Derived.Test.YtfaaeacgmlklhaaGreatDoorZMefD
import Derived.Test.YtfaaeacgmlklhaaGreatDoorZMeeD
set_option linter.unusedSimpArgs false
set_option linter.unusedVariables false
set_option linter.unnecessarySimpa false
namespace Go.Proofs.YtfaaeacgmlklhaaGreatDoor
open Go.RowKit Go.Shelf

def encB (m : MsgV) : List UInt8 := if mayM m = true then encM m else []
theorem Enc_any {w : World} {v : Value} {m : MsgV} (hG : Glob w) (hMv : Mov w) (h : MsgIs w v m) (hi : MsgIn m) :
    Calls Tryz.prog 6 #[v] w fun e w' => ∃ v', e = .returned v' ∧ OwnBy w' w.heap.size v' (encB m) ∧ Below w.heap.size w w' := by
  unfold encB
  by_cases hm : mayM m = true
  · rw [if_pos hm]; exact Encode_yes hG hMv h hm hi
  · rw [if_neg hm]
    exact (Encode_not hG h (by simpa using hm)).mono fun e w' ⟨he, hb⟩ => ⟨_, he, .inl ⟨rfl, rfl⟩, hb⟩
theorem rEnc_any {w : World} {v : Value} {m : MsgV} (h : MsgIs w v m) (hi : MsgIn m) (hti : m.ti ≤ 9223372036854775807) :
    Calls Tryz.prog 10 #[v] w fun e w' => ∃ v', e = .returned v' ∧ OwnBy w' w.heap.size v' (encB m) ∧ Below w.heap.size w w' := by
  unfold encB
  by_cases hm : mayM m = true
  · rw [if_pos hm]; exact rEncode_yes h hm hi
  · rw [if_neg hm]
    exact (rEncode_not h hti (by simpa using hm)).mono fun e w' ⟨he, hb⟩ => ⟨_, he, .inl ⟨rfl, rfl⟩, hb⟩
theorem MsgIn.cut {m : MsgV} (h : MsgIn m) : MsgIn (cutM m) := by
  refine ⟨fun x hx => h.told x (List.mem_of_mem_take hx), fun o ho => ?_⟩
  obtain ⟨x, hx, rfl⟩ := List.mem_map.1 ho
  have := h.ops x (List.mem_of_mem_take hx)
  have e : (cutK x).k = x.k ∧ (cutK x).n = x.n ∧ (cutK x).lo = x.lo := by unfold cutK; split <;> exact ⟨rfl, rfl, rfl⟩
  exact ⟨by rw [e.1]; exact this.k, by rw [e.2.1]; exact this.n, by rw [e.2.2]; exact this.lo⟩
theorem KeysIn.cutm (m : MsgV) : KeysIn (cutM m).os := fun o ho => by have := cutO_keys m.os o ho; omega
set_option maxRecDepth 100000 in
set_option maxHeartbeats 16000000 in
theorem law_bytes {w : World} (hG : Glob w) (hMv : Mov w) {v : Value} {m : MsgV} (h : MsgAt w v m) (hin : MsgIn m) (hti : m.ti ≤ 9223372036854775807) :
    Calls Tryz.prog 3 #[v] w fun e w' => e = .returned (.bool true) ∧ Below w.heap.size w w' := by
  have HG := Lib.hid (And.intro hG hMv)
  have HIN : Hid (MsgIn (cutM m) ∧ (cutM m).ti ≤ 9223372036854775807) := Lib.hid ⟨hin.cut, hti⟩
  obtain ⟨tA0, tc0, oA0, oc0, rfl, hna, hoa⟩ := h
  have hb1 := below_new (w := w) (.cells (cellM m tA0 tc0 oA0 oc0) 26)
  have hat1 := alloc_at w (.cells (cellM m tA0 tc0 oA0 oc0) 26)
  have HC1 := Lib.hid (fun W (hW : Below w.heap.size w W) => lawcut_cells (hna.below hW) (hoa.below hW))
  obtain ⟨W2, hW2⟩ : ∃ W, W = w.alloc (.cells (cellM m tA0 tc0 oA0 oc0) 26) := ⟨_, rfl⟩
  have HW2 := Lib.hid hW2
  rw [← hW2] at hb1 hat1
  have HSZ : Hid (W2.heap.size = w.heap.size + 1) := Lib.hid (by rw [hW2, asz])
  have HB2 := Lib.hid hb1
  have HA2 := Lib.hid hat1
  have HNA := Lib.hid (cut_nums hna)
  have hl := hat1
  have l0 := cell_of hl 0
  have l1 := cell_of hl 1
  have l2 := cell_of hl 2
  have l3 := cell_of hl 3
  have l4 := cell_of hl 4
  have l5 := cell_of hl 5
  have l6 := cell_of hl 6
  have l7 := cell_of hl 7
  have l8 := cell_of hl 8
  have l9 := cell_of hl 9
  have l10 := cell_of hl 10
  simp at l0 l1 l2 l3 l4 l5 l6 l7 l8 l9 l10
  clear hl hG hMv hin hti hna hoa hb1 hat1 hW2
  go_enter Tryz.func3, Tryz.ntmps3
  go_wp2_with fail
  rw [← HW2.out]
  go_wp2_with fail
  refine (HC1.out _ HB2.out).mono ?_
  rintro e w3 ⟨oA, oc, rfl, _, ho1, hb3⟩
  have HO1 := Lib.hid ho1
  have HB3 := Lib.hid hb3
  have hM3 := (hb3.block w.heap.size (heap_lt HA2.out)).trans HA2.out
  clear ho1 hb3 l0 l1 l2 l3 l4 l5 l6 l7 l8 l9 l10
  have c0 := cell_of hM3 0
  have c1 := cell_of hM3 1
  have c2 := cell_of hM3 2
  have c3 := cell_of hM3 3
  have c4 := cell_of hM3 4
  have c5 := cell_of hM3 5
  have c6 := cell_of hM3 6
  have c7 := cell_of hM3 7
  have c8 := cell_of hM3 8
  have c9 := cell_of hM3 9
  have c10 := cell_of hM3 10
  have f0 := free0 hM3 0
  have f1 := free0 hM3 1
  have f2 := free0 hM3 2
  have f3 := free0 hM3 3
  have f4 := free0 hM3 4
  have f5 := free0 hM3 5
  have f6 := free0 hM3 6
  have f7 := free0 hM3 7
  have f8 := free0 hM3 8
  have f9 := free0 hM3 9
  have f10 := free0 hM3 10
  simp at c0 c1 c2 c3 c4 c5 c6 c7 c8 c9 c10
  have HM3 := Lib.hid hM3
  clear hM3
  go_upto_region 2 with fail
  obtain ⟨W5, hW5⟩ : ∃ W, W = (World.setCell (World.setCell (World.setCell (World.setCell (World.setCell (World.setCell (World.setCell (World.setCell (World.setCell (World.setCell (World.setCell w3 ⟨w.heap.size, 0, none⟩ (.int .i64 (cutM m).kd)) ⟨w.heap.size, 1, none⟩ (.int .i64 (cutM m).fr)) ⟨w.heap.size, 2, none⟩ (.int .i64 (cutM m).tt)) ⟨w.heap.size, 3, none⟩ (.int .i64 (cutM m).g)) ⟨w.heap.size, 4, none⟩ (.int .i64 (cutM m).nd)) ⟨w.heap.size, 5, none⟩ (.int .i64 (cutM m).tr)) ⟨w.heap.size, 6, none⟩ (.int .i64 (cutM m).lw)) ⟨w.heap.size, 7, none⟩ (.int .i64 (cutM m).co)) ⟨w.heap.size, 8, none⟩ (.int .i64 (cutM m).ti)) ⟨w.heap.size, 9, none⟩ (.slice tA0 (cutM m).tl.length tc0)) ⟨w.heap.size, 10, none⟩ (.slice oA (cutM m).os.length oc)) := ⟨_, rfl⟩
  rw [← hW5]
  have hS5 : W5 = w3.setCells w.heap.size 0 [.int .i64 (cutM m).kd, .int .i64 (cutM m).fr, .int .i64 (cutM m).tt, .int .i64 (cutM m).g, .int .i64 (cutM m).nd, .int .i64 (cutM m).tr, .int .i64 (cutM m).lw, .int .i64 (cutM m).co, .int .i64 (cutM m).ti, .slice tA0 (cutM m).tl.length tc0, .slice oA (cutM m).os.length oc] := hW5
  have hM5 : W5.heap[w.heap.size]? = some (.cells (cellM (cutM m) tA0 tc0 oA oc) 26 (0, 0)) := by rw [hS5]; exact setCells_at w.heap.size [.int .i64 (cutM m).kd, .int .i64 (cutM m).fr, .int .i64 (cutM m).tt, .int .i64 (cutM m).g, .int .i64 (cutM m).nd, .int .i64 (cutM m).tr, .int .i64 (cutM m).lw, .int .i64 (cutM m).co, .int .i64 (cutM m).ti, .slice tA0 (cutM m).tl.length tc0, .slice oA (cutM m).os.length oc] [] [.int .i64 m.kd, .int .i64 m.fr, .int .i64 m.tt, .int .i64 m.g, .int .i64 m.nd, .int .i64 m.tr, .int .i64 m.lw, .int .i64 m.co, .int .i64 m.ti, .slice tA0 m.tl.length tc0, .slice oA0 m.os.length oc0] w3 rfl HM3.out
  have hT5 : Touch (fun k => k = w.heap.size) w3 W5 := by rw [hS5]; exact setCells_touch (S := fun k => k = w.heap.size) (a := w3) w.heap.size (fun _ => rfl) [.int .i64 (cutM m).kd, .int .i64 (cutM m).fr, .int .i64 (cutM m).tt, .int .i64 (cutM m).g, .int .i64 (cutM m).nd, .int .i64 (cutM m).tr, .int .i64 (cutM m).lw, .int .i64 (cutM m).co, .int .i64 (cutM m).ti, .slice tA0 (cutM m).tl.length tc0, .slice oA (cutM m).os.length oc] 0 w3 (Touch.refl _ _)
  clear hW5 hS5 c0 c1 c2 c3 c4 c5 c6 c7 c8 c9 c10 f0 f1 f2 f3 f4 f5 f6 f7 f8 f9 f10
  have hB5 : Below w.heap.size w W5 := (HB2.out.trans (HB3.out.mono HB2.out.size)).trans (hT5.below (fun i e => by rw [e]; exact Nat.le_refl _) (HB2.out.trans (HB3.out.mono HB2.out.size)).size)
  have HPI : Hid (MsgIs W5 (.agg (cellM (cutM m) tA0 tc0 oA oc)) (cutM m)) := Lib.hid ⟨tA0, tc0, oA, oc, rfl, HNA.out.below hB5, (HO1.out.1.touch hT5 (fun b e hb => by have := (HO1.out.2.1 b e).1; have := HSZ.out; omega)).ops rfl, KeysIn.cutm m⟩
  have HB5 := Lib.hid hB5
  have HM5 := Lib.hid hM5
  clear hB5 hM5 hT5 HO1 HB3 HM3 HNA HC1 HA2 HB2
  generalize cutM m = p at *
  obtain ⟨mb, hmb⟩ : ∃ b, b = mayM p := ⟨_, rfl⟩
  obtain ⟨E, hE⟩ : ∃ l, l = encB p := ⟨_, rfl⟩
  have HMB := Lib.hid hmb
  have HE := Lib.hid hE
  have HQ : Hid (∀ W, Below W5.heap.size W5 W → MsgIs W (.agg #[.int .i64 p.kd, .int .i64 p.fr, .int .i64 p.tt, .int .i64 p.g, .int .i64 p.nd, .int .i64 p.tr, .int .i64 p.lw, .int .i64 p.co, .int .i64 p.ti, .slice tA0 p.tl.length tc0, .slice oA p.os.length oc]) p ∧ Glob W ∧ Mov W) := Lib.hid (fun W hW => ⟨HPI.out.below hW, HG.out.1.below (HB5.out.trans (hW.mono HB5.out.size)), HG.out.2.below (HB5.out.trans (hW.mono HB5.out.size))⟩)
  have HOU := Lib.hid (fun W (hW : Below W5.heap.size W5 W) => ours_any (HQ.out W hW).1)
  have HEN := Lib.hid (fun W (hW : Below W5.heap.size W5 W) => Enc_any (HQ.out W hW).2.1 (HQ.out W hW).2.2 (HQ.out W hW).1 HIN.out.1)
  have HRE := Lib.hid (fun W (hW : Below W5.heap.size W5 W) => rEnc_any (HQ.out W hW).1 HIN.out.1 HIN.out.2)
  have HMY := Lib.hid (fun W (hW : Below W5.heap.size W5 W) => May_any (HQ.out W hW).2.1 (HQ.out W hW).1)
  have HRM := Lib.hid (fun W (hW : Below W5.heap.size W5 W) => rMay_any (HQ.out W hW).1 HIN.out.2)
  have HAW := Lib.hid (fun W (hW : Below W5.heap.size W5 W) => awake_m (HQ.out W hW).2.1 (HQ.out W hW).2.2)
  rw [← hE] at HEN HRE
  rw [← hmb] at HMY HRM
  clear hE hmb HPI
  have hM5 := HM5.out
  have c0 := cell_of hM5 0
  have c1 := cell_of hM5 1
  have c2 := cell_of hM5 2
  have c3 := cell_of hM5 3
  have c4 := cell_of hM5 4
  have c5 := cell_of hM5 5
  have c6 := cell_of hM5 6
  have c7 := cell_of hM5 7
  have c8 := cell_of hM5 8
  have c9 := cell_of hM5 9
  have c10 := cell_of hM5 10
  simp at c0 c1 c2 c3 c4 c5 c6 c7 c8 c9 c10
  clear hM5
  go_wp2_with fail
  refine (HOU.out _ (Below.refl _ _)).mono ?_
  rintro e w6 ⟨rfl, hb6⟩
  have HB6 := Lib.hid hb6
  clear hb6 c0 c1 c2 c3 c4 c5 c6 c7 c8 c9 c10
  go_wp2_with fail
  refine (HEN.out _ HB6.out).mono ?_
  rintro e w7 ⟨v3, rfl, ho3, hb7⟩
  have hbi := ho3.bis
  obtain ⟨A3, c3, rfl⟩ := ho3.len
  have HBI := Lib.hid hbi
  have HB7 := Lib.hid (HB6.out.trans (hb7.mono HB6.out.size))
  have hM7 := (HB7.out.block w.heap.size (heap_lt HM5.out)).trans HM5.out
  have HSC : Hid (∀ W, Below w7.heap.size w7 W → (W.cell? ⟨w.heap.size, 0, none⟩ = some (.int .i64 p.kd) ∧ W.cell? ⟨w.heap.size, 1, none⟩ = some (.int .i64 p.fr) ∧ W.cell? ⟨w.heap.size, 2, none⟩ = some (.int .i64 p.tt) ∧ W.cell? ⟨w.heap.size, 3, none⟩ = some (.int .i64 p.g) ∧ W.cell? ⟨w.heap.size, 4, none⟩ = some (.int .i64 p.nd) ∧ W.cell? ⟨w.heap.size, 5, none⟩ = some (.int .i64 p.tr) ∧ W.cell? ⟨w.heap.size, 6, none⟩ = some (.int .i64 p.lw) ∧ W.cell? ⟨w.heap.size, 7, none⟩ = some (.int .i64 p.co) ∧ W.cell? ⟨w.heap.size, 8, none⟩ = some (.int .i64 p.ti) ∧ W.cell? ⟨w.heap.size, 9, none⟩ = some (.slice tA0 p.tl.length tc0) ∧ W.cell? ⟨w.heap.size, 10, none⟩ = some (.slice oA p.os.length oc)) ∧ BIs W (.slice A3 E.length c3) E) := Lib.hid (fun W hW => by
    have hm := (hW.block w.heap.size (heap_lt hM7)).trans hM7
    exact ⟨⟨cell_of hm 0, cell_of hm 1, cell_of hm 2, cell_of hm 3, cell_of hm 4, cell_of hm 5, cell_of hm 6, cell_of hm 7, cell_of hm 8, cell_of hm 9, cell_of hm 10⟩, hbi.below hW⟩)
  have HM7 := Lib.hid hM7
  clear ho3 hb7 hbi hM7
  go_wp2_with fail
  · refine wp_only ?_
    refine wp_region_held_drew (S := fun W => (W.cell? ⟨w.heap.size, 0, none⟩ = some (.int .i64 p.kd) ∧ W.cell? ⟨w.heap.size, 1, none⟩ = some (.int .i64 p.fr) ∧ W.cell? ⟨w.heap.size, 2, none⟩ = some (.int .i64 p.tt) ∧ W.cell? ⟨w.heap.size, 3, none⟩ = some (.int .i64 p.g) ∧ W.cell? ⟨w.heap.size, 4, none⟩ = some (.int .i64 p.nd) ∧ W.cell? ⟨w.heap.size, 5, none⟩ = some (.int .i64 p.tr) ∧ W.cell? ⟨w.heap.size, 6, none⟩ = some (.int .i64 p.lw) ∧ W.cell? ⟨w.heap.size, 7, none⟩ = some (.int .i64 p.co) ∧ W.cell? ⟨w.heap.size, 8, none⟩ = some (.int .i64 p.ti) ∧ W.cell? ⟨w.heap.size, 9, none⟩ = some (.slice tA0 p.tl.length tc0) ∧ W.cell? ⟨w.heap.size, 10, none⟩ = some (.slice oA p.os.length oc)) ∧ BIs W (.slice A3 E.length c3) E) (by kernel_rfl) (HSC.out _ (below_drew (Below.refl _ _))) (fun hHeld => ?_)
    refine wpAnyH_take (i := 0) (oi := { dst := some 11, op := Op.load 26 (Operand.tmp 1), type := 26, pos := "law.go:41", after := #[], guard := none }) (v := ?vv1) rfl (by kernel_rfl) (by kernel_rfl) (by kernel_rfl) (fun _ _ _ h => h) ?hy1 (by assumption) ?rest1
    case hy1 => (refine Or.inl ⟨by rfl, ?_⟩; intro W hSw; (try dsimp only at hSw); go_simp; (try with_reducible rfl))
    try simp only [Act.put, List.setIfInBounds_toArray, List.set_cons_zero, List.set_cons_succ]
    refine wpAnyH_take (i := 3) (oi := { dst := some 14, op := Op.load 26 (Operand.tmp 1), type := 26, pos := "law.go:41", after := #[], guard := none }) (v := ?vv2) rfl (by kernel_rfl) (by kernel_rfl) (by kernel_rfl) (fun _ _ _ h => h) ?hy2 (by assumption) ?rest2
    case hy2 => (refine Or.inl ⟨by rfl, ?_⟩; intro W hSw; (try dsimp only at hSw); go_simp; (try with_reducible rfl))
    try simp only [Act.put, List.setIfInBounds_toArray, List.set_cons_zero, List.set_cons_succ]
    refine wpAnyH_ready (rs := [1]) (by kernel_rfl) (by simp) ?_
    refine AllReadyH.cons (o := { dst := some 12, op := Op.call { callee := Callee.value (Operand.func 7), args := #[Operand.tmp 11], argTypes := #[26] }, type := 33, pos := "law.go:41", after := #[{ on := 0, ground := Ground.data }], guard := none }) rfl (fun K hK => ?step3) ?more3
    case more3 => exact AllReadyH.nil
    ((go_simp; go_at_call 7; refine (HOU.out _ (HB7.out.trans ((below_drew (Below.refl _ w7)).mono HB7.out.size))).mono ?_; rintro e x1 ⟨rfl, hbn⟩; have X1 := Lib.hid (below_of_drew hbn); clear hbn; go_wp2_with fail))
    refine hK.out _ _ ?hS3 (fun hHeld => ?rr3)
    case hS3 => (exact HSC.out _ X1.out)
    clear hK K
    try simp only [Act.put, List.setIfInBounds_toArray, List.set_cons_zero, List.set_cons_succ]
    refine wpAnyH_ready (rs := [2]) (by kernel_rfl) (by simp) ?_
    refine AllReadyH.cons (o := { dst := some 13, op := Op.call { callee := Callee.value (Operand.func 8), args := #[Operand.tmp 12], argTypes := #[33] }, type := 4, pos := "law.go:41", after := #[{ on := 1, ground := Ground.data }, { on := 1, ground := Ground.chain }], guard := none }) rfl (fun K hK => ?step4) ?more4
    case more4 => exact AllReadyH.nil
    ((go_simp; go_at_call 8; refine (HMY.out _ (HB7.out.trans (X1.out.mono HB7.out.size))).mono ?_; rintro e x2 ⟨rfl, hbn⟩; have X2 := Lib.hid (X1.out.trans (hbn.mono X1.out.size)); clear hbn; go_wp2_with fail))
    refine hK.out _ _ ?hS4 (fun hHeld => ?rr4)
    case hS4 => (exact HSC.out _ X2.out)
    clear hK K
    try simp only [Act.put, List.setIfInBounds_toArray, List.set_cons_zero, List.set_cons_succ]
    refine wpAnyH_ready (rs := [4]) (by kernel_rfl) (by simp) ?_
    refine AllReadyH.cons (o := { dst := some 15, op := Op.call { callee := Callee.value (Operand.func 9), args := #[Operand.tmp 14], argTypes := #[26] }, type := 4, pos := "law.go:41", after := #[{ on := 3, ground := Ground.data }, { on := 2, ground := Ground.chain }], guard := none }) rfl (fun K hK => ?step5) ?more5
    case more5 => exact AllReadyH.nil
    ((go_simp; go_at_call 9; refine (HRM.out _ (HB7.out.trans (X2.out.mono HB7.out.size))).mono ?_; rintro e x3 ⟨rfl, hbn⟩; have X3 := Lib.hid (X2.out.trans (hbn.mono X2.out.size)); clear hbn; go_wp2_with fail))
    refine hK.out _ _ ?hS5 (fun hHeld => ?rr5)
    case hS5 => (exact HSC.out _ X3.out)
    clear hK K
    try simp only [Act.put, List.setIfInBounds_toArray, List.set_cons_zero, List.set_cons_succ]
    refine wpAnyH_take (i := 5) (oi := { dst := some 16, op := Op.binOp BinOp.neq 4 (Operand.tmp 13) (Operand.tmp 15) 4, type := 4, pos := "law.go:41", after := #[{ on := 2, ground := Ground.data }, { on := 4, ground := Ground.data }], guard := none }) (v := (.bool false)) rfl (by kernel_rfl) (by kernel_rfl) (by kernel_rfl) (fun _ _ _ h => h) ?hy6 (by assumption) ?rest6
    case hy6 => ((refine Or.inl ⟨by rfl, ?_⟩; intro W hSw; (try dsimp only at hSw); go_simp; (try simp)))
    try simp only [Act.put, List.setIfInBounds_toArray, List.set_cons_zero, List.set_cons_succ]
    refine wpAnyH_take (i := 6) (oi := { dst := some 17, op := Op.move (Operand.tmp 16), type := 4, pos := "law.go:41", after := #[{ on := 5, ground := Ground.data }, { on := 4, ground := Ground.chain }], guard := none }) (v := ?vv7) rfl (by kernel_rfl) (by kernel_rfl) (by kernel_rfl) (fun _ _ _ h => h) ?hy7 (by assumption) ?rest7
    case hy7 => (refine Or.inl ⟨by rfl, ?_⟩; intro W hSw; (try dsimp only at hSw); go_simp; (try with_reducible rfl))
    try simp only [Act.put, List.setIfInBounds_toArray, List.set_cons_zero, List.set_cons_succ]
    refine wpAnyH_take (i := 7) (oi := { dst := some 18, op := Op.move (Operand.tmp 3), type := 28, pos := "law.go:41", after := #[{ on := 6, ground := Ground.guard }], guard := some (6, false) }) (v := ?vv8) rfl (by kernel_rfl) (by kernel_rfl) (by kernel_rfl) (fun _ _ _ h => h) ?hy8 (by assumption) ?rest8
    case hy8 => (refine Or.inl ⟨by rfl, ?_⟩; intro W hSw; (try dsimp only at hSw); go_simp; (try with_reducible rfl))
    try simp only [Act.put, List.setIfInBounds_toArray, List.set_cons_zero, List.set_cons_succ]
    refine wpAnyH_take (i := 9) (oi := { dst := some 20, op := Op.load 26 (Operand.tmp 1), type := 26, pos := "law.go:41", after := #[{ on := 6, ground := Ground.guard }], guard := some (6, false) }) (v := ?vv9) rfl (by kernel_rfl) (by kernel_rfl) (by kernel_rfl) (fun _ _ _ h => h) ?hy9 (by assumption) ?rest9
    case hy9 => (refine Or.inl ⟨by rfl, ?_⟩; intro W hSw; (try dsimp only at hSw); go_simp; (try with_reducible rfl))
    try simp only [Act.put, List.setIfInBounds_toArray, List.set_cons_zero, List.set_cons_succ]
    refine wpAnyH_take (i := 8) (oi := { dst := some 19, op := Op.convert 28 9 (Operand.tmp 18), type := 9, pos := "law.go:41", after := #[{ on := 7, ground := Ground.data }, { on := 6, ground := Ground.guard }], guard := some (6, false) }) (v := (.string ⟨E.toArray⟩)) rfl (by kernel_rfl) (by kernel_rfl) (by kernel_rfl) (fun _ _ _ h => h) ?hy10 (by assumption) ?rest10
    case hy10 => ((refine Or.inl ⟨by rfl, ?_⟩; intro W hSw; have hcv := bis_string hSw.2; clear hSw; go_simp))
    try simp only [Act.put, List.setIfInBounds_toArray, List.set_cons_zero, List.set_cons_succ]
    refine wpAnyH_ready (rs := [10]) (by kernel_rfl) (by simp) ?_
    refine AllReadyH.cons (o := { dst := some 21, op := Op.call { callee := Callee.value (Operand.func 10), args := #[Operand.tmp 20], argTypes := #[26] }, type := 28, pos := "law.go:41", after := #[{ on := 9, ground := Ground.data }, { on := 6, ground := Ground.chain }, { on := 6, ground := Ground.guard }], guard := some (6, false) }) rfl (fun K hK => ?step11) ?more11
    case more11 => exact AllReadyH.nil
    ((go_simp; go_at_call 10; refine (HRE.out _ (HB7.out.trans (X3.out.mono HB7.out.size))).mono ?_; rintro e x4 ⟨v4, rfl, ho4, hbn⟩; have X4 := Lib.hid (X3.out.trans (hbn.mono X3.out.size)); obtain ⟨A4, c4, rfl⟩ := ho4.len; have HCV := Lib.hid (bis_string ho4.bis); clear hbn ho4; go_wp2_with fail))
    refine hK.out _ _ ?hS11 (fun hHeld => ?rr11)
    case hS11 => (exact HSC.out _ X4.out)
    clear hK K
    try simp only [Act.put, List.setIfInBounds_toArray, List.set_cons_zero, List.set_cons_succ]
    refine wpAnyH_ready (rs := [11]) (by kernel_rfl) (by simp) ?_
    have hcv := HCV.out
    refine AllReadyH.cons (o := { dst := some 22, op := Op.convert 28 9 (Operand.tmp 21), type := 9, pos := "law.go:41", after := #[{ on := 10, ground := Ground.data }, { on := 6, ground := Ground.guard }], guard := some (6, false) }) rfl (fun K hK => ?step12) ?more12
    case more12 => exact AllReadyH.nil
    ((go_simp))
    refine hK.out _ _ ?hS12 (fun hHeld => ?rr12)
    case hS12 => (exact HSC.out _ X4.out)
    clear hK K
    try simp only [Act.put, List.setIfInBounds_toArray, List.set_cons_zero, List.set_cons_succ]
    clear hcv
    refine wpAnyH_take (i := 12) (oi := { dst := some 23, op := Op.binOp BinOp.neq 9 (Operand.tmp 19) (Operand.tmp 22) 9, type := 4, pos := "law.go:41", after := #[{ on := 8, ground := Ground.data }, { on := 11, ground := Ground.data }, { on := 6, ground := Ground.guard }], guard := some (6, false) }) (v := (.bool false)) rfl (by kernel_rfl) (by kernel_rfl) (by kernel_rfl) (fun _ _ _ h => h) ?hy13 (by assumption) ?rest13
    case hy13 => ((refine Or.inl ⟨by rfl, ?_⟩; intro W hSw; (try dsimp only at hSw); go_simp; (try simp)))
    try simp only [Act.put, List.setIfInBounds_toArray, List.set_cons_zero, List.set_cons_succ]
    refine wpAnyH_take (i := 13) (oi := { dst := some 24, op := Op.pick (Operand.tmp 17) (Operand.const (Value.bool true)) (Operand.tmp 23), type := 4, pos := "law.go:41", after := #[{ on := 6, ground := Ground.data }, { on := 12, ground := Ground.data }], guard := none }) (v := ?vv14) rfl (by kernel_rfl) (by kernel_rfl) (by kernel_rfl) (fun _ _ _ h => h) ?hy14 (by assumption) ?rest14
    case hy14 => (refine Or.inl ⟨by rfl, ?_⟩; intro W hSw; (try dsimp only at hSw); go_simp; (try with_reducible rfl))
    try simp only [Act.put, List.setIfInBounds_toArray, List.set_cons_zero, List.set_cons_succ]
    refine wpAnyH_done (by kernel_rfl) ?_ _
    clear hHeld
    dsimp only [onlyN]
    obtain ⟨⟨q0, q1, q2, q3, q4, q5, q6, q7, q8, q9, q10⟩, hbi4⟩ := HSC.out _ X4.out
    have HBI4 := Lib.hid hbi4
    have HX4 := Lib.hid (HB7.out.trans (X4.out.mono HB7.out.size))
    have HE0 : Hid (mb = false → E = []) := Lib.hid (fun h => by rw [HE.out]; unfold encB; rw [← HMB.out, h]; rfl)
    have HE1 : Hid (mb = true → decM E = some p) := Lib.hid (fun h => by
      have h2 : mayM p = true := by rw [← HMB.out, h]
      rw [HE.out]
      unfold encB
      rw [if_pos h2]
      exact decM_back h2 HIN.out.1)
    clear hbi4
    go_wp2_with fail
    refine (HRM.out _ HX4.out).mono ?_
    rintro e x5 ⟨rfl, hb5⟩
    have HBI5 := Lib.hid (HBI4.out.below hb5)
    have HX5 := Lib.hid (HX4.out.trans (hb5.mono HX4.out.size))
    clear hb5 q0 q1 q2 q3 q4 q5 q6 q7 q8 q9 q10
    cases mb with
    | false =>
      obtain rfl := HE0.out rfl
      go_wp2_with fail
      refine (HAW.out _ HX5.out).mono ?_
      rintro e x6 ⟨rfl, hb6⟩
      have HX6 := Lib.hid (HX5.out.trans (hb6.mono HX5.out.size))
      clear hb6
      go_wp2_with fail
      go_ret
      exact ⟨rfl, HB5.out.trans (HX6.out.mono HB5.out.size)⟩
    | true =>
      have HDE := Lib.hid (Decode_any (HQ.out _ HX5.out).2.1 (HQ.out _ HX5.out).2.2 HBI5.out)
      rw [HE1.out rfl] at HDE
      go_wp2_with fail
      refine (HDE.out).mono ?_
      rintro e x6 ⟨hb6, ⟨h, _⟩ | ⟨m', v', hm', rfl, hms⟩⟩
      · cases h
      obtain rfl := Option.some.inj hm'
      have HMS := Lib.hid hms
      obtain ⟨tB, td, oB, od, rfl, _, _, _⟩ := hms
      have hX6 := HX5.out.trans (hb6.mono HX5.out.size)
      have hb8 := below_new (w := x6) (.cells #[.int .i64 p.kd, .int .i64 p.fr, .int .i64 p.tt, .int .i64 p.g, .int .i64 p.nd, .int .i64 p.tr, .int .i64 p.lw, .int .i64 p.co, .int .i64 p.ti, .slice tB p.tl.length td, .slice oB p.os.length od] 33)
      have hA8 := alloc_at x6 (.cells #[.int .i64 p.kd, .int .i64 p.fr, .int .i64 p.tt, .int .i64 p.g, .int .i64 p.nd, .int .i64 p.tr, .int .i64 p.lw, .int .i64 p.co, .int .i64 p.ti, .slice tB p.tl.length td, .slice oB p.os.length od] 33)
      obtain ⟨W8, hW8⟩ : ∃ W, W = x6.alloc (.cells #[.int .i64 p.kd, .int .i64 p.fr, .int .i64 p.tt, .int .i64 p.g, .int .i64 p.nd, .int .i64 p.tr, .int .i64 p.lw, .int .i64 p.co, .int .i64 p.ti, .slice tB p.tl.length td, .slice oB p.os.length od] 33) := ⟨_, rfl⟩
      have HW8 := Lib.hid hW8
      rw [← hW8] at hb8 hA8
      have hX8 := hX6.trans (hb8.mono hX6.size)
      have hP8 := (hX8.block w.heap.size (heap_lt HM5.out)).trans HM5.out
      have HX8 := Lib.hid hX8
      have HS8 : Hid (∀ W, Below W8.heap.size W8 W → W.cell? ⟨w.heap.size, 0, none⟩ = some (.int .i64 p.kd) ∧ W.cell? ⟨w.heap.size, 1, none⟩ = some (.int .i64 p.fr) ∧ W.cell? ⟨w.heap.size, 2, none⟩ = some (.int .i64 p.tt) ∧ W.cell? ⟨w.heap.size, 3, none⟩ = some (.int .i64 p.g) ∧ W.cell? ⟨w.heap.size, 4, none⟩ = some (.int .i64 p.nd) ∧ W.cell? ⟨w.heap.size, 5, none⟩ = some (.int .i64 p.tr) ∧ W.cell? ⟨w.heap.size, 6, none⟩ = some (.int .i64 p.lw) ∧ W.cell? ⟨w.heap.size, 7, none⟩ = some (.int .i64 p.co) ∧ W.cell? ⟨w.heap.size, 8, none⟩ = some (.int .i64 p.ti) ∧ W.cell? ⟨w.heap.size, 9, none⟩ = some (.slice tA0 p.tl.length tc0) ∧ W.cell? ⟨w.heap.size, 10, none⟩ = some (.slice oA p.os.length oc) ∧ W.cell? ⟨x6.heap.size, 0, none⟩ = some (.int .i64 p.kd) ∧ W.cell? ⟨x6.heap.size, 1, none⟩ = some (.int .i64 p.fr) ∧ W.cell? ⟨x6.heap.size, 2, none⟩ = some (.int .i64 p.tt) ∧ W.cell? ⟨x6.heap.size, 3, none⟩ = some (.int .i64 p.g) ∧ W.cell? ⟨x6.heap.size, 4, none⟩ = some (.int .i64 p.nd) ∧ W.cell? ⟨x6.heap.size, 5, none⟩ = some (.int .i64 p.tr) ∧ W.cell? ⟨x6.heap.size, 6, none⟩ = some (.int .i64 p.lw) ∧ W.cell? ⟨x6.heap.size, 7, none⟩ = some (.int .i64 p.co) ∧ W.cell? ⟨x6.heap.size, 8, none⟩ = some (.int .i64 p.ti) ∧ W.cell? ⟨x6.heap.size, 9, none⟩ = some (.slice tB p.tl.length td) ∧ W.cell? ⟨x6.heap.size, 10, none⟩ = some (.slice oB p.os.length od)) := Lib.hid (fun W hW => by
        have hm := (hW.block w.heap.size (heap_lt hP8)).trans hP8
        have hn := (hW.block x6.heap.size (heap_lt hA8)).trans hA8
        exact ⟨cell_of hm 0, cell_of hm 1, cell_of hm 2, cell_of hm 3, cell_of hm 4, cell_of hm 5, cell_of hm 6, cell_of hm 7, cell_of hm 8, cell_of hm 9, cell_of hm 10, cell_of hn 0, cell_of hn 1, cell_of hn 2, cell_of hn 3, cell_of hn 4, cell_of hn 5, cell_of hn 6, cell_of hn 7, cell_of hn 8, cell_of hn 9, cell_of hn 10⟩)
      have HM8 : Hid (∀ W, Below W8.heap.size W8 W → MsgIs W (.agg #[.int .i64 p.kd, .int .i64 p.fr, .int .i64 p.tt, .int .i64 p.g, .int .i64 p.nd, .int .i64 p.tr, .int .i64 p.lw, .int .i64 p.co, .int .i64 p.ti, .slice tB p.tl.length td, .slice oB p.os.length od]) p) := Lib.hid (fun W hW => HMS.out.below (hb8.trans (hW.mono hb8.size)))
      clear hm' hb6 hX6 hb8 hA8 hW8 hX8 hP8
      go_wp2_with fail
      rw [← HW8.out]
      refine wp_only ?_
      refine wp_region_held_drew (S := fun W => W.cell? ⟨w.heap.size, 0, none⟩ = some (.int .i64 p.kd) ∧ W.cell? ⟨w.heap.size, 1, none⟩ = some (.int .i64 p.fr) ∧ W.cell? ⟨w.heap.size, 2, none⟩ = some (.int .i64 p.tt) ∧ W.cell? ⟨w.heap.size, 3, none⟩ = some (.int .i64 p.g) ∧ W.cell? ⟨w.heap.size, 4, none⟩ = some (.int .i64 p.nd) ∧ W.cell? ⟨w.heap.size, 5, none⟩ = some (.int .i64 p.tr) ∧ W.cell? ⟨w.heap.size, 6, none⟩ = some (.int .i64 p.lw) ∧ W.cell? ⟨w.heap.size, 7, none⟩ = some (.int .i64 p.co) ∧ W.cell? ⟨w.heap.size, 8, none⟩ = some (.int .i64 p.ti) ∧ W.cell? ⟨w.heap.size, 9, none⟩ = some (.slice tA0 p.tl.length tc0) ∧ W.cell? ⟨w.heap.size, 10, none⟩ = some (.slice oA p.os.length oc) ∧ W.cell? ⟨x6.heap.size, 0, none⟩ = some (.int .i64 p.kd) ∧ W.cell? ⟨x6.heap.size, 1, none⟩ = some (.int .i64 p.fr) ∧ W.cell? ⟨x6.heap.size, 2, none⟩ = some (.int .i64 p.tt) ∧ W.cell? ⟨x6.heap.size, 3, none⟩ = some (.int .i64 p.g) ∧ W.cell? ⟨x6.heap.size, 4, none⟩ = some (.int .i64 p.nd) ∧ W.cell? ⟨x6.heap.size, 5, none⟩ = some (.int .i64 p.tr) ∧ W.cell? ⟨x6.heap.size, 6, none⟩ = some (.int .i64 p.lw) ∧ W.cell? ⟨x6.heap.size, 7, none⟩ = some (.int .i64 p.co) ∧ W.cell? ⟨x6.heap.size, 8, none⟩ = some (.int .i64 p.ti) ∧ W.cell? ⟨x6.heap.size, 9, none⟩ = some (.slice tB p.tl.length td) ∧ W.cell? ⟨x6.heap.size, 10, none⟩ = some (.slice oB p.os.length od)) (by kernel_rfl) (HS8.out _ (below_drew (Below.refl _ _))) (fun hHeld => ?_)
      refine wpAnyH_take (i := 0) (oi := { dst := some 39, op := Op.move (Operand.tmp 5), type := 22, pos := "law.go:48", after := #[], guard := none }) (v := ?vv15) rfl (by kernel_rfl) (by kernel_rfl) (by kernel_rfl) (fun _ _ _ h => h) ?hy15 (by assumption) ?rest15
      case hy15 => (refine Or.inl ⟨by rfl, ?_⟩; intro W hSw; (try dsimp only at hSw); go_simp; (try with_reducible rfl))
      try simp only [Act.put, List.setIfInBounds_toArray, List.set_cons_zero, List.set_cons_succ]
      refine wpAnyH_take (i := 1) (oi := { dst := some 40, op := Op.binOp BinOp.eql 22 (Operand.tmp 39) (Operand.const (Value.int IntKind.i64 0)) 22, type := 4, pos := "law.go:48", after := #[{ on := 0, ground := Ground.data }], guard := none }) (v := (.bool true)) rfl (by kernel_rfl) (by kernel_rfl) (by kernel_rfl) (fun _ _ _ h => h) ?hy16 (by assumption) ?rest16
      case hy16 => ((refine Or.inl ⟨by rfl, ?_⟩; intro W hSw; (try dsimp only at hSw); go_simp; (try simp)))
      try simp only [Act.put, List.setIfInBounds_toArray, List.set_cons_zero, List.set_cons_succ]
      refine wpAnyH_take (i := 2) (oi := { dst := some 41, op := Op.move (Operand.tmp 40), type := 4, pos := "law.go:48", after := #[{ on := 1, ground := Ground.data }], guard := none }) (v := ?vv17) rfl (by kernel_rfl) (by kernel_rfl) (by kernel_rfl) (fun _ _ _ h => h) ?hy17 (by assumption) ?rest17
      case hy17 => (refine Or.inl ⟨by rfl, ?_⟩; intro W hSw; (try dsimp only at hSw); go_simp; (try with_reducible rfl))
      try simp only [Act.put, List.setIfInBounds_toArray, List.set_cons_zero, List.set_cons_succ]
      refine wpAnyH_take (i := 3) (oi := { dst := some 42, op := Op.load 33 (Operand.tmp 4), type := 33, pos := "law.go:48", after := #[{ on := 2, ground := Ground.guard }], guard := some (2, true) }) (v := ?vv18) rfl (by kernel_rfl) (by kernel_rfl) (by kernel_rfl) (fun _ _ _ h => h) ?hy18 (by assumption) ?rest18
      case hy18 => (refine Or.inl ⟨by rfl, ?_⟩; intro W hSw; (try dsimp only at hSw); go_simp; (try with_reducible rfl))
      try simp only [Act.put, List.setIfInBounds_toArray, List.set_cons_zero, List.set_cons_succ]
      refine wpAnyH_take (i := 5) (oi := { dst := some 44, op := Op.load 26 (Operand.tmp 1), type := 26, pos := "law.go:48", after := #[{ on := 2, ground := Ground.guard }], guard := some (2, true) }) (v := ?vv19) rfl (by kernel_rfl) (by kernel_rfl) (by kernel_rfl) (fun _ _ _ h => h) ?hy19 (by assumption) ?rest19
      case hy19 => (refine Or.inl ⟨by rfl, ?_⟩; intro W hSw; (try dsimp only at hSw); go_simp; (try with_reducible rfl))
      try simp only [Act.put, List.setIfInBounds_toArray, List.set_cons_zero, List.set_cons_succ]
      refine wpAnyH_ready (rs := [4]) (by kernel_rfl) (by simp) ?_
      refine AllReadyH.cons (o := { dst := some 43, op := Op.call { callee := Callee.value (Operand.func 14), args := #[Operand.tmp 42], argTypes := #[33] }, type := 26, pos := "law.go:48", after := #[{ on := 3, ground := Ground.data }, { on := 2, ground := Ground.chain }, { on := 2, ground := Ground.guard }], guard := some (2, true) }) rfl (fun K hK => ?step20) ?more20
      case more20 => exact AllReadyH.nil
      ((go_simp; go_at_call 14; refine (plain_m (HM8.out _ (below_drew (Below.refl _ W8)))).mono ?_; rintro e y1 ⟨rfl, hbn⟩; have Y1 := Lib.hid (below_of_drew hbn); clear hbn; go_wp2_with fail))
      refine hK.out _ _ ?hS20 (fun hHeld => ?rr20)
      case hS20 => (exact HS8.out _ Y1.out)
      clear hK K
      try simp only [Act.put, List.setIfInBounds_toArray, List.set_cons_zero, List.set_cons_succ]
      have HSM := Lib.hid (rsame_any (HM8.out _ Y1.out) (HQ.out _ (HX8.out.trans (Y1.out.mono HX8.out.size))).1)
      rw [decide_eq_true (rfl : p = p)] at HSM
      refine wpAnyH_ready (rs := [6]) (by kernel_rfl) (by simp) ?_
      refine AllReadyH.cons (o := { dst := some 45, op := Op.call { callee := Callee.value (Operand.func 13), args := #[Operand.tmp 43, Operand.tmp 44], argTypes := #[26, 26] }, type := 4, pos := "law.go:48", after := #[{ on := 4, ground := Ground.data }, { on := 5, ground := Ground.data }, { on := 4, ground := Ground.chain }, { on := 2, ground := Ground.guard }], guard := some (2, true) }) rfl (fun K hK => ?step21) ?more21
      case more21 => exact AllReadyH.nil
      ((go_simp; go_at_call 13; refine (HSM.out).mono ?_; rintro e y2 ⟨rfl, hbn⟩; have Y2 := Lib.hid (Y1.out.trans (hbn.mono Y1.out.size)); clear hbn; go_wp2_with fail))
      refine hK.out _ _ ?hS21 (fun hHeld => ?rr21)
      case hS21 => (exact HS8.out _ Y2.out)
      clear hK K
      try simp only [Act.put, List.setIfInBounds_toArray, List.set_cons_zero, List.set_cons_succ]
      refine wpAnyH_take (i := 7) (oi := { dst := some 46, op := Op.pick (Operand.tmp 41) (Operand.tmp 45) (Operand.const (Value.bool false)), type := 4, pos := "law.go:48", after := #[{ on := 2, ground := Ground.data }, { on := 6, ground := Ground.data }], guard := none }) (v := ?vv22) rfl (by kernel_rfl) (by kernel_rfl) (by kernel_rfl) (fun _ _ _ h => h) ?hy22 (by assumption) ?rest22
      case hy22 => (refine Or.inl ⟨by rfl, ?_⟩; intro W hSw; (try dsimp only at hSw); go_simp; (try with_reducible rfl))
      try simp only [Act.put, List.setIfInBounds_toArray, List.set_cons_zero, List.set_cons_succ]
      refine wpAnyH_take (i := 8) (oi := { dst := some 47, op := Op.move (Operand.tmp 46), type := 4, pos := "law.go:48", after := #[{ on := 7, ground := Ground.data }, { on := 6, ground := Ground.chain }], guard := none }) (v := ?vv23) rfl (by kernel_rfl) (by kernel_rfl) (by kernel_rfl) (fun _ _ _ h => h) ?hy23 (by assumption) ?rest23
      case hy23 => (refine Or.inl ⟨by rfl, ?_⟩; intro W hSw; (try dsimp only at hSw); go_simp; (try with_reducible rfl))
      try simp only [Act.put, List.setIfInBounds_toArray, List.set_cons_zero, List.set_cons_succ]
      refine wpAnyH_ready (rs := [9]) (by kernel_rfl) (by simp) ?_
      refine AllReadyH.cons (o := { dst := some 48, op := Op.call { callee := Callee.value (Operand.func 11), args := #[], argTypes := #[] }, type := 4, pos := "law.go:48", after := #[{ on := 8, ground := Ground.chain }, { on := 8, ground := Ground.guard }], guard := some (8, true) }) rfl (fun K hK => ?step24) ?more24
      case more24 => exact AllReadyH.nil
      ((go_simp; go_at_call 11; refine (HAW.out _ (HX8.out.trans (Y2.out.mono HX8.out.size))).mono ?_; rintro e y3 ⟨rfl, hbn⟩; have Y3 := Lib.hid (Y2.out.trans (hbn.mono Y2.out.size)); clear hbn; go_wp2_with fail))
      refine hK.out _ _ ?hS24 (fun hHeld => ?rr24)
      case hS24 => (exact HS8.out _ Y3.out)
      clear hK K
      try simp only [Act.put, List.setIfInBounds_toArray, List.set_cons_zero, List.set_cons_succ]
      refine wpAnyH_take (i := 10) (oi := { dst := some 49, op := Op.pick (Operand.tmp 47) (Operand.tmp 48) (Operand.const (Value.bool false)), type := 4, pos := "law.go:48", after := #[{ on := 8, ground := Ground.data }, { on := 9, ground := Ground.data }], guard := none }) (v := ?vv25) rfl (by kernel_rfl) (by kernel_rfl) (by kernel_rfl) (fun _ _ _ h => h) ?hy25 (by assumption) ?rest25
      case hy25 => (refine Or.inl ⟨by rfl, ?_⟩; intro W hSw; (try dsimp only at hSw); go_simp; (try with_reducible rfl))
      try simp only [Act.put, List.setIfInBounds_toArray, List.set_cons_zero, List.set_cons_succ]
      refine wpAnyH_take (i := 11) (oi := { dst := some 2, op := Op.assign (Operand.tmp 49), type := 4, pos := "law.go:48", after := #[{ on := 10, ground := Ground.data }, { on := 9, ground := Ground.chain }, { on := 0, ground := Ground.phase }, { on := 1, ground := Ground.phase }, { on := 2, ground := Ground.phase }, { on := 3, ground := Ground.phase }, { on := 4, ground := Ground.phase }, { on := 5, ground := Ground.phase }, { on := 6, ground := Ground.phase }, { on := 7, ground := Ground.phase }, { on := 8, ground := Ground.phase }, { on := 9, ground := Ground.phase }, { on := 10, ground := Ground.phase }], guard := none }) (v := ?vv26) rfl (by kernel_rfl) (by kernel_rfl) (by kernel_rfl) (fun _ _ _ h => h) ?hy26 (by assumption) ?rest26
      case hy26 => (refine Or.inl ⟨by rfl, ?_⟩; intro W hSw; (try dsimp only at hSw); go_simp; (try with_reducible rfl))
      try simp only [Act.put, List.setIfInBounds_toArray, List.set_cons_zero, List.set_cons_succ]
      refine wpAnyH_done (by kernel_rfl) ?_ _
      clear hHeld
      dsimp only [onlyN]
      go_wp2_with fail
      go_ret
      exact ⟨rfl, HB5.out.trans ((HX8.out.trans (Y3.out.mono HX8.out.size)).mono HB5.out.size)⟩
end Go.Proofs.YtfaaeacgmlklhaaGreatDoor
