/- trie: the law's Same. -/
import Derived.Test.YtpploljennbpdaaDoorZTrkD
set_option linter.unusedSimpArgs false
set_option linter.unusedVariables false
set_option linter.unnecessarySimpa false
namespace Go.Proofs.YtpploljennbpdaaDoor
open Go.RowKit Go.Shelf

set_option maxRecDepth 100000 in
set_option maxHeartbeats 2000000 in
theorem lsame_none (w : World) : Calls Tryd.prog 9 #[.agg #[.slice none 0 0], .agg #[.slice none 0 0]] w fun e w' => e = .returned (.bool true) ∧ Below w.heap.size w w' := by
  have hb := (below_new (w := w) (.cells #[.slice none 0 0] 27)).trans ((below_new (w := w.alloc (.cells #[.slice none 0 0] 27)) (.cells #[.slice none 0 0] 32)).mono (by rw [asz]; omega))
  have HB := Lib.hid hb
  clear hb
  go_enter Tryd.func9, Tryd.ntmps9
  go_wp2_with fail
  go_loopw [18] (fun iv wr => iv = .int .i64 0 ∧ Below w.heap.size w wr) (fun _ _ => 0)
  case atStart => exact ⟨rfl, HB.out⟩
  case round =>
    obtain ⟨rfl, hb⟩ := hrel
    have HB2 := Lib.hid hb
    clear hb
    go_wp2_with fail
    refine bodyPost_ret (v := .bool true) (by simp [results, Tryd.results9, go_sem]) rfl ⟨rfl, HB2.out⟩
theorem sub_last {P : List Pth} (hT : TreeP P) {i : Nat} {p : Pth} (hi : P[i]? = some p) {m : Nat} (hm : p.length = m + 1) : p[m]? = some (subP P i) := by
  rw [sub_at hi, List.getLast?_eq_getElem?, hm, Nat.add_sub_cancel]
  have hl : m < p.length := by omega
  rw [List.getElem?_eq_getElem hl]
  rfl
theorem sub_root {P : List Pth} (hT : TreeP P) : subP P 0 = -1 := by rw [sub_at hT.root]; rfl
set_option maxRecDepth 100000 in
set_option maxHeartbeats 4000000 in
theorem lsame_any {w : World} {tv rv : Value} {N : List Nd} {P : List Pth} (ht : TrAt w tv N P) (hr : RTr w rv P) : Calls Tryd.prog 9 #[.agg #[tv], .agg #[rv]] w fun e w' => e = .returned (.bool true) ∧ Below w.heap.size w w' := by
  obtain ⟨g, cap, rfl, hc1, hc2, _⟩ := ht.form
  obtain ⟨rA, rcap, rfl, hr1, hr2⟩ := hr.row.form
  unfold maxLen at hc2 hr2
  have hP9 := hr.few
  have hPI : (P.length : Int) ≤ 900 := by omega
  have hb1 := below_new (w := w) (.cells #[.slice (some ⟨g, 0, none⟩) P.length cap] 27)
  have hx1 := alloc_at w (.cells #[.slice (some ⟨g, 0, none⟩) P.length cap] 27)
  generalize hw1 : w.alloc (.cells #[.slice (some ⟨g, 0, none⟩) P.length cap] 27) = w1 at hb1 hx1
  have s1 : w1.heap.size = w.heap.size + 1 := by rw [← hw1, asz]
  have hb2 := below_new (w := w1) (.cells #[.slice rA P.length rcap] 32)
  have hx2 := alloc_at w1 (.cells #[.slice rA P.length rcap] 32)
  rw [s1] at hx2
  obtain ⟨w2, hw2⟩ : ∃ w2, w2 = w1.alloc (.cells #[.slice rA P.length rcap] 32) := ⟨_, rfl⟩
  rw [← hw2] at hb2 hx2
  have hx12 := (hb2.block _ (heap_lt hx1)).trans hx1
  have HT := Lib.hid ((ht.below hb1).below hb2)
  have HR := Lib.hid ((hr.below hb1).below hb2)
  have HB2 := Lib.hid (hb1.trans (hb2.mono hb1.size))
  have HX1 := Lib.hid hx12
  have HX2 := Lib.hid hx2
  have HW2 : Hid (w2 = (w.alloc (.cells #[.slice (some ⟨g, 0, none⟩) P.length cap] 27)).alloc (.cells #[.slice rA P.length rcap] 32)) := Lib.hid (by rw [hw1]; exact hw2)
  have k1 := cell_of hx12 0
  have k2 := cell_of hx2 0
  have hnn : ((P.length : Int) != (P.length : Int)) = false := by simp
  clear ht hr hb1 hb2 hx1 hx2 hx12 hw1 hw2 s1 hP9
  go_enter Tryd.func9, Tryd.ntmps9
  go_wp2_with fail
  rw [← HW2.out]
  go_wp2_with fail
  clear hnn
  go_loopw [18] (fun iv wr => ∃ i : Nat, i ≤ P.length ∧ iv = .int .i64 i ∧ Below w2.heap.size w2 wr) (fun iv _ => P.length - (intOf iv).toNat)
  case atStart => exact ⟨0, Nat.zero_le _, rfl, Below.refl _ _⟩
  case round =>
    obtain ⟨i, hi, rfl, hbw⟩ := hrel
    have HB := Lib.hid hbw
    by_cases hlt : i < P.length
    · have hPi : P[i]? = some P[i] := List.getElem?_eq_getElem hlt
      generalize P[i] = p at hPi
      obtain ⟨g', x, e', _, _, _, c0, c1, c2, hkr⟩ := (HT.out.below hbw).cells hlt
      injection e' with e'
      injection e' with e'
      subst e'
      obtain ⟨kA, kc, hkv, hk1, hk2, _⟩ := hkr.form
      rw [hkv] at c2 hkr
      unfold maxLen at hk2
      have hrw := HR.out.below hbw
      obtain ⟨aR, pv, eR, hRb, kR, hps⟩ := hrw.row.at hPi
      subst eR
      obtain ⟨pA, pc, rfl, hp1, hp2⟩ := hps.form
      unfold maxLen at hp2
      have hiI : (i : Int) < (P.length : Int) := by omega
      have HLT := Lib.hid hlt
      have hkl : (kidsP P i).length ≤ 900 := Nat.le_trans (length_le_of_nodup _ _ (kids_nodup P i) (fun k hk => kid_lt hk)) (by omega)
      have hp8 := HR.out.len hPi
      obtain ⟨s, hs⟩ : ∃ s, subP P i = s := ⟨_, rfl⟩
      obtain ⟨u, hu⟩ : ∃ u, upP P i = u := ⟨_, rfl⟩
      rw [hs] at c0
      rw [hu] at c1
      have hbn := below_new (w := wr) (.cells #[.int .i64 s, .int .i64 u, .slice kA (kidsP P i).length kc] 52)
      have hxn := alloc_at wr (.cells #[.int .i64 s, .int .i64 u, .slice kA (kidsP P i).length kc] 52)
      obtain ⟨w5, hw5⟩ : ∃ w5, w5 = wr.alloc (.cells #[.int .i64 s, .int .i64 u, .slice kA (kidsP P i).length kc] 52) := ⟨_, rfl⟩
      rw [← hw5] at hbn hxn
      have HW5 := Lib.hid hw5
      have HB5 := Lib.hid (HB.out.trans (hbn.mono HB.out.size))
      have hr5 := hrw.below hbn
      have hkr5 := hkr.below hbn
      have HUP : Hid (∀ W, Below w5.heap.size w5 W → Calls Tryd.prog 31 #[.agg #[.slice (some aR) P.length rcap], .int .i64 (i : Int)] W fun e w' => e = .returned (.int .i64 u) ∧ Below W.heap.size W w') := Lib.hid (fun W hW => by
        have := RUp_any (hr5.below hW) hPi
        rwa [hu] at this)
      have HKD : Hid (∀ W, Below w5.heap.size w5 W → Calls Tryd.prog 19 #[.agg #[.slice (some aR) P.length rcap], .int .i64 (i : Int)] W fun e w' => ∃ v', e = .returned v' ∧ Below W.heap.size W w' ∧ ∀ W2, Below w'.heap.size w' W2 → Calls Tryd.prog 12 #[.slice kA (kidsP P i).length kc, v'] W2 fun e w' => e = .returned (.bool true) ∧ Below W2.heap.size W2 w') := Lib.hid (fun W hW => by
        refine (RKids_any (hr5.below hW) hPi).mono ?_
        rintro e w' ⟨v', rfl, hrow, _, hb⟩
        refine ⟨v', rfl, hb, fun W2 hW2 => ?_⟩
        have hb2 := hW.trans (hb.mono hW.size)
        have h1 := (hkr5.below hb2).below hW2
        have h2 := hrow.below hW2
        rw [← natI_len] at h1 h2
        have := Same_any h1.sis h2.sis (by rw [natI_len]; omega) (by rw [natI_len]; omega)
        have hss : sameB (natI (kidsP P i)) (natI (kidsP P i)) = true := decide_eq_true rfl
        rwa [hss, natI_len] at this)
      have HALL : Hid (∀ W, Below w5.heap.size w5 W → W.cell? ⟨w.heap.size + 1, 0, none⟩ = some (.slice (some aR) P.length rcap) ∧ W.cell? ⟨wr.heap.size, 0, none⟩ = some (.int .i64 s) ∧ W.cell? ⟨wr.heap.size, 1, none⟩ = some (.int .i64 u) ∧ W.cell? ⟨wr.heap.size, 2, none⟩ = some (.slice kA (kidsP P i).length kc) ∧ W.cell? (aR.add i) = some (.slice pA p.length pc) ∧ ∀ m, p.length = m + 1 → ∃ pa : Addr, pA = some pa ∧ W.cell? (pa.add m) = some (.int .i64 s)) := Lib.hid (fun W hW => by
        have hb := HB5.out.trans (hW.mono HB5.out.size)
        have hn := (hW.block _ (heap_lt hxn)).trans hxn
        have hbb := hbn.trans (hW.mono hbn.size)
        refine ⟨cell_of ((hb.block _ (heap_lt HX2.out)).trans HX2.out) 0, cell_of hn 0, cell_of hn 1, cell_of hn 2, (hbb.cell (p := aR.add i) (by rw [add_block]; exact hRb)).trans kR, fun m hm => ?_⟩
        have hlast := sub_last HR.out.tree hPi hm
        rw [hs] at hlast
        obtain ⟨pa, e, _, hc⟩ := (hps.below hbb).at hlast
        exact ⟨pa, e, hc⟩)
      have hcell3 := (HALL.out w5 (Below.refl _ _))
      obtain ⟨kn, hkn⟩ : ∃ kn, (kidsP P i).length = kn := ⟨_, rfl⟩
      rw [hkn] at c2 HKD HALL HW5 hk1
      have hbx := cell_of ((hbw.block _ (heap_lt HX1.out)).trans HX1.out) 0
      by_cases h0 : i = 0
      · have hs0 : s = -1 := by rw [← hs, h0]; exact sub_root HR.out.tree
        have HS0 := Lib.hid hs0
        have h0I : ¬ (0 : Int) < (i : Int) := by omega
        clear hi hlt hbw hPi hkv hkr hrw kR hps hkl hp8 hs hu hbn hxn hw5 hr5 hkr5 hcell3 hkn h0 hs0
        go_wp2_with fail
        rw [← HW5.out, ← HS0.out]
        have hss : (s == s) = true := beq_self_eq_true _
        have huu : (u == u) = true := beq_self_eq_true _
        have HS := Lib.hid (HALL.out _ (below_drew (Below.refl _ w5)))
        refine wp_region_held_drew (S := fun W => W.cell? ⟨w.heap.size + 1, 0, none⟩ = some (.slice (some aR) P.length rcap) ∧ W.cell? ⟨wr.heap.size, 0, none⟩ = some (.int .i64 s) ∧ W.cell? ⟨wr.heap.size, 1, none⟩ = some (.int .i64 u) ∧ W.cell? ⟨wr.heap.size, 2, none⟩ = some (.slice kA kn kc)) (by kernel_rfl) ⟨HS.out.1, HS.out.2.1, HS.out.2.2.1, HS.out.2.2.2.1⟩ (fun hHeld => ?_)
        refine wpAnyH_take (i := 0) (oi := { dst := some 39, op := Op.fieldAddr 52 (Operand.tmp 6) 0, type := 0, pos := "law.go:48", after := #[], guard := none }) (v := ?vv1) rfl (by kernel_rfl) (by kernel_rfl) (by kernel_rfl) (fun _ _ _ h => h) ?hy1 (by assumption) ?rest1
        case hy1 => (refine Or.inl ⟨by rfl, ?_⟩; intro W hSw; (try dsimp only at hSw); go_simp; (try with_reducible rfl))
        try simp only [Act.put, List.setIfInBounds_toArray, List.set_cons_zero, List.set_cons_succ]
        refine wpAnyH_take (i := 1) (oi := { dst := some 40, op := Op.load 3 (Operand.tmp 39), type := 3, pos := "law.go:48", after := #[{ on := 0, ground := Ground.data }], guard := none }) (v := ?vv2) rfl (by kernel_rfl) (by kernel_rfl) (by kernel_rfl) (fun _ _ _ h => h) ?hy2 (by assumption) ?rest2
        case hy2 => (refine Or.inl ⟨by rfl, ?_⟩; intro W hSw; (try dsimp only at hSw); go_simp; (try with_reducible rfl))
        try simp only [Act.put, List.setIfInBounds_toArray, List.set_cons_zero, List.set_cons_succ]
        refine wpAnyH_take (i := 2) (oi := { dst := some 41, op := Op.move (Operand.tmp 7), type := 3, pos := "law.go:48", after := #[], guard := none }) (v := ?vv3) rfl (by kernel_rfl) (by kernel_rfl) (by kernel_rfl) (fun _ _ _ h => h) ?hy3 (by assumption) ?rest3
        case hy3 => (refine Or.inl ⟨by rfl, ?_⟩; intro W hSw; (try dsimp only at hSw); go_simp; (try with_reducible rfl))
        try simp only [Act.put, List.setIfInBounds_toArray, List.set_cons_zero, List.set_cons_succ]
        refine wpAnyH_take (i := 3) (oi := { dst := some 42, op := Op.binOp BinOp.neq 3 (Operand.tmp 40) (Operand.tmp 41) 3, type := 4, pos := "law.go:48", after := #[{ on := 1, ground := Ground.data }, { on := 2, ground := Ground.data }], guard := none }) (v := (.bool false)) rfl (by kernel_rfl) (by kernel_rfl) (by kernel_rfl) (fun _ _ _ h => h) ?hy4 (by assumption) ?rest4
        case hy4 => ((refine Or.inl ⟨by rfl, ?_⟩; intro W hSw; (try dsimp only at hSw); go_simp; (first | done | with_reducible rfl | simp)))
        try simp only [Act.put, List.setIfInBounds_toArray, List.set_cons_zero, List.set_cons_succ]
        refine wpAnyH_take (i := 4) (oi := { dst := some 43, op := Op.move (Operand.tmp 42), type := 4, pos := "law.go:48", after := #[{ on := 3, ground := Ground.data }], guard := none }) (v := ?vv5) rfl (by kernel_rfl) (by kernel_rfl) (by kernel_rfl) (fun _ _ _ h => h) ?hy5 (by assumption) ?rest5
        case hy5 => (refine Or.inl ⟨by rfl, ?_⟩; intro W hSw; (try dsimp only at hSw); go_simp; (try with_reducible rfl))
        try simp only [Act.put, List.setIfInBounds_toArray, List.set_cons_zero, List.set_cons_succ]
        refine wpAnyH_take (i := 5) (oi := { dst := some 44, op := Op.fieldAddr 52 (Operand.tmp 6) 1, type := 0, pos := "law.go:48", after := #[{ on := 4, ground := Ground.guard }], guard := some (4, false) }) (v := ?vv6) rfl (by kernel_rfl) (by kernel_rfl) (by kernel_rfl) (fun _ _ _ h => h) ?hy6 (by assumption) ?rest6
        case hy6 => (refine Or.inl ⟨by rfl, ?_⟩; intro W hSw; (try dsimp only at hSw); go_simp; (try with_reducible rfl))
        try simp only [Act.put, List.setIfInBounds_toArray, List.set_cons_zero, List.set_cons_succ]
        refine wpAnyH_take (i := 6) (oi := { dst := some 45, op := Op.load 3 (Operand.tmp 44), type := 3, pos := "law.go:48", after := #[{ on := 5, ground := Ground.data }, { on := 4, ground := Ground.guard }], guard := some (4, false) }) (v := ?vv7) rfl (by kernel_rfl) (by kernel_rfl) (by kernel_rfl) (fun _ _ _ h => h) ?hy7 (by assumption) ?rest7
        case hy7 => (refine Or.inl ⟨by rfl, ?_⟩; intro W hSw; (try dsimp only at hSw); go_simp; (try with_reducible rfl))
        try simp only [Act.put, List.setIfInBounds_toArray, List.set_cons_zero, List.set_cons_succ]
        refine wpAnyH_take (i := 7) (oi := { dst := some 46, op := Op.load 32 (Operand.tmp 3), type := 32, pos := "law.go:48", after := #[{ on := 4, ground := Ground.guard }], guard := some (4, false) }) (v := ?vv8) rfl (by kernel_rfl) (by kernel_rfl) (by kernel_rfl) (fun _ _ _ h => h) ?hy8 (by assumption) ?rest8
        case hy8 => (refine Or.inl ⟨by rfl, ?_⟩; intro W hSw; (try dsimp only at hSw); go_simp; (try with_reducible rfl))
        try simp only [Act.put, List.setIfInBounds_toArray, List.set_cons_zero, List.set_cons_succ]
        refine wpAnyH_take (i := 8) (oi := { dst := some 47, op := Op.move (Operand.tmp 5), type := 3, pos := "law.go:48", after := #[{ on := 4, ground := Ground.guard }], guard := some (4, false) }) (v := ?vv9) rfl (by kernel_rfl) (by kernel_rfl) (by kernel_rfl) (fun _ _ _ h => h) ?hy9 (by assumption) ?rest9
        case hy9 => (refine Or.inl ⟨by rfl, ?_⟩; intro W hSw; (try dsimp only at hSw); go_simp; (try with_reducible rfl))
        try simp only [Act.put, List.setIfInBounds_toArray, List.set_cons_zero, List.set_cons_succ]
        refine wpAnyH_ready (rs := [9]) (by kernel_rfl) (by simp) ?_
        refine AllReadyH.cons (o := { dst := some 48, op := Op.call { callee := Callee.value (Operand.func 31), args := #[Operand.tmp 46, Operand.tmp 47], argTypes := #[32, 3] }, type := 3, pos := "law.go:48", after := #[{ on := 7, ground := Ground.data }, { on := 8, ground := Ground.data }, { on := 4, ground := Ground.chain }, { on := 4, ground := Ground.guard }], guard := some (4, false) }) rfl (fun K hK => ?step10) ?more10
        case more10 => exact AllReadyH.nil
        ((go_simp; go_at_call 31; refine (HUP.out _ (below_drew (Below.refl _ w5))).mono ?_; rintro e w6 ⟨rfl, hb6⟩; go_wp2_with fail))
        refine hK.out _ _ ?hS10 (fun hHeld => ?rr10)
        case hS10 => (exact ⟨(HALL.out _ (below_of_drew hb6)).1, (HALL.out _ (below_of_drew hb6)).2.1, (HALL.out _ (below_of_drew hb6)).2.2.1, (HALL.out _ (below_of_drew hb6)).2.2.2.1⟩)
        clear hK K
        try simp only [Act.put, List.setIfInBounds_toArray, List.set_cons_zero, List.set_cons_succ]
        have hc6 : Below w5.heap.size w5 w6 := below_of_drew hb6
        have HC6 := Lib.hid hc6
        refine wpAnyH_take (i := 10) (oi := { dst := some 49, op := Op.binOp BinOp.neq 3 (Operand.tmp 45) (Operand.tmp 48) 3, type := 4, pos := "law.go:48", after := #[{ on := 6, ground := Ground.data }, { on := 9, ground := Ground.data }, { on := 4, ground := Ground.guard }], guard := some (4, false) }) (v := (.bool false)) rfl (by kernel_rfl) (by kernel_rfl) (by kernel_rfl) (fun _ _ _ h => h) ?hy11 (by assumption) ?rest11
        case hy11 => ((refine Or.inl ⟨by rfl, ?_⟩; intro W hSw; (try dsimp only at hSw); go_simp; (first | done | with_reducible rfl | simp)))
        try simp only [Act.put, List.setIfInBounds_toArray, List.set_cons_zero, List.set_cons_succ]
        refine wpAnyH_take (i := 11) (oi := { dst := some 50, op := Op.pick (Operand.tmp 43) (Operand.const (Value.bool true)) (Operand.tmp 49), type := 4, pos := "law.go:48", after := #[{ on := 4, ground := Ground.data }, { on := 10, ground := Ground.data }], guard := none }) (v := (.bool false)) rfl (by kernel_rfl) (by kernel_rfl) (by kernel_rfl) (fun _ _ _ h => h) ?hy12 (by assumption) ?rest12
        case hy12 => ((refine Or.inl ⟨by rfl, ?_⟩; intro W hSw; (try dsimp only at hSw); go_simp; (first | done | with_reducible rfl | simp)))
        try simp only [Act.put, List.setIfInBounds_toArray, List.set_cons_zero, List.set_cons_succ]
        refine wpAnyH_take (i := 12) (oi := { dst := some 51, op := Op.move (Operand.tmp 50), type := 4, pos := "law.go:48", after := #[{ on := 11, ground := Ground.data }, { on := 9, ground := Ground.chain }], guard := none }) (v := ?vv13) rfl (by kernel_rfl) (by kernel_rfl) (by kernel_rfl) (fun _ _ _ h => h) ?hy13 (by assumption) ?rest13
        case hy13 => (refine Or.inl ⟨by rfl, ?_⟩; intro W hSw; (try dsimp only at hSw); go_simp; (try with_reducible rfl))
        try simp only [Act.put, List.setIfInBounds_toArray, List.set_cons_zero, List.set_cons_succ]
        refine wpAnyH_take (i := 13) (oi := { dst := some 52, op := Op.fieldAddr 52 (Operand.tmp 6) 2, type := 0, pos := "law.go:48", after := #[{ on := 12, ground := Ground.guard }], guard := some (12, false) }) (v := ?vv14) rfl (by kernel_rfl) (by kernel_rfl) (by kernel_rfl) (fun _ _ _ h => h) ?hy14 (by assumption) ?rest14
        case hy14 => (refine Or.inl ⟨by rfl, ?_⟩; intro W hSw; (try dsimp only at hSw); go_simp; (try with_reducible rfl))
        try simp only [Act.put, List.setIfInBounds_toArray, List.set_cons_zero, List.set_cons_succ]
        refine wpAnyH_take (i := 14) (oi := { dst := some 53, op := Op.load 24 (Operand.tmp 52), type := 24, pos := "law.go:48", after := #[{ on := 13, ground := Ground.data }, { on := 12, ground := Ground.guard }], guard := some (12, false) }) (v := ?vv15) rfl (by kernel_rfl) (by kernel_rfl) (by kernel_rfl) (fun _ _ _ h => h) ?hy15 (by assumption) ?rest15
        case hy15 => (refine Or.inl ⟨by rfl, ?_⟩; intro W hSw; (try dsimp only at hSw); go_simp; (try with_reducible rfl))
        try simp only [Act.put, List.setIfInBounds_toArray, List.set_cons_zero, List.set_cons_succ]
        refine wpAnyH_take (i := 15) (oi := { dst := some 54, op := Op.load 32 (Operand.tmp 3), type := 32, pos := "law.go:48", after := #[{ on := 12, ground := Ground.guard }], guard := some (12, false) }) (v := ?vv16) rfl (by kernel_rfl) (by kernel_rfl) (by kernel_rfl) (fun _ _ _ h => h) ?hy16 (by assumption) ?rest16
        case hy16 => (refine Or.inl ⟨by rfl, ?_⟩; intro W hSw; (try dsimp only at hSw); go_simp; (try with_reducible rfl))
        try simp only [Act.put, List.setIfInBounds_toArray, List.set_cons_zero, List.set_cons_succ]
        refine wpAnyH_take (i := 16) (oi := { dst := some 55, op := Op.move (Operand.tmp 5), type := 3, pos := "law.go:48", after := #[{ on := 12, ground := Ground.guard }], guard := some (12, false) }) (v := ?vv17) rfl (by kernel_rfl) (by kernel_rfl) (by kernel_rfl) (fun _ _ _ h => h) ?hy17 (by assumption) ?rest17
        case hy17 => (refine Or.inl ⟨by rfl, ?_⟩; intro W hSw; (try dsimp only at hSw); go_simp; (try with_reducible rfl))
        try simp only [Act.put, List.setIfInBounds_toArray, List.set_cons_zero, List.set_cons_succ]
        refine wpAnyH_ready (rs := [17]) (by kernel_rfl) (by simp) ?_
        refine AllReadyH.cons (o := { dst := some 56, op := Op.call { callee := Callee.value (Operand.func 19), args := #[Operand.tmp 54, Operand.tmp 55], argTypes := #[32, 3] }, type := 24, pos := "law.go:48", after := #[{ on := 15, ground := Ground.data }, { on := 16, ground := Ground.data }, { on := 12, ground := Ground.chain }, { on := 12, ground := Ground.guard }], guard := some (12, false) }) rfl (fun K hK => ?step18) ?more18
        case more18 => exact AllReadyH.nil
        ((go_simp; go_at_call 19; refine (HKD.out _ HC6.out).mono ?_; rintro e w7 ⟨v', rfl, hb7, hsm⟩; go_wp2_with fail))
        refine hK.out _ _ ?hS18 (fun hHeld => ?rr18)
        case hS18 => (exact ⟨(HALL.out _ (HC6.out.trans (hb7.mono HC6.out.size))).1, (HALL.out _ (HC6.out.trans (hb7.mono HC6.out.size))).2.1, (HALL.out _ (HC6.out.trans (hb7.mono HC6.out.size))).2.2.1, (HALL.out _ (HC6.out.trans (hb7.mono HC6.out.size))).2.2.2.1⟩)
        clear hK K
        try simp only [Act.put, List.setIfInBounds_toArray, List.set_cons_zero, List.set_cons_succ]
        have HC7 := Lib.hid (HC6.out.trans (hb7.mono HC6.out.size))
        have HSM := Lib.hid hsm
        refine wpAnyH_ready (rs := [18]) (by kernel_rfl) (by simp) ?_
        refine AllReadyH.cons (o := { dst := some 57, op := Op.call { callee := Callee.value (Operand.func 12), args := #[Operand.tmp 53, Operand.tmp 56], argTypes := #[24, 24] }, type := 4, pos := "law.go:48", after := #[{ on := 14, ground := Ground.data }, { on := 17, ground := Ground.data }, { on := 17, ground := Ground.chain }, { on := 12, ground := Ground.guard }], guard := some (12, false) }) rfl (fun K hK => ?step19) ?more19
        case more19 => exact AllReadyH.nil
        ((go_simp; go_at_call 12; refine (HSM.out _ (Below.refl _ w7)).mono ?_; rintro e w8 ⟨rfl, hb8⟩; go_wp2_with fail))
        refine hK.out _ _ ?hS19 (fun hHeld => ?rr19)
        case hS19 => (exact ⟨(HALL.out _ (HC7.out.trans (hb8.mono HC7.out.size))).1, (HALL.out _ (HC7.out.trans (hb8.mono HC7.out.size))).2.1, (HALL.out _ (HC7.out.trans (hb8.mono HC7.out.size))).2.2.1, (HALL.out _ (HC7.out.trans (hb8.mono HC7.out.size))).2.2.2.1⟩)
        clear hK K
        try simp only [Act.put, List.setIfInBounds_toArray, List.set_cons_zero, List.set_cons_succ]
        have HC8 := Lib.hid (HB5.out.trans ((HC7.out.trans (hb8.mono HC7.out.size)).mono HB5.out.size))
        refine wpAnyH_take (i := 19) (oi := { dst := some 58, op := Op.unOp UnOp.not 4 (Operand.tmp 57), type := 4, pos := "law.go:48", after := #[{ on := 18, ground := Ground.data }, { on := 12, ground := Ground.guard }], guard := some (12, false) }) (v := (.bool false)) rfl (by kernel_rfl) (by kernel_rfl) (by kernel_rfl) (fun _ _ _ h => h) ?hy20 (by assumption) ?rest20
        case hy20 => ((refine Or.inl ⟨by rfl, ?_⟩; intro W hSw; (try dsimp only at hSw); go_simp; (first | done | with_reducible rfl | simp)))
        try simp only [Act.put, List.setIfInBounds_toArray, List.set_cons_zero, List.set_cons_succ]
        refine wpAnyH_take (i := 20) (oi := { dst := some 59, op := Op.pick (Operand.tmp 51) (Operand.const (Value.bool true)) (Operand.tmp 58), type := 4, pos := "law.go:48", after := #[{ on := 12, ground := Ground.data }, { on := 19, ground := Ground.data }], guard := none }) (v := (.bool false)) rfl (by kernel_rfl) (by kernel_rfl) (by kernel_rfl) (fun _ _ _ h => h) ?hy21 (by assumption) ?rest21
        case hy21 => ((refine Or.inl ⟨by rfl, ?_⟩; intro W hSw; (try dsimp only at hSw); go_simp; (first | done | with_reducible rfl | simp)))
        try simp only [Act.put, List.setIfInBounds_toArray, List.set_cons_zero, List.set_cons_succ]
        refine wpAnyH_done (by kernel_rfl) ?_ _
        clear hHeld HS hb6 hc6 hb7 hsm hb8 HUP HKD HALL HSM HC6 HC7 hss huu c0 c1 c2 hbx
        go_wp2_with fail
        go_roundw
        case rel => exact ⟨i + 1, HLT.out, by go_num, HC8.out⟩
        case measure => have := HLT.out; simp [intOf]; omega
      · obtain ⟨m, hm⟩ : ∃ m, p.length = m + 1 := ⟨p.length - 1, by have := HR.out.tree.ne_nil hPi (by omega); have : 0 < p.length := Nat.pos_of_ne_zero (fun e => this (List.eq_nil_of_length_eq_zero e)); omega⟩
        obtain ⟨pa, epa, _⟩ := hcell3.2.2.2.2.2 m hm
        subst epa
        have HM := Lib.hid hm
        have HALL2 : Hid (∀ W, Below w5.heap.size w5 W → W.cell? ⟨w.heap.size + 1, 0, none⟩ = some (.slice (some aR) P.length rcap) ∧ W.cell? (aR.add i) = some (.slice (some pa) (m + 1) pc) ∧ W.cell? (pa.add m) = some (.int .i64 s)) := Lib.hid (fun W hW => by
          obtain ⟨a1, _, _, _, a5, a6⟩ := HALL.out W hW
          obtain ⟨pa', e, hc⟩ := a6 m hm
          cases e
          rw [hm] at a5
          exact ⟨a1, a5, hc⟩)
        have h0I : (0 : Int) < (i : Int) := by omega
        have hmI : (m : Int) ≤ 7 := by omega
        clear hi hlt hbw hPi hkv hkr hrw kR hps hkl hp8 hs hu hbn hxn hw5 hr5 hkr5 hcell3 hkn h0 hm hp1
        go_wp2_with fail
        rw [← HW5.out]
        have HS8 := Lib.hid (HALL2.out _ (below_drew (Below.refl _ w5)))
        refine wp_region_held_drew (S := fun W => W.cell? ⟨w.heap.size + 1, 0, none⟩ = some (.slice (some aR) P.length rcap) ∧ W.cell? (aR.add i) = some (.slice (some pa) (m + 1) pc) ∧ W.cell? (pa.add m) = some (.int .i64 s)) (by kernel_rfl) HS8.out (fun hHeld => ?_)
        refine wpAnyH_take (i := 0) (oi := { dst := some 25, op := Op.fieldAddr 32 (Operand.tmp 3) 0, type := 0, pos := "law.go:46", after := #[], guard := none }) (v := ?vv22) rfl (by kernel_rfl) (by kernel_rfl) (by kernel_rfl) (fun _ _ _ h => h) ?hy22 (by assumption) ?rest22
        case hy22 => (refine Or.inl ⟨by rfl, ?_⟩; intro W hSw; (try dsimp only at hSw); go_simp; (try with_reducible rfl))
        try simp only [Act.put, List.setIfInBounds_toArray, List.set_cons_zero, List.set_cons_succ]
        refine wpAnyH_take (i := 1) (oi := { dst := some 26, op := Op.load 22 (Operand.tmp 25), type := 22, pos := "law.go:46", after := #[{ on := 0, ground := Ground.data }], guard := none }) (v := ?vv23) rfl (by kernel_rfl) (by kernel_rfl) (by kernel_rfl) (fun _ _ _ h => h) ?hy23 (by assumption) ?rest23
        case hy23 => (refine Or.inl ⟨by rfl, ?_⟩; intro W hSw; (try dsimp only at hSw); go_simp; (try with_reducible rfl))
        try simp only [Act.put, List.setIfInBounds_toArray, List.set_cons_zero, List.set_cons_succ]
        refine wpAnyH_take (i := 2) (oi := { dst := some 27, op := Op.move (Operand.tmp 5), type := 3, pos := "law.go:46", after := #[], guard := none }) (v := ?vv24) rfl (by kernel_rfl) (by kernel_rfl) (by kernel_rfl) (fun _ _ _ h => h) ?hy24 (by assumption) ?rest24
        case hy24 => (refine Or.inl ⟨by rfl, ?_⟩; intro W hSw; (try dsimp only at hSw); go_simp; (try with_reducible rfl))
        try simp only [Act.put, List.setIfInBounds_toArray, List.set_cons_zero, List.set_cons_succ]
        refine wpAnyH_take (i := 3) (oi := { dst := some 28, op := Op.indexAddr 22 (Operand.tmp 26) (Operand.tmp 27), type := 0, pos := "law.go:46", after := #[{ on := 1, ground := Ground.data }, { on := 2, ground := Ground.data }], guard := none }) (v := ?vv25) rfl (by kernel_rfl) (by kernel_rfl) (by kernel_rfl) (fun _ _ _ h => h) ?hy25 (by assumption) ?rest25
        case hy25 => (refine Or.inl ⟨by rfl, ?_⟩; intro W hSw; (try dsimp only at hSw); go_simp; (try with_reducible rfl))
        try simp only [Act.put, List.setIfInBounds_toArray, List.set_cons_zero, List.set_cons_succ]
        refine wpAnyH_take (i := 4) (oi := { dst := some 29, op := Op.load 24 (Operand.tmp 28), type := 24, pos := "law.go:46", after := #[{ on := 3, ground := Ground.data }], guard := none }) (v := ?vv26) rfl (by kernel_rfl) (by kernel_rfl) (by kernel_rfl) (fun _ _ _ h => h) ?hy26 (by assumption) ?rest26
        case hy26 => (refine Or.inl ⟨by rfl, ?_⟩; intro W hSw; (try dsimp only at hSw); go_simp; (try with_reducible rfl))
        try simp only [Act.put, List.setIfInBounds_toArray, List.set_cons_zero, List.set_cons_succ]
        refine wpAnyH_take (i := 5) (oi := { dst := some 30, op := Op.fieldAddr 32 (Operand.tmp 3) 0, type := 0, pos := "law.go:46", after := #[], guard := none }) (v := ?vv27) rfl (by kernel_rfl) (by kernel_rfl) (by kernel_rfl) (fun _ _ _ h => h) ?hy27 (by assumption) ?rest27
        case hy27 => (refine Or.inl ⟨by rfl, ?_⟩; intro W hSw; (try dsimp only at hSw); go_simp; (try with_reducible rfl))
        try simp only [Act.put, List.setIfInBounds_toArray, List.set_cons_zero, List.set_cons_succ]
        refine wpAnyH_take (i := 6) (oi := { dst := some 31, op := Op.load 22 (Operand.tmp 30), type := 22, pos := "law.go:46", after := #[{ on := 5, ground := Ground.data }], guard := none }) (v := ?vv28) rfl (by kernel_rfl) (by kernel_rfl) (by kernel_rfl) (fun _ _ _ h => h) ?hy28 (by assumption) ?rest28
        case hy28 => (refine Or.inl ⟨by rfl, ?_⟩; intro W hSw; (try dsimp only at hSw); go_simp; (try with_reducible rfl))
        try simp only [Act.put, List.setIfInBounds_toArray, List.set_cons_zero, List.set_cons_succ]
        refine wpAnyH_take (i := 7) (oi := { dst := some 32, op := Op.move (Operand.tmp 5), type := 3, pos := "law.go:46", after := #[], guard := none }) (v := ?vv29) rfl (by kernel_rfl) (by kernel_rfl) (by kernel_rfl) (fun _ _ _ h => h) ?hy29 (by assumption) ?rest29
        case hy29 => (refine Or.inl ⟨by rfl, ?_⟩; intro W hSw; (try dsimp only at hSw); go_simp; (try with_reducible rfl))
        try simp only [Act.put, List.setIfInBounds_toArray, List.set_cons_zero, List.set_cons_succ]
        refine wpAnyH_take (i := 8) (oi := { dst := some 33, op := Op.indexAddr 22 (Operand.tmp 31) (Operand.tmp 32), type := 0, pos := "law.go:46", after := #[{ on := 6, ground := Ground.data }, { on := 7, ground := Ground.data }], guard := none }) (v := ?vv30) rfl (by kernel_rfl) (by kernel_rfl) (by kernel_rfl) (fun _ _ _ h => h) ?hy30 (by assumption) ?rest30
        case hy30 => (refine Or.inl ⟨by rfl, ?_⟩; intro W hSw; (try dsimp only at hSw); go_simp; (try with_reducible rfl))
        try simp only [Act.put, List.setIfInBounds_toArray, List.set_cons_zero, List.set_cons_succ]
        refine wpAnyH_take (i := 9) (oi := { dst := some 34, op := Op.load 24 (Operand.tmp 33), type := 24, pos := "law.go:46", after := #[{ on := 8, ground := Ground.data }], guard := none }) (v := ?vv31) rfl (by kernel_rfl) (by kernel_rfl) (by kernel_rfl) (fun _ _ _ h => h) ?hy31 (by assumption) ?rest31
        case hy31 => (refine Or.inl ⟨by rfl, ?_⟩; intro W hSw; (try dsimp only at hSw); go_simp; (try with_reducible rfl))
        try simp only [Act.put, List.setIfInBounds_toArray, List.set_cons_zero, List.set_cons_succ]
        refine wpAnyH_take (i := 10) (oi := { dst := some 35, op := Op.call { callee := Callee.builtin Builtin.len, args := #[Operand.tmp 34], argTypes := #[24] }, type := 3, pos := "law.go:46", after := #[{ on := 9, ground := Ground.data }], guard := none }) (v := ?vv32) rfl (by kernel_rfl) (by kernel_rfl) (by kernel_rfl) (fun _ _ _ h => h) ?hy32 (by assumption) ?rest32
        case hy32 => (refine Or.inl ⟨by rfl, ?_⟩; intro W hSw; (try dsimp only at hSw); go_simp; (try with_reducible rfl))
        try simp only [Act.put, List.setIfInBounds_toArray, List.set_cons_zero, List.set_cons_succ]
        refine wpAnyH_take (i := 11) (oi := { dst := some 36, op := Op.binOp BinOp.sub 3 (Operand.tmp 35) (Operand.const (Value.int IntKind.i64 1)) 3, type := 3, pos := "law.go:46", after := #[{ on := 10, ground := Ground.data }], guard := none }) (v := (.int .i64 m)) rfl (by kernel_rfl) (by kernel_rfl) (by kernel_rfl) (fun _ _ _ h => h) ?hy33 (by assumption) ?rest33
        case hy33 => ((refine Or.inl ⟨by rfl, ?_⟩; intro W hSw; (try dsimp only at hSw); go_simp; (first | done | with_reducible rfl | exact IntWalk.i64_in _ (by omega) | omega)))
        try simp only [Act.put, List.setIfInBounds_toArray, List.set_cons_zero, List.set_cons_succ]
        refine wpAnyH_take (i := 12) (oi := { dst := some 37, op := Op.indexAddr 24 (Operand.tmp 29) (Operand.tmp 36), type := 0, pos := "law.go:46", after := #[{ on := 4, ground := Ground.data }, { on := 11, ground := Ground.data }], guard := none }) (v := (.pointer (some (pa.add m)))) rfl (by kernel_rfl) (by kernel_rfl) (by kernel_rfl) (fun _ _ _ h => h) ?hy34 (by assumption) ?rest34
        case hy34 => ((refine Or.inl ⟨by rfl, ?_⟩; intro W hSw; (try dsimp only at hSw); go_simp; (first | done | with_reducible rfl | omega | (trace_state; exact fun h => absurd (h (by omega)) (by omega)))))
        try simp only [Act.put, List.setIfInBounds_toArray, List.set_cons_zero, List.set_cons_succ]
        refine wpAnyH_take (i := 13) (oi := { dst := some 38, op := Op.load 3 (Operand.tmp 37), type := 3, pos := "law.go:46", after := #[{ on := 12, ground := Ground.data }], guard := none }) (v := ?vv35) rfl (by kernel_rfl) (by kernel_rfl) (by kernel_rfl) (fun _ _ _ h => h) ?hy35 (by assumption) ?rest35
        case hy35 => (refine Or.inl ⟨by rfl, ?_⟩; intro W hSw; (try dsimp only at hSw); go_simp; (try with_reducible rfl))
        try simp only [Act.put, List.setIfInBounds_toArray, List.set_cons_zero, List.set_cons_succ]
        refine wpAnyH_take (i := 14) (oi := { dst := some 7, op := Op.assign (Operand.tmp 38), type := 3, pos := "law.go:46", after := #[{ on := 13, ground := Ground.data }, { on := 0, ground := Ground.phase }, { on := 1, ground := Ground.phase }, { on := 2, ground := Ground.phase }, { on := 3, ground := Ground.phase }, { on := 4, ground := Ground.phase }, { on := 5, ground := Ground.phase }, { on := 6, ground := Ground.phase }, { on := 7, ground := Ground.phase }, { on := 8, ground := Ground.phase }, { on := 9, ground := Ground.phase }, { on := 10, ground := Ground.phase }, { on := 11, ground := Ground.phase }, { on := 12, ground := Ground.phase }, { on := 13, ground := Ground.phase }], guard := none }) (v := ?vv36) rfl (by kernel_rfl) (by kernel_rfl) (by kernel_rfl) (fun _ _ _ h => h) ?hy36 (by assumption) ?rest36
        case hy36 => (refine Or.inl ⟨by rfl, ?_⟩; intro W hSw; (try dsimp only at hSw); go_simp; (try with_reducible rfl))
        try simp only [Act.put, List.setIfInBounds_toArray, List.set_cons_zero, List.set_cons_succ]
        refine wpAnyH_done (by kernel_rfl) ?_ _
        clear hHeld HS8 HALL2
        go_wp2_with fail
        have hss : (s == s) = true := beq_self_eq_true _
        have huu : (u == u) = true := beq_self_eq_true _
        have HS := Lib.hid (HALL.out _ (below_drew (below_drew (Below.refl _ w5))))
        refine wp_region_held_drew (S := fun W => W.cell? ⟨w.heap.size + 1, 0, none⟩ = some (.slice (some aR) P.length rcap) ∧ W.cell? ⟨wr.heap.size, 0, none⟩ = some (.int .i64 s) ∧ W.cell? ⟨wr.heap.size, 1, none⟩ = some (.int .i64 u) ∧ W.cell? ⟨wr.heap.size, 2, none⟩ = some (.slice kA kn kc)) (by kernel_rfl) ⟨HS.out.1, HS.out.2.1, HS.out.2.2.1, HS.out.2.2.2.1⟩ (fun hHeld => ?_)
        refine wpAnyH_take (i := 0) (oi := { dst := some 39, op := Op.fieldAddr 52 (Operand.tmp 6) 0, type := 0, pos := "law.go:48", after := #[], guard := none }) (v := ?vv37) rfl (by kernel_rfl) (by kernel_rfl) (by kernel_rfl) (fun _ _ _ h => h) ?hy37 (by assumption) ?rest37
        case hy37 => (refine Or.inl ⟨by rfl, ?_⟩; intro W hSw; (try dsimp only at hSw); go_simp; (try with_reducible rfl))
        try simp only [Act.put, List.setIfInBounds_toArray, List.set_cons_zero, List.set_cons_succ]
        refine wpAnyH_take (i := 1) (oi := { dst := some 40, op := Op.load 3 (Operand.tmp 39), type := 3, pos := "law.go:48", after := #[{ on := 0, ground := Ground.data }], guard := none }) (v := ?vv38) rfl (by kernel_rfl) (by kernel_rfl) (by kernel_rfl) (fun _ _ _ h => h) ?hy38 (by assumption) ?rest38
        case hy38 => (refine Or.inl ⟨by rfl, ?_⟩; intro W hSw; (try dsimp only at hSw); go_simp; (try with_reducible rfl))
        try simp only [Act.put, List.setIfInBounds_toArray, List.set_cons_zero, List.set_cons_succ]
        refine wpAnyH_take (i := 2) (oi := { dst := some 41, op := Op.move (Operand.tmp 7), type := 3, pos := "law.go:48", after := #[], guard := none }) (v := ?vv39) rfl (by kernel_rfl) (by kernel_rfl) (by kernel_rfl) (fun _ _ _ h => h) ?hy39 (by assumption) ?rest39
        case hy39 => (refine Or.inl ⟨by rfl, ?_⟩; intro W hSw; (try dsimp only at hSw); go_simp; (try with_reducible rfl))
        try simp only [Act.put, List.setIfInBounds_toArray, List.set_cons_zero, List.set_cons_succ]
        refine wpAnyH_take (i := 3) (oi := { dst := some 42, op := Op.binOp BinOp.neq 3 (Operand.tmp 40) (Operand.tmp 41) 3, type := 4, pos := "law.go:48", after := #[{ on := 1, ground := Ground.data }, { on := 2, ground := Ground.data }], guard := none }) (v := (.bool false)) rfl (by kernel_rfl) (by kernel_rfl) (by kernel_rfl) (fun _ _ _ h => h) ?hy40 (by assumption) ?rest40
        case hy40 => ((refine Or.inl ⟨by rfl, ?_⟩; intro W hSw; (try dsimp only at hSw); go_simp; (first | done | with_reducible rfl | simp)))
        try simp only [Act.put, List.setIfInBounds_toArray, List.set_cons_zero, List.set_cons_succ]
        refine wpAnyH_take (i := 4) (oi := { dst := some 43, op := Op.move (Operand.tmp 42), type := 4, pos := "law.go:48", after := #[{ on := 3, ground := Ground.data }], guard := none }) (v := ?vv41) rfl (by kernel_rfl) (by kernel_rfl) (by kernel_rfl) (fun _ _ _ h => h) ?hy41 (by assumption) ?rest41
        case hy41 => (refine Or.inl ⟨by rfl, ?_⟩; intro W hSw; (try dsimp only at hSw); go_simp; (try with_reducible rfl))
        try simp only [Act.put, List.setIfInBounds_toArray, List.set_cons_zero, List.set_cons_succ]
        refine wpAnyH_take (i := 5) (oi := { dst := some 44, op := Op.fieldAddr 52 (Operand.tmp 6) 1, type := 0, pos := "law.go:48", after := #[{ on := 4, ground := Ground.guard }], guard := some (4, false) }) (v := ?vv42) rfl (by kernel_rfl) (by kernel_rfl) (by kernel_rfl) (fun _ _ _ h => h) ?hy42 (by assumption) ?rest42
        case hy42 => (refine Or.inl ⟨by rfl, ?_⟩; intro W hSw; (try dsimp only at hSw); go_simp; (try with_reducible rfl))
        try simp only [Act.put, List.setIfInBounds_toArray, List.set_cons_zero, List.set_cons_succ]
        refine wpAnyH_take (i := 6) (oi := { dst := some 45, op := Op.load 3 (Operand.tmp 44), type := 3, pos := "law.go:48", after := #[{ on := 5, ground := Ground.data }, { on := 4, ground := Ground.guard }], guard := some (4, false) }) (v := ?vv43) rfl (by kernel_rfl) (by kernel_rfl) (by kernel_rfl) (fun _ _ _ h => h) ?hy43 (by assumption) ?rest43
        case hy43 => (refine Or.inl ⟨by rfl, ?_⟩; intro W hSw; (try dsimp only at hSw); go_simp; (try with_reducible rfl))
        try simp only [Act.put, List.setIfInBounds_toArray, List.set_cons_zero, List.set_cons_succ]
        refine wpAnyH_take (i := 7) (oi := { dst := some 46, op := Op.load 32 (Operand.tmp 3), type := 32, pos := "law.go:48", after := #[{ on := 4, ground := Ground.guard }], guard := some (4, false) }) (v := ?vv44) rfl (by kernel_rfl) (by kernel_rfl) (by kernel_rfl) (fun _ _ _ h => h) ?hy44 (by assumption) ?rest44
        case hy44 => (refine Or.inl ⟨by rfl, ?_⟩; intro W hSw; (try dsimp only at hSw); go_simp; (try with_reducible rfl))
        try simp only [Act.put, List.setIfInBounds_toArray, List.set_cons_zero, List.set_cons_succ]
        refine wpAnyH_take (i := 8) (oi := { dst := some 47, op := Op.move (Operand.tmp 5), type := 3, pos := "law.go:48", after := #[{ on := 4, ground := Ground.guard }], guard := some (4, false) }) (v := ?vv45) rfl (by kernel_rfl) (by kernel_rfl) (by kernel_rfl) (fun _ _ _ h => h) ?hy45 (by assumption) ?rest45
        case hy45 => (refine Or.inl ⟨by rfl, ?_⟩; intro W hSw; (try dsimp only at hSw); go_simp; (try with_reducible rfl))
        try simp only [Act.put, List.setIfInBounds_toArray, List.set_cons_zero, List.set_cons_succ]
        refine wpAnyH_ready (rs := [9]) (by kernel_rfl) (by simp) ?_
        refine AllReadyH.cons (o := { dst := some 48, op := Op.call { callee := Callee.value (Operand.func 31), args := #[Operand.tmp 46, Operand.tmp 47], argTypes := #[32, 3] }, type := 3, pos := "law.go:48", after := #[{ on := 7, ground := Ground.data }, { on := 8, ground := Ground.data }, { on := 4, ground := Ground.chain }, { on := 4, ground := Ground.guard }], guard := some (4, false) }) rfl (fun K hK => ?step46) ?more46
        case more46 => exact AllReadyH.nil
        ((go_simp; go_at_call 31; refine (HUP.out _ (below_drew (below_drew (Below.refl _ w5)))).mono ?_; rintro e w6 ⟨rfl, hb6⟩; go_wp2_with fail))
        refine hK.out _ _ ?hS46 (fun hHeld => ?rr46)
        case hS46 => (exact ⟨(HALL.out _ (below_of_drew (below_of_drew hb6))).1, (HALL.out _ (below_of_drew (below_of_drew hb6))).2.1, (HALL.out _ (below_of_drew (below_of_drew hb6))).2.2.1, (HALL.out _ (below_of_drew (below_of_drew hb6))).2.2.2.1⟩)
        clear hK K
        try simp only [Act.put, List.setIfInBounds_toArray, List.set_cons_zero, List.set_cons_succ]
        have hc6 : Below w5.heap.size w5 w6 := below_of_drew (below_of_drew hb6)
        have HC6 := Lib.hid hc6
        refine wpAnyH_take (i := 10) (oi := { dst := some 49, op := Op.binOp BinOp.neq 3 (Operand.tmp 45) (Operand.tmp 48) 3, type := 4, pos := "law.go:48", after := #[{ on := 6, ground := Ground.data }, { on := 9, ground := Ground.data }, { on := 4, ground := Ground.guard }], guard := some (4, false) }) (v := (.bool false)) rfl (by kernel_rfl) (by kernel_rfl) (by kernel_rfl) (fun _ _ _ h => h) ?hy47 (by assumption) ?rest47
        case hy47 => ((refine Or.inl ⟨by rfl, ?_⟩; intro W hSw; (try dsimp only at hSw); go_simp; (first | done | with_reducible rfl | simp)))
        try simp only [Act.put, List.setIfInBounds_toArray, List.set_cons_zero, List.set_cons_succ]
        refine wpAnyH_take (i := 11) (oi := { dst := some 50, op := Op.pick (Operand.tmp 43) (Operand.const (Value.bool true)) (Operand.tmp 49), type := 4, pos := "law.go:48", after := #[{ on := 4, ground := Ground.data }, { on := 10, ground := Ground.data }], guard := none }) (v := (.bool false)) rfl (by kernel_rfl) (by kernel_rfl) (by kernel_rfl) (fun _ _ _ h => h) ?hy48 (by assumption) ?rest48
        case hy48 => ((refine Or.inl ⟨by rfl, ?_⟩; intro W hSw; (try dsimp only at hSw); go_simp; (first | done | with_reducible rfl | simp)))
        try simp only [Act.put, List.setIfInBounds_toArray, List.set_cons_zero, List.set_cons_succ]
        refine wpAnyH_take (i := 12) (oi := { dst := some 51, op := Op.move (Operand.tmp 50), type := 4, pos := "law.go:48", after := #[{ on := 11, ground := Ground.data }, { on := 9, ground := Ground.chain }], guard := none }) (v := ?vv49) rfl (by kernel_rfl) (by kernel_rfl) (by kernel_rfl) (fun _ _ _ h => h) ?hy49 (by assumption) ?rest49
        case hy49 => (refine Or.inl ⟨by rfl, ?_⟩; intro W hSw; (try dsimp only at hSw); go_simp; (try with_reducible rfl))
        try simp only [Act.put, List.setIfInBounds_toArray, List.set_cons_zero, List.set_cons_succ]
        refine wpAnyH_take (i := 13) (oi := { dst := some 52, op := Op.fieldAddr 52 (Operand.tmp 6) 2, type := 0, pos := "law.go:48", after := #[{ on := 12, ground := Ground.guard }], guard := some (12, false) }) (v := ?vv50) rfl (by kernel_rfl) (by kernel_rfl) (by kernel_rfl) (fun _ _ _ h => h) ?hy50 (by assumption) ?rest50
        case hy50 => (refine Or.inl ⟨by rfl, ?_⟩; intro W hSw; (try dsimp only at hSw); go_simp; (try with_reducible rfl))
        try simp only [Act.put, List.setIfInBounds_toArray, List.set_cons_zero, List.set_cons_succ]
        refine wpAnyH_take (i := 14) (oi := { dst := some 53, op := Op.load 24 (Operand.tmp 52), type := 24, pos := "law.go:48", after := #[{ on := 13, ground := Ground.data }, { on := 12, ground := Ground.guard }], guard := some (12, false) }) (v := ?vv51) rfl (by kernel_rfl) (by kernel_rfl) (by kernel_rfl) (fun _ _ _ h => h) ?hy51 (by assumption) ?rest51
        case hy51 => (refine Or.inl ⟨by rfl, ?_⟩; intro W hSw; (try dsimp only at hSw); go_simp; (try with_reducible rfl))
        try simp only [Act.put, List.setIfInBounds_toArray, List.set_cons_zero, List.set_cons_succ]
        refine wpAnyH_take (i := 15) (oi := { dst := some 54, op := Op.load 32 (Operand.tmp 3), type := 32, pos := "law.go:48", after := #[{ on := 12, ground := Ground.guard }], guard := some (12, false) }) (v := ?vv52) rfl (by kernel_rfl) (by kernel_rfl) (by kernel_rfl) (fun _ _ _ h => h) ?hy52 (by assumption) ?rest52
        case hy52 => (refine Or.inl ⟨by rfl, ?_⟩; intro W hSw; (try dsimp only at hSw); go_simp; (try with_reducible rfl))
        try simp only [Act.put, List.setIfInBounds_toArray, List.set_cons_zero, List.set_cons_succ]
        refine wpAnyH_take (i := 16) (oi := { dst := some 55, op := Op.move (Operand.tmp 5), type := 3, pos := "law.go:48", after := #[{ on := 12, ground := Ground.guard }], guard := some (12, false) }) (v := ?vv53) rfl (by kernel_rfl) (by kernel_rfl) (by kernel_rfl) (fun _ _ _ h => h) ?hy53 (by assumption) ?rest53
        case hy53 => (refine Or.inl ⟨by rfl, ?_⟩; intro W hSw; (try dsimp only at hSw); go_simp; (try with_reducible rfl))
        try simp only [Act.put, List.setIfInBounds_toArray, List.set_cons_zero, List.set_cons_succ]
        refine wpAnyH_ready (rs := [17]) (by kernel_rfl) (by simp) ?_
        refine AllReadyH.cons (o := { dst := some 56, op := Op.call { callee := Callee.value (Operand.func 19), args := #[Operand.tmp 54, Operand.tmp 55], argTypes := #[32, 3] }, type := 24, pos := "law.go:48", after := #[{ on := 15, ground := Ground.data }, { on := 16, ground := Ground.data }, { on := 12, ground := Ground.chain }, { on := 12, ground := Ground.guard }], guard := some (12, false) }) rfl (fun K hK => ?step54) ?more54
        case more54 => exact AllReadyH.nil
        ((go_simp; go_at_call 19; refine (HKD.out _ HC6.out).mono ?_; rintro e w7 ⟨v', rfl, hb7, hsm⟩; go_wp2_with fail))
        refine hK.out _ _ ?hS54 (fun hHeld => ?rr54)
        case hS54 => (exact ⟨(HALL.out _ (HC6.out.trans (hb7.mono HC6.out.size))).1, (HALL.out _ (HC6.out.trans (hb7.mono HC6.out.size))).2.1, (HALL.out _ (HC6.out.trans (hb7.mono HC6.out.size))).2.2.1, (HALL.out _ (HC6.out.trans (hb7.mono HC6.out.size))).2.2.2.1⟩)
        clear hK K
        try simp only [Act.put, List.setIfInBounds_toArray, List.set_cons_zero, List.set_cons_succ]
        have HC7 := Lib.hid (HC6.out.trans (hb7.mono HC6.out.size))
        have HSM := Lib.hid hsm
        refine wpAnyH_ready (rs := [18]) (by kernel_rfl) (by simp) ?_
        refine AllReadyH.cons (o := { dst := some 57, op := Op.call { callee := Callee.value (Operand.func 12), args := #[Operand.tmp 53, Operand.tmp 56], argTypes := #[24, 24] }, type := 4, pos := "law.go:48", after := #[{ on := 14, ground := Ground.data }, { on := 17, ground := Ground.data }, { on := 17, ground := Ground.chain }, { on := 12, ground := Ground.guard }], guard := some (12, false) }) rfl (fun K hK => ?step55) ?more55
        case more55 => exact AllReadyH.nil
        ((go_simp; go_at_call 12; refine (HSM.out _ (Below.refl _ w7)).mono ?_; rintro e w8 ⟨rfl, hb8⟩; go_wp2_with fail))
        refine hK.out _ _ ?hS55 (fun hHeld => ?rr55)
        case hS55 => (exact ⟨(HALL.out _ (HC7.out.trans (hb8.mono HC7.out.size))).1, (HALL.out _ (HC7.out.trans (hb8.mono HC7.out.size))).2.1, (HALL.out _ (HC7.out.trans (hb8.mono HC7.out.size))).2.2.1, (HALL.out _ (HC7.out.trans (hb8.mono HC7.out.size))).2.2.2.1⟩)
        clear hK K
        try simp only [Act.put, List.setIfInBounds_toArray, List.set_cons_zero, List.set_cons_succ]
        have HC8 := Lib.hid (HB5.out.trans ((HC7.out.trans (hb8.mono HC7.out.size)).mono HB5.out.size))
        refine wpAnyH_take (i := 19) (oi := { dst := some 58, op := Op.unOp UnOp.not 4 (Operand.tmp 57), type := 4, pos := "law.go:48", after := #[{ on := 18, ground := Ground.data }, { on := 12, ground := Ground.guard }], guard := some (12, false) }) (v := (.bool false)) rfl (by kernel_rfl) (by kernel_rfl) (by kernel_rfl) (fun _ _ _ h => h) ?hy56 (by assumption) ?rest56
        case hy56 => ((refine Or.inl ⟨by rfl, ?_⟩; intro W hSw; (try dsimp only at hSw); go_simp; (first | done | with_reducible rfl | simp)))
        try simp only [Act.put, List.setIfInBounds_toArray, List.set_cons_zero, List.set_cons_succ]
        refine wpAnyH_take (i := 20) (oi := { dst := some 59, op := Op.pick (Operand.tmp 51) (Operand.const (Value.bool true)) (Operand.tmp 58), type := 4, pos := "law.go:48", after := #[{ on := 12, ground := Ground.data }, { on := 19, ground := Ground.data }], guard := none }) (v := (.bool false)) rfl (by kernel_rfl) (by kernel_rfl) (by kernel_rfl) (fun _ _ _ h => h) ?hy57 (by assumption) ?rest57
        case hy57 => ((refine Or.inl ⟨by rfl, ?_⟩; intro W hSw; (try dsimp only at hSw); go_simp; (first | done | with_reducible rfl | simp)))
        try simp only [Act.put, List.setIfInBounds_toArray, List.set_cons_zero, List.set_cons_succ]
        refine wpAnyH_done (by kernel_rfl) ?_ _
        clear hHeld HS hb6 hc6 hb7 hsm hb8 HUP HKD HALL HSM HC6 HC7 hss huu c0 c1 c2 hbx
        go_wp2_with fail
        go_roundw
        case rel => exact ⟨i + 1, HLT.out, by go_num, HC8.out⟩
        case measure => have := HLT.out; simp [intOf]; omega
    · obtain rfl : i = P.length := by omega
      have hn : ¬ (P.length : Int) < (P.length : Int) := by omega
      clear hi hlt hbw
      go_wp2_with fail
      refine bodyPost_ret (v := .bool true) (by simp [results, Tryd.results9, go_sem]) rfl ⟨rfl, HB2.out.trans (HB.out.mono HB2.out.size)⟩
end Go.Proofs.YtpploljennbpdaaDoor
