/- The law's step. (written by genpgpe.py) -/
import Derived.Test.YtkkembbeejlomaaGreatDoorZPgpD
import Derived.Test.YtkkembbeejlomaaGreatDoorZPgbH
set_option linter.unusedSimpArgs false
set_option linter.unusedVariables false
set_option linter.unnecessarySimpa false
namespace Go.Proofs.YtkkembbeejlomaaGreatDoor
open Go.RowKit Go.Shelf Go.Sort Go.Lib

set_option maxRecDepth 100000 in
set_option maxHeartbeats 16000000 in
theorem step_any {w0 w : World} {F : Nat → Prop} {s r most : Nat} {P : List (List Row)} (h : Pair w0 w F s r most P P) (hok : RowsOk P) (kd n : Int) (hn : -9223372036854775808 ≤ n ∧ n ≤ 9223372036854775807) (x y : ByteArray) :
    Calls Tryz.prog 9 #[.pointer (some ⟨s, 0, none⟩), .pointer (some ⟨r, 0, none⟩), .agg #[.int .i64 kd, .string x, .string y, .int .i64 n]] w fun e w' => ∃ s' P', e = .returned (.tuple #[.pointer (some ⟨s', 0, none⟩), .bool true]) ∧ Pair w0 w' F s' r most P' P' ∧ RowsOk P' ∧ Keeps F w w' := by
  have HSM := Lib.hid (fun W => small_any (w := W) kd n x y)
  have hW1 := below_new (w := w) (.cells #[.int .i64 kd, .string x, .string y, .int .i64 n] 34)
  have hat := alloc_at w (.cells #[.int .i64 kd, .string x, .string y, .int .i64 n] 34)
  have HW1 := Lib.hid hW1
  have HAT := Lib.hid hat
  have H := Lib.hid h
  have HOK := Lib.hid hok
  have HN := Lib.hid hn
  clear h hok hn hW1 hat
  go_enter Tryz.func9, Tryz.ntmps9
  go_wp2_with fail
  refine (HSM.out _).mono ?_
  rintro e w4 ⟨rfl, hb4⟩
  have h4 := (hb4.block w.heap.size (by rw [asz]; omega)).trans HAT.out
  have HB4 := Lib.hid (HW1.out.trans (hb4.mono HW1.out.size))
  have q0 := cell_of h4 0
  have q1 := cell_of h4 1
  have q2 := cell_of h4 2
  have q3 := cell_of h4 3
  have f0 := free0 h4 0
  have f1 := free0 h4 1
  have f2 := free0 h4 2
  have f3 := free0 h4 3
  have hT : Touch (fun k => k = w.heap.size) w4 ((((w4.setCell ⟨w.heap.size, 0, none⟩ (.int .i64 kd)).setCell ⟨w.heap.size, 1, none⟩ (.string ⟨(cutB x).toArray⟩)).setCell ⟨w.heap.size, 2, none⟩ (.string ⟨(cutB y).toArray⟩)).setCell ⟨w.heap.size, 3, none⟩ (.int .i64 n)) := Touch.setCell (S := fun k => k = w.heap.size) (Touch.setCell (S := fun k => k = w.heap.size) (Touch.setCell (S := fun k => k = w.heap.size) (Touch.setCell (S := fun k => k = w.heap.size) (Touch.refl _ _) ⟨w.heap.size, 0, none⟩ (fun _ => rfl) _) ⟨w.heap.size, 1, none⟩ (fun _ => rfl) _) ⟨w.heap.size, 2, none⟩ (fun _ => rfl) _) ⟨w.heap.size, 3, none⟩ (fun _ => rfl) _
  have hh := set_at (set_at (set_at (set_at h4 0 (.int .i64 kd)) 1 (.string ⟨(cutB x).toArray⟩)) 2 (.string ⟨(cutB y).toArray⟩)) 3 (.int .i64 n)
  obtain ⟨W5, hW5⟩ : ∃ W5, W5 = ((((w4.setCell ⟨w.heap.size, 0, none⟩ (.int .i64 kd)).setCell ⟨w.heap.size, 1, none⟩ (.string ⟨(cutB x).toArray⟩)).setCell ⟨w.heap.size, 2, none⟩ (.string ⟨(cutB y).toArray⟩)).setCell ⟨w.heap.size, 3, none⟩ (.int .i64 n)) := ⟨_, rfl⟩
  have HB5 : Below w.heap.size w W5 := by
    rw [hW5]
    exact HB4.out.trans (hT.below (fun i e => Nat.le_of_eq e.symm) HB4.out.size)
  rw [← hW5] at hh
  have HP5 := Lib.hid (H.out.more HB5 (Nat.le_refl _) (heap_lt hh))
  have HKW : Hid (Keeps F w W5) := Lib.hid (Keeps.below HB5)
  have HCELL : Hid (∀ W, Keeps (fun k => F k ∨ k = w.heap.size) W5 W → W.cell? ⟨w.heap.size, 0, none⟩ = some (.int .i64 kd) ∧ W.cell? ⟨w.heap.size, 1, none⟩ = some (.string ⟨(cutB x).toArray⟩) ∧ W.cell? ⟨w.heap.size, 2, none⟩ = some (.string ⟨(cutB y).toArray⟩) ∧ W.cell? ⟨w.heap.size, 3, none⟩ = some (.int .i64 n)) := Lib.hid (fun W hW => by
    have h5 := hW.at_ (.inr rfl) hh
    exact ⟨cell_of h5 0, cell_of h5 1, cell_of h5 2, cell_of h5 3⟩)
  have hkl := cut_len x
  generalize hob : w.heap.size = ob5 at *
  clear hT hb4 HSM HB5 hh HB4 H HAT HW1
  go_upto_region 2 with fail
  rw [← hW5]
  clear hW5 h4 q0 q1 q2 q3 f0 f1 f2 f3 hob
  obtain ⟨r0, r1, r2, r3⟩ := HCELL.out W5 (Keeps.below (Below.refl _ _))
  obtain ⟨ka, hka⟩ : ∃ ka, cutB x = ka := ⟨_, rfl⟩
  obtain ⟨kb, hkb⟩ : ∃ kb, cutB y = kb := ⟨_, rfl⟩
  rw [hka] at HCELL r1 hkl
  rw [hkb] at HCELL r2
  clear hka hkb
  rcases (by omega : kd = 0 ∨ kd = 1 ∨ kd = 2 ∨ kd = 3 ∨ kd = 4 ∨ kd = 5 ∨ kd = 6 ∨ kd = 7 ∨ (¬ kd = 0 ∧ ¬ kd = 1 ∧ ¬ kd = 2 ∧ ¬ kd = 3 ∧ ¬ kd = 4 ∧ ¬ kd = 5 ∧ ¬ kd = 6 ∧ ¬ kd = 7)) with rfl | rfl | rfl | rfl | rfl | rfl | rfl | rfl | ⟨n0, n1, n2, n3, n4, n5, n6, n7⟩
  · have HP1 := (HP5.out.keep (below_drew (Below.refl _ _))).put (k := ka) (n := n) (by unfold maxLen; omega)
    obtain ⟨P1, c1, hp1⟩ : ∃ P1 c1, putP most P ⟨ka, n⟩ = (P1, c1) := ⟨_, _, rfl⟩
    have HOK1 : Hid (RowsOk P1) := Lib.hid (by
      have := rowsOk_put HP5.out.fineP HOK.out (k := ka) (n := n) HN.out
      rw [hp1] at this
      exact this)
    rw [hp1] at HP1
    have HRP : Hid (∀ W, Pair w0 W (fun k => F k ∨ k = ob5) s r most P1 P → Calls Tryz.prog 27 #[.pointer (some ⟨r, 0, none⟩), strV ka, .int .i64 n] W fun e w' => e = .returned (.int .i64 c1) ∧ Pair w0 w' (fun k => F k ∨ k = ob5) s r most P1 P1 ∧ Keeps (fun k => F k ∨ k = ob5) W w') := Lib.hid (fun W hW => by
      have := hW.rput (k := ka) (n := n) (by unfold maxLen; omega)
      rw [hp1] at this
      exact this)
    simp only [strV] at HP1 HRP
    have HP1 := Lib.hid HP1
    clear hp1
    go_wp2_with fail
    refine wp_only ?_
    refine wp_region_held_drew (S := fun W => W.cell? ⟨ob5, 1, none⟩ = some (.string ⟨ka.toArray⟩) ∧ W.cell? ⟨ob5, 3, none⟩ = some (.int .i64 n)) (by kernel_rfl) ⟨r1, r3⟩ (fun hHeld => ?_)
    refine wpAnyH_take (i := 0) (oi := { dst := some 25, op := Op.move (Operand.tmp 0), type := 23, pos := "law.go:72", after := #[], guard := none }) (v := ?vv1) rfl (by kernel_rfl) (by kernel_rfl) (by kernel_rfl) (fun _ _ _ h => h) ?hy1 (by assumption) ?rest1
    case hy1 => (refine Or.inl ⟨by rfl, ?_⟩; intro W hSw; (try dsimp only at hSw); go_simp; (try with_reducible rfl))
    try simp only [Act.put, List.setIfInBounds_toArray, List.set_cons_zero, List.set_cons_succ]
    refine wpAnyH_take (i := 1) (oi := { dst := some 26, op := Op.move (Operand.tmp 0), type := 23, pos := "law.go:72", after := #[], guard := none }) (v := ?vv2) rfl (by kernel_rfl) (by kernel_rfl) (by kernel_rfl) (fun _ _ _ h => h) ?hy2 (by assumption) ?rest2
    case hy2 => (refine Or.inl ⟨by rfl, ?_⟩; intro W hSw; (try dsimp only at hSw); go_simp; (try with_reducible rfl))
    try simp only [Act.put, List.setIfInBounds_toArray, List.set_cons_zero, List.set_cons_succ]
    refine wpAnyH_take (i := 2) (oi := { dst := some 27, op := Op.fieldAddr 34 (Operand.tmp 5) 1, type := 0, pos := "law.go:72", after := #[], guard := none }) (v := ?vv3) rfl (by kernel_rfl) (by kernel_rfl) (by kernel_rfl) (fun _ _ _ h => h) ?hy3 (by assumption) ?rest3
    case hy3 => (refine Or.inl ⟨by rfl, ?_⟩; intro W hSw; (try dsimp only at hSw); go_simp; (try with_reducible rfl))
    try simp only [Act.put, List.setIfInBounds_toArray, List.set_cons_zero, List.set_cons_succ]
    refine wpAnyH_take (i := 3) (oi := { dst := some 28, op := Op.load 9 (Operand.tmp 27), type := 9, pos := "law.go:72", after := #[{ on := 2, ground := Ground.data }], guard := none }) (v := ?vv4) rfl (by kernel_rfl) (by kernel_rfl) (by kernel_rfl) (fun _ _ _ h => h) ?hy4 (by assumption) ?rest4
    case hy4 => (refine Or.inl ⟨by rfl, ?_⟩; intro W hSw; (try dsimp only at hSw); go_simp; (try with_reducible rfl))
    try simp only [Act.put, List.setIfInBounds_toArray, List.set_cons_zero, List.set_cons_succ]
    refine wpAnyH_take (i := 4) (oi := { dst := some 29, op := Op.fieldAddr 34 (Operand.tmp 5) 3, type := 0, pos := "law.go:72", after := #[], guard := none }) (v := ?vv5) rfl (by kernel_rfl) (by kernel_rfl) (by kernel_rfl) (fun _ _ _ h => h) ?hy5 (by assumption) ?rest5
    case hy5 => (refine Or.inl ⟨by rfl, ?_⟩; intro W hSw; (try dsimp only at hSw); go_simp; (try with_reducible rfl))
    try simp only [Act.put, List.setIfInBounds_toArray, List.set_cons_zero, List.set_cons_succ]
    refine wpAnyH_take (i := 5) (oi := { dst := some 30, op := Op.load 2 (Operand.tmp 29), type := 2, pos := "law.go:72", after := #[{ on := 4, ground := Ground.data }], guard := none }) (v := ?vv6) rfl (by kernel_rfl) (by kernel_rfl) (by kernel_rfl) (fun _ _ _ h => h) ?hy6 (by assumption) ?rest6
    case hy6 => (refine Or.inl ⟨by rfl, ?_⟩; intro W hSw; (try dsimp only at hSw); go_simp; (try with_reducible rfl))
    try simp only [Act.put, List.setIfInBounds_toArray, List.set_cons_zero, List.set_cons_succ]
    refine wpAnyH_take (i := 7) (oi := { dst := some 32, op := Op.move (Operand.tmp 1), type := 28, pos := "law.go:72", after := #[], guard := none }) (v := ?vv7) rfl (by kernel_rfl) (by kernel_rfl) (by kernel_rfl) (fun _ _ _ h => h) ?hy7 (by assumption) ?rest7
    case hy7 => (refine Or.inl ⟨by rfl, ?_⟩; intro W hSw; (try dsimp only at hSw); go_simp; (try with_reducible rfl))
    try simp only [Act.put, List.setIfInBounds_toArray, List.set_cons_zero, List.set_cons_succ]
    refine wpAnyH_take (i := 8) (oi := { dst := some 33, op := Op.fieldAddr 34 (Operand.tmp 5) 1, type := 0, pos := "law.go:72", after := #[], guard := none }) (v := ?vv8) rfl (by kernel_rfl) (by kernel_rfl) (by kernel_rfl) (fun _ _ _ h => h) ?hy8 (by assumption) ?rest8
    case hy8 => (refine Or.inl ⟨by rfl, ?_⟩; intro W hSw; (try dsimp only at hSw); go_simp; (try with_reducible rfl))
    try simp only [Act.put, List.setIfInBounds_toArray, List.set_cons_zero, List.set_cons_succ]
    refine wpAnyH_take (i := 9) (oi := { dst := some 34, op := Op.load 9 (Operand.tmp 33), type := 9, pos := "law.go:72", after := #[{ on := 8, ground := Ground.data }], guard := none }) (v := ?vv9) rfl (by kernel_rfl) (by kernel_rfl) (by kernel_rfl) (fun _ _ _ h => h) ?hy9 (by assumption) ?rest9
    case hy9 => (refine Or.inl ⟨by rfl, ?_⟩; intro W hSw; (try dsimp only at hSw); go_simp; (try with_reducible rfl))
    try simp only [Act.put, List.setIfInBounds_toArray, List.set_cons_zero, List.set_cons_succ]
    refine wpAnyH_take (i := 10) (oi := { dst := some 35, op := Op.fieldAddr 34 (Operand.tmp 5) 3, type := 0, pos := "law.go:72", after := #[], guard := none }) (v := ?vv10) rfl (by kernel_rfl) (by kernel_rfl) (by kernel_rfl) (fun _ _ _ h => h) ?hy10 (by assumption) ?rest10
    case hy10 => (refine Or.inl ⟨by rfl, ?_⟩; intro W hSw; (try dsimp only at hSw); go_simp; (try with_reducible rfl))
    try simp only [Act.put, List.setIfInBounds_toArray, List.set_cons_zero, List.set_cons_succ]
    refine wpAnyH_take (i := 11) (oi := { dst := some 36, op := Op.load 2 (Operand.tmp 35), type := 2, pos := "law.go:72", after := #[{ on := 10, ground := Ground.data }], guard := none }) (v := ?vv11) rfl (by kernel_rfl) (by kernel_rfl) (by kernel_rfl) (fun _ _ _ h => h) ?hy11 (by assumption) ?rest11
    case hy11 => (refine Or.inl ⟨by rfl, ?_⟩; intro W hSw; (try dsimp only at hSw); go_simp; (try with_reducible rfl))
    try simp only [Act.put, List.setIfInBounds_toArray, List.set_cons_zero, List.set_cons_succ]
    refine wpAnyH_ready (rs := [6]) (by kernel_rfl) (by simp) ?_
    refine AllReadyH.cons (o := { dst := some 31, op := Op.call { callee := Callee.value (Operand.func 16), args := #[Operand.tmp 26, Operand.tmp 28, Operand.tmp 30], argTypes := #[23, 9, 2] }, type := 24, pos := "law.go:72", after := #[{ on := 1, ground := Ground.data }, { on := 3, ground := Ground.data }, { on := 5, ground := Ground.data }], guard := none }) rfl (fun K hK => ?step12) ?more12
    case more12 => exact AllReadyH.nil
    ((go_simp; go_at_call 16; refine (HP1.out).mono ?_; rintro e w6 ⟨rfl, hp6, hk6⟩; have HP6 := Lib.hid hp6; have HK6 := Lib.hid ((Keeps.below (below_drew (Below.refl _ _))).trans hk6); clear hp6 hk6; go_wp2_with fail))
    refine hK.out _ _ ?hS12 (fun hHeld => ?rr12)
    case hS12 => (exact ⟨(HCELL.out _ HK6.out).2.1, (HCELL.out _ HK6.out).2.2.2⟩)
    clear hK K
    try simp only [Act.put, List.setIfInBounds_toArray, List.set_cons_zero, List.set_cons_succ]
    refine wpAnyH_ready (rs := [12]) (by kernel_rfl) (by simp) ?_
    refine AllReadyH.cons (o := { dst := some 37, op := Op.call { callee := Callee.value (Operand.func 27), args := #[Operand.tmp 32, Operand.tmp 34, Operand.tmp 36], argTypes := #[28, 9, 2] }, type := 24, pos := "law.go:72", after := #[{ on := 7, ground := Ground.data }, { on := 9, ground := Ground.data }, { on := 11, ground := Ground.data }, { on := 6, ground := Ground.chain }], guard := none }) rfl (fun K hK => ?step13) ?more13
    case more13 => exact AllReadyH.nil
    ((go_simp; go_at_call 27; refine (HRP.out _ HP6.out).mono ?_; rintro e w7 ⟨rfl, hp7, hk7⟩; have HP7 := Lib.hid hp7; have HK7 := Lib.hid (HK6.out.trans hk7); clear hp7 hk7; go_wp2_with fail))
    refine hK.out _ _ ?hS13 (fun hHeld => ?rr13)
    case hS13 => (exact ⟨(HCELL.out _ HK7.out).2.1, (HCELL.out _ HK7.out).2.2.2⟩)
    clear hK K
    try simp only [Act.put, List.setIfInBounds_toArray, List.set_cons_zero, List.set_cons_succ]
    refine wpAnyH_take (i := 13) (oi := { dst := some 38, op := Op.binOp BinOp.eql 24 (Operand.tmp 31) (Operand.tmp 37) 24, type := 4, pos := "law.go:72", after := #[{ on := 6, ground := Ground.data }, { on := 12, ground := Ground.data }, { on := 14, ground := Ground.gcOnly Departure.lateStores }], guard := none }) (v := (.bool true)) rfl (by kernel_rfl) (by kernel_rfl) (by kernel_rfl) (fun _ _ _ h => h) ?hy14 (by assumption) ?rest14
    case hy14 => ((refine Or.inl ⟨by rfl, ?_⟩; intro W hSw; (try dsimp only at hSw); go_simp; (try simp)))
    try simp only [Act.put, List.setIfInBounds_toArray, List.set_cons_zero, List.set_cons_succ]
    refine wpAnyH_take (i := 14) (oi := { dst := some 6, op := Op.assign (Operand.tmp 25), type := 23, pos := "law.go:72", after := #[{ on := 0, ground := Ground.data }, { on := 12, ground := Ground.chain }, { on := 0, ground := Ground.phase }, { on := 1, ground := Ground.textOnly Departure.lateStores }, { on := 2, ground := Ground.textOnly Departure.lateStores }, { on := 3, ground := Ground.textOnly Departure.lateStores }, { on := 4, ground := Ground.textOnly Departure.lateStores }, { on := 5, ground := Ground.textOnly Departure.lateStores }, { on := 6, ground := Ground.textOnly Departure.lateStoresUnsure }, { on := 7, ground := Ground.textOnly Departure.lateStores }, { on := 8, ground := Ground.textOnly Departure.lateStores }, { on := 9, ground := Ground.textOnly Departure.lateStores }, { on := 10, ground := Ground.textOnly Departure.lateStores }, { on := 11, ground := Ground.textOnly Departure.lateStores }, { on := 12, ground := Ground.textOnly Departure.lateStoresUnsure }, { on := 13, ground := Ground.textOnly Departure.lateStores }], guard := none }) (v := ?vv15) rfl (by kernel_rfl) (by kernel_rfl) (by kernel_rfl) (fun _ _ _ h => h) ?hy15 (by assumption) ?rest15
    case hy15 => (refine Or.inl ⟨by rfl, ?_⟩; intro W hSw; (try dsimp only at hSw); go_simp; (try with_reducible rfl))
    try simp only [Act.put, List.setIfInBounds_toArray, List.set_cons_zero, List.set_cons_succ]
    refine wpAnyH_take (i := 15) (oi := { dst := some 7, op := Op.assign (Operand.tmp 38), type := 4, pos := "law.go:72", after := #[{ on := 13, ground := Ground.data }, { on := 14, ground := Ground.chain }, { on := 0, ground := Ground.phase }, { on := 1, ground := Ground.phase }, { on := 2, ground := Ground.phase }, { on := 3, ground := Ground.phase }, { on := 4, ground := Ground.phase }, { on := 5, ground := Ground.phase }, { on := 6, ground := Ground.phase }, { on := 7, ground := Ground.phase }, { on := 8, ground := Ground.phase }, { on := 9, ground := Ground.phase }, { on := 10, ground := Ground.phase }, { on := 11, ground := Ground.phase }, { on := 12, ground := Ground.phase }, { on := 13, ground := Ground.phase }, { on := 14, ground := Ground.phase }], guard := none }) (v := ?vv16) rfl (by kernel_rfl) (by kernel_rfl) (by kernel_rfl) (fun _ _ _ h => h) ?hy16 (by assumption) ?rest16
    case hy16 => (refine Or.inl ⟨by rfl, ?_⟩; intro W hSw; (try dsimp only at hSw); go_simp; (try with_reducible rfl))
    try simp only [Act.put, List.setIfInBounds_toArray, List.set_cons_zero, List.set_cons_succ]
    refine wpAnyH_done (by kernel_rfl) ?_ _
    dsimp only [onlyN]
    clear hHeld
    go_wp2_with fail
    refine bodyPost_ret (v := .tuple #[.pointer (some ⟨s, 0, none⟩), .bool true]) (by simp [results, Tryz.results9, go_sem]) rfl ?_
    exact ⟨s, P1, rfl, HP7.out.less (fun k e => .inl e), HOK1.out, HKW.out.trans (HK7.out.less (fun k e => .inl e))⟩
  · have HP1 := (HP5.out.keep (below_drew (Below.refl _ _))).put (k := ka) (n := n) (by unfold maxLen; omega)
    obtain ⟨P1, c1, hp1⟩ : ∃ P1 c1, putP most P ⟨ka, n⟩ = (P1, c1) := ⟨_, _, rfl⟩
    have HOK1 : Hid (RowsOk P1) := Lib.hid (by
      have := rowsOk_put HP5.out.fineP HOK.out (k := ka) (n := n) HN.out
      rw [hp1] at this
      exact this)
    rw [hp1] at HP1
    have HRP : Hid (∀ W, Pair w0 W (fun k => F k ∨ k = ob5) s r most P1 P → Calls Tryz.prog 27 #[.pointer (some ⟨r, 0, none⟩), strV ka, .int .i64 n] W fun e w' => e = .returned (.int .i64 c1) ∧ Pair w0 w' (fun k => F k ∨ k = ob5) s r most P1 P1 ∧ Keeps (fun k => F k ∨ k = ob5) W w') := Lib.hid (fun W hW => by
      have := hW.rput (k := ka) (n := n) (by unfold maxLen; omega)
      rw [hp1] at this
      exact this)
    simp only [strV] at HP1 HRP
    have HP1 := Lib.hid HP1
    clear hp1
    go_wp2_with fail
    refine wp_only ?_
    refine wp_region_held_drew (S := fun W => W.cell? ⟨ob5, 1, none⟩ = some (.string ⟨ka.toArray⟩) ∧ W.cell? ⟨ob5, 3, none⟩ = some (.int .i64 n)) (by kernel_rfl) ⟨r1, r3⟩ (fun hHeld => ?_)
    refine wpAnyH_take (i := 0) (oi := { dst := some 25, op := Op.move (Operand.tmp 0), type := 23, pos := "law.go:72", after := #[], guard := none }) (v := ?vv17) rfl (by kernel_rfl) (by kernel_rfl) (by kernel_rfl) (fun _ _ _ h => h) ?hy17 (by assumption) ?rest17
    case hy17 => (refine Or.inl ⟨by rfl, ?_⟩; intro W hSw; (try dsimp only at hSw); go_simp; (try with_reducible rfl))
    try simp only [Act.put, List.setIfInBounds_toArray, List.set_cons_zero, List.set_cons_succ]
    refine wpAnyH_take (i := 1) (oi := { dst := some 26, op := Op.move (Operand.tmp 0), type := 23, pos := "law.go:72", after := #[], guard := none }) (v := ?vv18) rfl (by kernel_rfl) (by kernel_rfl) (by kernel_rfl) (fun _ _ _ h => h) ?hy18 (by assumption) ?rest18
    case hy18 => (refine Or.inl ⟨by rfl, ?_⟩; intro W hSw; (try dsimp only at hSw); go_simp; (try with_reducible rfl))
    try simp only [Act.put, List.setIfInBounds_toArray, List.set_cons_zero, List.set_cons_succ]
    refine wpAnyH_take (i := 2) (oi := { dst := some 27, op := Op.fieldAddr 34 (Operand.tmp 5) 1, type := 0, pos := "law.go:72", after := #[], guard := none }) (v := ?vv19) rfl (by kernel_rfl) (by kernel_rfl) (by kernel_rfl) (fun _ _ _ h => h) ?hy19 (by assumption) ?rest19
    case hy19 => (refine Or.inl ⟨by rfl, ?_⟩; intro W hSw; (try dsimp only at hSw); go_simp; (try with_reducible rfl))
    try simp only [Act.put, List.setIfInBounds_toArray, List.set_cons_zero, List.set_cons_succ]
    refine wpAnyH_take (i := 3) (oi := { dst := some 28, op := Op.load 9 (Operand.tmp 27), type := 9, pos := "law.go:72", after := #[{ on := 2, ground := Ground.data }], guard := none }) (v := ?vv20) rfl (by kernel_rfl) (by kernel_rfl) (by kernel_rfl) (fun _ _ _ h => h) ?hy20 (by assumption) ?rest20
    case hy20 => (refine Or.inl ⟨by rfl, ?_⟩; intro W hSw; (try dsimp only at hSw); go_simp; (try with_reducible rfl))
    try simp only [Act.put, List.setIfInBounds_toArray, List.set_cons_zero, List.set_cons_succ]
    refine wpAnyH_take (i := 4) (oi := { dst := some 29, op := Op.fieldAddr 34 (Operand.tmp 5) 3, type := 0, pos := "law.go:72", after := #[], guard := none }) (v := ?vv21) rfl (by kernel_rfl) (by kernel_rfl) (by kernel_rfl) (fun _ _ _ h => h) ?hy21 (by assumption) ?rest21
    case hy21 => (refine Or.inl ⟨by rfl, ?_⟩; intro W hSw; (try dsimp only at hSw); go_simp; (try with_reducible rfl))
    try simp only [Act.put, List.setIfInBounds_toArray, List.set_cons_zero, List.set_cons_succ]
    refine wpAnyH_take (i := 5) (oi := { dst := some 30, op := Op.load 2 (Operand.tmp 29), type := 2, pos := "law.go:72", after := #[{ on := 4, ground := Ground.data }], guard := none }) (v := ?vv22) rfl (by kernel_rfl) (by kernel_rfl) (by kernel_rfl) (fun _ _ _ h => h) ?hy22 (by assumption) ?rest22
    case hy22 => (refine Or.inl ⟨by rfl, ?_⟩; intro W hSw; (try dsimp only at hSw); go_simp; (try with_reducible rfl))
    try simp only [Act.put, List.setIfInBounds_toArray, List.set_cons_zero, List.set_cons_succ]
    refine wpAnyH_take (i := 7) (oi := { dst := some 32, op := Op.move (Operand.tmp 1), type := 28, pos := "law.go:72", after := #[], guard := none }) (v := ?vv23) rfl (by kernel_rfl) (by kernel_rfl) (by kernel_rfl) (fun _ _ _ h => h) ?hy23 (by assumption) ?rest23
    case hy23 => (refine Or.inl ⟨by rfl, ?_⟩; intro W hSw; (try dsimp only at hSw); go_simp; (try with_reducible rfl))
    try simp only [Act.put, List.setIfInBounds_toArray, List.set_cons_zero, List.set_cons_succ]
    refine wpAnyH_take (i := 8) (oi := { dst := some 33, op := Op.fieldAddr 34 (Operand.tmp 5) 1, type := 0, pos := "law.go:72", after := #[], guard := none }) (v := ?vv24) rfl (by kernel_rfl) (by kernel_rfl) (by kernel_rfl) (fun _ _ _ h => h) ?hy24 (by assumption) ?rest24
    case hy24 => (refine Or.inl ⟨by rfl, ?_⟩; intro W hSw; (try dsimp only at hSw); go_simp; (try with_reducible rfl))
    try simp only [Act.put, List.setIfInBounds_toArray, List.set_cons_zero, List.set_cons_succ]
    refine wpAnyH_take (i := 9) (oi := { dst := some 34, op := Op.load 9 (Operand.tmp 33), type := 9, pos := "law.go:72", after := #[{ on := 8, ground := Ground.data }], guard := none }) (v := ?vv25) rfl (by kernel_rfl) (by kernel_rfl) (by kernel_rfl) (fun _ _ _ h => h) ?hy25 (by assumption) ?rest25
    case hy25 => (refine Or.inl ⟨by rfl, ?_⟩; intro W hSw; (try dsimp only at hSw); go_simp; (try with_reducible rfl))
    try simp only [Act.put, List.setIfInBounds_toArray, List.set_cons_zero, List.set_cons_succ]
    refine wpAnyH_take (i := 10) (oi := { dst := some 35, op := Op.fieldAddr 34 (Operand.tmp 5) 3, type := 0, pos := "law.go:72", after := #[], guard := none }) (v := ?vv26) rfl (by kernel_rfl) (by kernel_rfl) (by kernel_rfl) (fun _ _ _ h => h) ?hy26 (by assumption) ?rest26
    case hy26 => (refine Or.inl ⟨by rfl, ?_⟩; intro W hSw; (try dsimp only at hSw); go_simp; (try with_reducible rfl))
    try simp only [Act.put, List.setIfInBounds_toArray, List.set_cons_zero, List.set_cons_succ]
    refine wpAnyH_take (i := 11) (oi := { dst := some 36, op := Op.load 2 (Operand.tmp 35), type := 2, pos := "law.go:72", after := #[{ on := 10, ground := Ground.data }], guard := none }) (v := ?vv27) rfl (by kernel_rfl) (by kernel_rfl) (by kernel_rfl) (fun _ _ _ h => h) ?hy27 (by assumption) ?rest27
    case hy27 => (refine Or.inl ⟨by rfl, ?_⟩; intro W hSw; (try dsimp only at hSw); go_simp; (try with_reducible rfl))
    try simp only [Act.put, List.setIfInBounds_toArray, List.set_cons_zero, List.set_cons_succ]
    refine wpAnyH_ready (rs := [6]) (by kernel_rfl) (by simp) ?_
    refine AllReadyH.cons (o := { dst := some 31, op := Op.call { callee := Callee.value (Operand.func 16), args := #[Operand.tmp 26, Operand.tmp 28, Operand.tmp 30], argTypes := #[23, 9, 2] }, type := 24, pos := "law.go:72", after := #[{ on := 1, ground := Ground.data }, { on := 3, ground := Ground.data }, { on := 5, ground := Ground.data }], guard := none }) rfl (fun K hK => ?step28) ?more28
    case more28 => exact AllReadyH.nil
    ((go_simp; go_at_call 16; refine (HP1.out).mono ?_; rintro e w6 ⟨rfl, hp6, hk6⟩; have HP6 := Lib.hid hp6; have HK6 := Lib.hid ((Keeps.below (below_drew (Below.refl _ _))).trans hk6); clear hp6 hk6; go_wp2_with fail))
    refine hK.out _ _ ?hS28 (fun hHeld => ?rr28)
    case hS28 => (exact ⟨(HCELL.out _ HK6.out).2.1, (HCELL.out _ HK6.out).2.2.2⟩)
    clear hK K
    try simp only [Act.put, List.setIfInBounds_toArray, List.set_cons_zero, List.set_cons_succ]
    refine wpAnyH_ready (rs := [12]) (by kernel_rfl) (by simp) ?_
    refine AllReadyH.cons (o := { dst := some 37, op := Op.call { callee := Callee.value (Operand.func 27), args := #[Operand.tmp 32, Operand.tmp 34, Operand.tmp 36], argTypes := #[28, 9, 2] }, type := 24, pos := "law.go:72", after := #[{ on := 7, ground := Ground.data }, { on := 9, ground := Ground.data }, { on := 11, ground := Ground.data }, { on := 6, ground := Ground.chain }], guard := none }) rfl (fun K hK => ?step29) ?more29
    case more29 => exact AllReadyH.nil
    ((go_simp; go_at_call 27; refine (HRP.out _ HP6.out).mono ?_; rintro e w7 ⟨rfl, hp7, hk7⟩; have HP7 := Lib.hid hp7; have HK7 := Lib.hid (HK6.out.trans hk7); clear hp7 hk7; go_wp2_with fail))
    refine hK.out _ _ ?hS29 (fun hHeld => ?rr29)
    case hS29 => (exact ⟨(HCELL.out _ HK7.out).2.1, (HCELL.out _ HK7.out).2.2.2⟩)
    clear hK K
    try simp only [Act.put, List.setIfInBounds_toArray, List.set_cons_zero, List.set_cons_succ]
    refine wpAnyH_take (i := 13) (oi := { dst := some 38, op := Op.binOp BinOp.eql 24 (Operand.tmp 31) (Operand.tmp 37) 24, type := 4, pos := "law.go:72", after := #[{ on := 6, ground := Ground.data }, { on := 12, ground := Ground.data }, { on := 14, ground := Ground.gcOnly Departure.lateStores }], guard := none }) (v := (.bool true)) rfl (by kernel_rfl) (by kernel_rfl) (by kernel_rfl) (fun _ _ _ h => h) ?hy30 (by assumption) ?rest30
    case hy30 => ((refine Or.inl ⟨by rfl, ?_⟩; intro W hSw; (try dsimp only at hSw); go_simp; (try simp)))
    try simp only [Act.put, List.setIfInBounds_toArray, List.set_cons_zero, List.set_cons_succ]
    refine wpAnyH_take (i := 14) (oi := { dst := some 6, op := Op.assign (Operand.tmp 25), type := 23, pos := "law.go:72", after := #[{ on := 0, ground := Ground.data }, { on := 12, ground := Ground.chain }, { on := 0, ground := Ground.phase }, { on := 1, ground := Ground.textOnly Departure.lateStores }, { on := 2, ground := Ground.textOnly Departure.lateStores }, { on := 3, ground := Ground.textOnly Departure.lateStores }, { on := 4, ground := Ground.textOnly Departure.lateStores }, { on := 5, ground := Ground.textOnly Departure.lateStores }, { on := 6, ground := Ground.textOnly Departure.lateStoresUnsure }, { on := 7, ground := Ground.textOnly Departure.lateStores }, { on := 8, ground := Ground.textOnly Departure.lateStores }, { on := 9, ground := Ground.textOnly Departure.lateStores }, { on := 10, ground := Ground.textOnly Departure.lateStores }, { on := 11, ground := Ground.textOnly Departure.lateStores }, { on := 12, ground := Ground.textOnly Departure.lateStoresUnsure }, { on := 13, ground := Ground.textOnly Departure.lateStores }], guard := none }) (v := ?vv31) rfl (by kernel_rfl) (by kernel_rfl) (by kernel_rfl) (fun _ _ _ h => h) ?hy31 (by assumption) ?rest31
    case hy31 => (refine Or.inl ⟨by rfl, ?_⟩; intro W hSw; (try dsimp only at hSw); go_simp; (try with_reducible rfl))
    try simp only [Act.put, List.setIfInBounds_toArray, List.set_cons_zero, List.set_cons_succ]
    refine wpAnyH_take (i := 15) (oi := { dst := some 7, op := Op.assign (Operand.tmp 38), type := 4, pos := "law.go:72", after := #[{ on := 13, ground := Ground.data }, { on := 14, ground := Ground.chain }, { on := 0, ground := Ground.phase }, { on := 1, ground := Ground.phase }, { on := 2, ground := Ground.phase }, { on := 3, ground := Ground.phase }, { on := 4, ground := Ground.phase }, { on := 5, ground := Ground.phase }, { on := 6, ground := Ground.phase }, { on := 7, ground := Ground.phase }, { on := 8, ground := Ground.phase }, { on := 9, ground := Ground.phase }, { on := 10, ground := Ground.phase }, { on := 11, ground := Ground.phase }, { on := 12, ground := Ground.phase }, { on := 13, ground := Ground.phase }, { on := 14, ground := Ground.phase }], guard := none }) (v := ?vv32) rfl (by kernel_rfl) (by kernel_rfl) (by kernel_rfl) (fun _ _ _ h => h) ?hy32 (by assumption) ?rest32
    case hy32 => (refine Or.inl ⟨by rfl, ?_⟩; intro W hSw; (try dsimp only at hSw); go_simp; (try with_reducible rfl))
    try simp only [Act.put, List.setIfInBounds_toArray, List.set_cons_zero, List.set_cons_succ]
    refine wpAnyH_done (by kernel_rfl) ?_ _
    dsimp only [onlyN]
    clear hHeld
    go_wp2_with fail
    refine bodyPost_ret (v := .tuple #[.pointer (some ⟨s, 0, none⟩), .bool true]) (by simp [results, Tryz.results9, go_sem]) rfl ?_
    exact ⟨s, P1, rfl, HP7.out.less (fun k e => .inl e), HOK1.out, HKW.out.trans (HK7.out.less (fun k e => .inl e))⟩
  · have HP1 := (HP5.out.keep (below_drew (Below.refl _ _))).put (k := ka) (n := n) (by unfold maxLen; omega)
    obtain ⟨P1, c1, hp1⟩ : ∃ P1 c1, putP most P ⟨ka, n⟩ = (P1, c1) := ⟨_, _, rfl⟩
    have HOK1 : Hid (RowsOk P1) := Lib.hid (by
      have := rowsOk_put HP5.out.fineP HOK.out (k := ka) (n := n) HN.out
      rw [hp1] at this
      exact this)
    rw [hp1] at HP1
    have HRP : Hid (∀ W, Pair w0 W (fun k => F k ∨ k = ob5) s r most P1 P → Calls Tryz.prog 27 #[.pointer (some ⟨r, 0, none⟩), strV ka, .int .i64 n] W fun e w' => e = .returned (.int .i64 c1) ∧ Pair w0 w' (fun k => F k ∨ k = ob5) s r most P1 P1 ∧ Keeps (fun k => F k ∨ k = ob5) W w') := Lib.hid (fun W hW => by
      have := hW.rput (k := ka) (n := n) (by unfold maxLen; omega)
      rw [hp1] at this
      exact this)
    simp only [strV] at HP1 HRP
    have HP1 := Lib.hid HP1
    clear hp1
    go_wp2_with fail
    refine wp_only ?_
    refine wp_region_held_drew (S := fun W => W.cell? ⟨ob5, 1, none⟩ = some (.string ⟨ka.toArray⟩) ∧ W.cell? ⟨ob5, 3, none⟩ = some (.int .i64 n)) (by kernel_rfl) ⟨r1, r3⟩ (fun hHeld => ?_)
    refine wpAnyH_take (i := 0) (oi := { dst := some 25, op := Op.move (Operand.tmp 0), type := 23, pos := "law.go:72", after := #[], guard := none }) (v := ?vv33) rfl (by kernel_rfl) (by kernel_rfl) (by kernel_rfl) (fun _ _ _ h => h) ?hy33 (by assumption) ?rest33
    case hy33 => (refine Or.inl ⟨by rfl, ?_⟩; intro W hSw; (try dsimp only at hSw); go_simp; (try with_reducible rfl))
    try simp only [Act.put, List.setIfInBounds_toArray, List.set_cons_zero, List.set_cons_succ]
    refine wpAnyH_take (i := 1) (oi := { dst := some 26, op := Op.move (Operand.tmp 0), type := 23, pos := "law.go:72", after := #[], guard := none }) (v := ?vv34) rfl (by kernel_rfl) (by kernel_rfl) (by kernel_rfl) (fun _ _ _ h => h) ?hy34 (by assumption) ?rest34
    case hy34 => (refine Or.inl ⟨by rfl, ?_⟩; intro W hSw; (try dsimp only at hSw); go_simp; (try with_reducible rfl))
    try simp only [Act.put, List.setIfInBounds_toArray, List.set_cons_zero, List.set_cons_succ]
    refine wpAnyH_take (i := 2) (oi := { dst := some 27, op := Op.fieldAddr 34 (Operand.tmp 5) 1, type := 0, pos := "law.go:72", after := #[], guard := none }) (v := ?vv35) rfl (by kernel_rfl) (by kernel_rfl) (by kernel_rfl) (fun _ _ _ h => h) ?hy35 (by assumption) ?rest35
    case hy35 => (refine Or.inl ⟨by rfl, ?_⟩; intro W hSw; (try dsimp only at hSw); go_simp; (try with_reducible rfl))
    try simp only [Act.put, List.setIfInBounds_toArray, List.set_cons_zero, List.set_cons_succ]
    refine wpAnyH_take (i := 3) (oi := { dst := some 28, op := Op.load 9 (Operand.tmp 27), type := 9, pos := "law.go:72", after := #[{ on := 2, ground := Ground.data }], guard := none }) (v := ?vv36) rfl (by kernel_rfl) (by kernel_rfl) (by kernel_rfl) (fun _ _ _ h => h) ?hy36 (by assumption) ?rest36
    case hy36 => (refine Or.inl ⟨by rfl, ?_⟩; intro W hSw; (try dsimp only at hSw); go_simp; (try with_reducible rfl))
    try simp only [Act.put, List.setIfInBounds_toArray, List.set_cons_zero, List.set_cons_succ]
    refine wpAnyH_take (i := 4) (oi := { dst := some 29, op := Op.fieldAddr 34 (Operand.tmp 5) 3, type := 0, pos := "law.go:72", after := #[], guard := none }) (v := ?vv37) rfl (by kernel_rfl) (by kernel_rfl) (by kernel_rfl) (fun _ _ _ h => h) ?hy37 (by assumption) ?rest37
    case hy37 => (refine Or.inl ⟨by rfl, ?_⟩; intro W hSw; (try dsimp only at hSw); go_simp; (try with_reducible rfl))
    try simp only [Act.put, List.setIfInBounds_toArray, List.set_cons_zero, List.set_cons_succ]
    refine wpAnyH_take (i := 5) (oi := { dst := some 30, op := Op.load 2 (Operand.tmp 29), type := 2, pos := "law.go:72", after := #[{ on := 4, ground := Ground.data }], guard := none }) (v := ?vv38) rfl (by kernel_rfl) (by kernel_rfl) (by kernel_rfl) (fun _ _ _ h => h) ?hy38 (by assumption) ?rest38
    case hy38 => (refine Or.inl ⟨by rfl, ?_⟩; intro W hSw; (try dsimp only at hSw); go_simp; (try with_reducible rfl))
    try simp only [Act.put, List.setIfInBounds_toArray, List.set_cons_zero, List.set_cons_succ]
    refine wpAnyH_take (i := 7) (oi := { dst := some 32, op := Op.move (Operand.tmp 1), type := 28, pos := "law.go:72", after := #[], guard := none }) (v := ?vv39) rfl (by kernel_rfl) (by kernel_rfl) (by kernel_rfl) (fun _ _ _ h => h) ?hy39 (by assumption) ?rest39
    case hy39 => (refine Or.inl ⟨by rfl, ?_⟩; intro W hSw; (try dsimp only at hSw); go_simp; (try with_reducible rfl))
    try simp only [Act.put, List.setIfInBounds_toArray, List.set_cons_zero, List.set_cons_succ]
    refine wpAnyH_take (i := 8) (oi := { dst := some 33, op := Op.fieldAddr 34 (Operand.tmp 5) 1, type := 0, pos := "law.go:72", after := #[], guard := none }) (v := ?vv40) rfl (by kernel_rfl) (by kernel_rfl) (by kernel_rfl) (fun _ _ _ h => h) ?hy40 (by assumption) ?rest40
    case hy40 => (refine Or.inl ⟨by rfl, ?_⟩; intro W hSw; (try dsimp only at hSw); go_simp; (try with_reducible rfl))
    try simp only [Act.put, List.setIfInBounds_toArray, List.set_cons_zero, List.set_cons_succ]
    refine wpAnyH_take (i := 9) (oi := { dst := some 34, op := Op.load 9 (Operand.tmp 33), type := 9, pos := "law.go:72", after := #[{ on := 8, ground := Ground.data }], guard := none }) (v := ?vv41) rfl (by kernel_rfl) (by kernel_rfl) (by kernel_rfl) (fun _ _ _ h => h) ?hy41 (by assumption) ?rest41
    case hy41 => (refine Or.inl ⟨by rfl, ?_⟩; intro W hSw; (try dsimp only at hSw); go_simp; (try with_reducible rfl))
    try simp only [Act.put, List.setIfInBounds_toArray, List.set_cons_zero, List.set_cons_succ]
    refine wpAnyH_take (i := 10) (oi := { dst := some 35, op := Op.fieldAddr 34 (Operand.tmp 5) 3, type := 0, pos := "law.go:72", after := #[], guard := none }) (v := ?vv42) rfl (by kernel_rfl) (by kernel_rfl) (by kernel_rfl) (fun _ _ _ h => h) ?hy42 (by assumption) ?rest42
    case hy42 => (refine Or.inl ⟨by rfl, ?_⟩; intro W hSw; (try dsimp only at hSw); go_simp; (try with_reducible rfl))
    try simp only [Act.put, List.setIfInBounds_toArray, List.set_cons_zero, List.set_cons_succ]
    refine wpAnyH_take (i := 11) (oi := { dst := some 36, op := Op.load 2 (Operand.tmp 35), type := 2, pos := "law.go:72", after := #[{ on := 10, ground := Ground.data }], guard := none }) (v := ?vv43) rfl (by kernel_rfl) (by kernel_rfl) (by kernel_rfl) (fun _ _ _ h => h) ?hy43 (by assumption) ?rest43
    case hy43 => (refine Or.inl ⟨by rfl, ?_⟩; intro W hSw; (try dsimp only at hSw); go_simp; (try with_reducible rfl))
    try simp only [Act.put, List.setIfInBounds_toArray, List.set_cons_zero, List.set_cons_succ]
    refine wpAnyH_ready (rs := [6]) (by kernel_rfl) (by simp) ?_
    refine AllReadyH.cons (o := { dst := some 31, op := Op.call { callee := Callee.value (Operand.func 16), args := #[Operand.tmp 26, Operand.tmp 28, Operand.tmp 30], argTypes := #[23, 9, 2] }, type := 24, pos := "law.go:72", after := #[{ on := 1, ground := Ground.data }, { on := 3, ground := Ground.data }, { on := 5, ground := Ground.data }], guard := none }) rfl (fun K hK => ?step44) ?more44
    case more44 => exact AllReadyH.nil
    ((go_simp; go_at_call 16; refine (HP1.out).mono ?_; rintro e w6 ⟨rfl, hp6, hk6⟩; have HP6 := Lib.hid hp6; have HK6 := Lib.hid ((Keeps.below (below_drew (Below.refl _ _))).trans hk6); clear hp6 hk6; go_wp2_with fail))
    refine hK.out _ _ ?hS44 (fun hHeld => ?rr44)
    case hS44 => (exact ⟨(HCELL.out _ HK6.out).2.1, (HCELL.out _ HK6.out).2.2.2⟩)
    clear hK K
    try simp only [Act.put, List.setIfInBounds_toArray, List.set_cons_zero, List.set_cons_succ]
    refine wpAnyH_ready (rs := [12]) (by kernel_rfl) (by simp) ?_
    refine AllReadyH.cons (o := { dst := some 37, op := Op.call { callee := Callee.value (Operand.func 27), args := #[Operand.tmp 32, Operand.tmp 34, Operand.tmp 36], argTypes := #[28, 9, 2] }, type := 24, pos := "law.go:72", after := #[{ on := 7, ground := Ground.data }, { on := 9, ground := Ground.data }, { on := 11, ground := Ground.data }, { on := 6, ground := Ground.chain }], guard := none }) rfl (fun K hK => ?step45) ?more45
    case more45 => exact AllReadyH.nil
    ((go_simp; go_at_call 27; refine (HRP.out _ HP6.out).mono ?_; rintro e w7 ⟨rfl, hp7, hk7⟩; have HP7 := Lib.hid hp7; have HK7 := Lib.hid (HK6.out.trans hk7); clear hp7 hk7; go_wp2_with fail))
    refine hK.out _ _ ?hS45 (fun hHeld => ?rr45)
    case hS45 => (exact ⟨(HCELL.out _ HK7.out).2.1, (HCELL.out _ HK7.out).2.2.2⟩)
    clear hK K
    try simp only [Act.put, List.setIfInBounds_toArray, List.set_cons_zero, List.set_cons_succ]
    refine wpAnyH_take (i := 13) (oi := { dst := some 38, op := Op.binOp BinOp.eql 24 (Operand.tmp 31) (Operand.tmp 37) 24, type := 4, pos := "law.go:72", after := #[{ on := 6, ground := Ground.data }, { on := 12, ground := Ground.data }, { on := 14, ground := Ground.gcOnly Departure.lateStores }], guard := none }) (v := (.bool true)) rfl (by kernel_rfl) (by kernel_rfl) (by kernel_rfl) (fun _ _ _ h => h) ?hy46 (by assumption) ?rest46
    case hy46 => ((refine Or.inl ⟨by rfl, ?_⟩; intro W hSw; (try dsimp only at hSw); go_simp; (try simp)))
    try simp only [Act.put, List.setIfInBounds_toArray, List.set_cons_zero, List.set_cons_succ]
    refine wpAnyH_take (i := 14) (oi := { dst := some 6, op := Op.assign (Operand.tmp 25), type := 23, pos := "law.go:72", after := #[{ on := 0, ground := Ground.data }, { on := 12, ground := Ground.chain }, { on := 0, ground := Ground.phase }, { on := 1, ground := Ground.textOnly Departure.lateStores }, { on := 2, ground := Ground.textOnly Departure.lateStores }, { on := 3, ground := Ground.textOnly Departure.lateStores }, { on := 4, ground := Ground.textOnly Departure.lateStores }, { on := 5, ground := Ground.textOnly Departure.lateStores }, { on := 6, ground := Ground.textOnly Departure.lateStoresUnsure }, { on := 7, ground := Ground.textOnly Departure.lateStores }, { on := 8, ground := Ground.textOnly Departure.lateStores }, { on := 9, ground := Ground.textOnly Departure.lateStores }, { on := 10, ground := Ground.textOnly Departure.lateStores }, { on := 11, ground := Ground.textOnly Departure.lateStores }, { on := 12, ground := Ground.textOnly Departure.lateStoresUnsure }, { on := 13, ground := Ground.textOnly Departure.lateStores }], guard := none }) (v := ?vv47) rfl (by kernel_rfl) (by kernel_rfl) (by kernel_rfl) (fun _ _ _ h => h) ?hy47 (by assumption) ?rest47
    case hy47 => (refine Or.inl ⟨by rfl, ?_⟩; intro W hSw; (try dsimp only at hSw); go_simp; (try with_reducible rfl))
    try simp only [Act.put, List.setIfInBounds_toArray, List.set_cons_zero, List.set_cons_succ]
    refine wpAnyH_take (i := 15) (oi := { dst := some 7, op := Op.assign (Operand.tmp 38), type := 4, pos := "law.go:72", after := #[{ on := 13, ground := Ground.data }, { on := 14, ground := Ground.chain }, { on := 0, ground := Ground.phase }, { on := 1, ground := Ground.phase }, { on := 2, ground := Ground.phase }, { on := 3, ground := Ground.phase }, { on := 4, ground := Ground.phase }, { on := 5, ground := Ground.phase }, { on := 6, ground := Ground.phase }, { on := 7, ground := Ground.phase }, { on := 8, ground := Ground.phase }, { on := 9, ground := Ground.phase }, { on := 10, ground := Ground.phase }, { on := 11, ground := Ground.phase }, { on := 12, ground := Ground.phase }, { on := 13, ground := Ground.phase }, { on := 14, ground := Ground.phase }], guard := none }) (v := ?vv48) rfl (by kernel_rfl) (by kernel_rfl) (by kernel_rfl) (fun _ _ _ h => h) ?hy48 (by assumption) ?rest48
    case hy48 => (refine Or.inl ⟨by rfl, ?_⟩; intro W hSw; (try dsimp only at hSw); go_simp; (try with_reducible rfl))
    try simp only [Act.put, List.setIfInBounds_toArray, List.set_cons_zero, List.set_cons_succ]
    refine wpAnyH_done (by kernel_rfl) ?_ _
    dsimp only [onlyN]
    clear hHeld
    go_wp2_with fail
    refine bodyPost_ret (v := .tuple #[.pointer (some ⟨s, 0, none⟩), .bool true]) (by simp [results, Tryz.results9, go_sem]) rfl ?_
    exact ⟨s, P1, rfl, HP7.out.less (fun k e => .inl e), HOK1.out, HKW.out.trans (HK7.out.less (fun k e => .inl e))⟩
  · have HP1 := (HP5.out.keep (below_drew (Below.refl _ _))).del (k := ka)
    obtain ⟨P1, c1, hp1⟩ : ∃ P1 c1, delP most P ka = (P1, c1) := ⟨_, _, rfl⟩
    have HOK1 : Hid (RowsOk P1) := Lib.hid (by
      have := rowsOk_del HP5.out.fineP HOK.out (k := ka)
      rw [hp1] at this
      exact this)
    rw [hp1] at HP1
    have HRP : Hid (∀ W, Pair w0 W (fun k => F k ∨ k = ob5) s r most P1 P → Calls Tryz.prog 28 #[.pointer (some ⟨r, 0, none⟩), strV ka] W fun e w' => e = .returned (.bool c1) ∧ Pair w0 w' (fun k => F k ∨ k = ob5) s r most P1 P1 ∧ Keeps (fun k => F k ∨ k = ob5) W w') := Lib.hid (fun W hW => by
      have := hW.rdel (k := ka)
      rw [hp1] at this
      exact this)
    simp only [strV] at HP1 HRP
    have HP1 := Lib.hid HP1
    clear hp1
    go_wp2_with fail
    refine wp_only ?_
    refine wp_region_held_drew (S := fun W => W.cell? ⟨ob5, 1, none⟩ = some (.string ⟨ka.toArray⟩)) (by kernel_rfl) r1 (fun hHeld => ?_)
    refine wpAnyH_take (i := 0) (oi := { dst := some 42, op := Op.move (Operand.tmp 0), type := 23, pos := "law.go:74", after := #[], guard := none }) (v := ?vv49) rfl (by kernel_rfl) (by kernel_rfl) (by kernel_rfl) (fun _ _ _ h => h) ?hy49 (by assumption) ?rest49
    case hy49 => (refine Or.inl ⟨by rfl, ?_⟩; intro W hSw; (try dsimp only at hSw); go_simp; (try with_reducible rfl))
    try simp only [Act.put, List.setIfInBounds_toArray, List.set_cons_zero, List.set_cons_succ]
    refine wpAnyH_take (i := 1) (oi := { dst := some 43, op := Op.move (Operand.tmp 0), type := 23, pos := "law.go:74", after := #[], guard := none }) (v := ?vv50) rfl (by kernel_rfl) (by kernel_rfl) (by kernel_rfl) (fun _ _ _ h => h) ?hy50 (by assumption) ?rest50
    case hy50 => (refine Or.inl ⟨by rfl, ?_⟩; intro W hSw; (try dsimp only at hSw); go_simp; (try with_reducible rfl))
    try simp only [Act.put, List.setIfInBounds_toArray, List.set_cons_zero, List.set_cons_succ]
    refine wpAnyH_take (i := 2) (oi := { dst := some 44, op := Op.fieldAddr 34 (Operand.tmp 5) 1, type := 0, pos := "law.go:74", after := #[], guard := none }) (v := ?vv51) rfl (by kernel_rfl) (by kernel_rfl) (by kernel_rfl) (fun _ _ _ h => h) ?hy51 (by assumption) ?rest51
    case hy51 => (refine Or.inl ⟨by rfl, ?_⟩; intro W hSw; (try dsimp only at hSw); go_simp; (try with_reducible rfl))
    try simp only [Act.put, List.setIfInBounds_toArray, List.set_cons_zero, List.set_cons_succ]
    refine wpAnyH_take (i := 3) (oi := { dst := some 45, op := Op.load 9 (Operand.tmp 44), type := 9, pos := "law.go:74", after := #[{ on := 2, ground := Ground.data }], guard := none }) (v := ?vv52) rfl (by kernel_rfl) (by kernel_rfl) (by kernel_rfl) (fun _ _ _ h => h) ?hy52 (by assumption) ?rest52
    case hy52 => (refine Or.inl ⟨by rfl, ?_⟩; intro W hSw; (try dsimp only at hSw); go_simp; (try with_reducible rfl))
    try simp only [Act.put, List.setIfInBounds_toArray, List.set_cons_zero, List.set_cons_succ]
    refine wpAnyH_take (i := 5) (oi := { dst := some 47, op := Op.move (Operand.tmp 1), type := 28, pos := "law.go:74", after := #[], guard := none }) (v := ?vv53) rfl (by kernel_rfl) (by kernel_rfl) (by kernel_rfl) (fun _ _ _ h => h) ?hy53 (by assumption) ?rest53
    case hy53 => (refine Or.inl ⟨by rfl, ?_⟩; intro W hSw; (try dsimp only at hSw); go_simp; (try with_reducible rfl))
    try simp only [Act.put, List.setIfInBounds_toArray, List.set_cons_zero, List.set_cons_succ]
    refine wpAnyH_take (i := 6) (oi := { dst := some 48, op := Op.fieldAddr 34 (Operand.tmp 5) 1, type := 0, pos := "law.go:74", after := #[], guard := none }) (v := ?vv54) rfl (by kernel_rfl) (by kernel_rfl) (by kernel_rfl) (fun _ _ _ h => h) ?hy54 (by assumption) ?rest54
    case hy54 => (refine Or.inl ⟨by rfl, ?_⟩; intro W hSw; (try dsimp only at hSw); go_simp; (try with_reducible rfl))
    try simp only [Act.put, List.setIfInBounds_toArray, List.set_cons_zero, List.set_cons_succ]
    refine wpAnyH_take (i := 7) (oi := { dst := some 49, op := Op.load 9 (Operand.tmp 48), type := 9, pos := "law.go:74", after := #[{ on := 6, ground := Ground.data }], guard := none }) (v := ?vv55) rfl (by kernel_rfl) (by kernel_rfl) (by kernel_rfl) (fun _ _ _ h => h) ?hy55 (by assumption) ?rest55
    case hy55 => (refine Or.inl ⟨by rfl, ?_⟩; intro W hSw; (try dsimp only at hSw); go_simp; (try with_reducible rfl))
    try simp only [Act.put, List.setIfInBounds_toArray, List.set_cons_zero, List.set_cons_succ]
    refine wpAnyH_ready (rs := [4]) (by kernel_rfl) (by simp) ?_
    refine AllReadyH.cons (o := { dst := some 46, op := Op.call { callee := Callee.value (Operand.func 18), args := #[Operand.tmp 43, Operand.tmp 45], argTypes := #[23, 9] }, type := 4, pos := "law.go:74", after := #[{ on := 1, ground := Ground.data }, { on := 3, ground := Ground.data }], guard := none }) rfl (fun K hK => ?step56) ?more56
    case more56 => exact AllReadyH.nil
    ((go_simp; go_at_call 18; refine (HP1.out).mono ?_; rintro e w6 ⟨rfl, hp6, hk6⟩; have HP6 := Lib.hid hp6; have HK6 := Lib.hid ((Keeps.below (below_drew (Below.refl _ _))).trans hk6); clear hp6 hk6; go_wp2_with fail))
    refine hK.out _ _ ?hS56 (fun hHeld => ?rr56)
    case hS56 => (exact (HCELL.out _ HK6.out).2.1)
    clear hK K
    try simp only [Act.put, List.setIfInBounds_toArray, List.set_cons_zero, List.set_cons_succ]
    refine wpAnyH_ready (rs := [8]) (by kernel_rfl) (by simp) ?_
    refine AllReadyH.cons (o := { dst := some 50, op := Op.call { callee := Callee.value (Operand.func 28), args := #[Operand.tmp 47, Operand.tmp 49], argTypes := #[28, 9] }, type := 4, pos := "law.go:74", after := #[{ on := 5, ground := Ground.data }, { on := 7, ground := Ground.data }, { on := 4, ground := Ground.chain }], guard := none }) rfl (fun K hK => ?step57) ?more57
    case more57 => exact AllReadyH.nil
    ((go_simp; go_at_call 28; refine (HRP.out _ HP6.out).mono ?_; rintro e w7 ⟨rfl, hp7, hk7⟩; have HP7 := Lib.hid hp7; have HK7 := Lib.hid (HK6.out.trans hk7); clear hp7 hk7; go_wp2_with fail))
    refine hK.out _ _ ?hS57 (fun hHeld => ?rr57)
    case hS57 => (exact (HCELL.out _ HK7.out).2.1)
    clear hK K
    try simp only [Act.put, List.setIfInBounds_toArray, List.set_cons_zero, List.set_cons_succ]
    refine wpAnyH_take (i := 9) (oi := { dst := some 51, op := Op.binOp BinOp.eql 4 (Operand.tmp 46) (Operand.tmp 50) 4, type := 4, pos := "law.go:74", after := #[{ on := 4, ground := Ground.data }, { on := 8, ground := Ground.data }, { on := 10, ground := Ground.gcOnly Departure.lateStores }], guard := none }) (v := (.bool true)) rfl (by kernel_rfl) (by kernel_rfl) (by kernel_rfl) (fun _ _ _ h => h) ?hy58 (by assumption) ?rest58
    case hy58 => ((refine Or.inl ⟨by rfl, ?_⟩; intro W hSw; (try dsimp only at hSw); go_simp; (try simp)))
    try simp only [Act.put, List.setIfInBounds_toArray, List.set_cons_zero, List.set_cons_succ]
    refine wpAnyH_take (i := 10) (oi := { dst := some 6, op := Op.assign (Operand.tmp 42), type := 23, pos := "law.go:74", after := #[{ on := 0, ground := Ground.data }, { on := 8, ground := Ground.chain }, { on := 0, ground := Ground.phase }, { on := 1, ground := Ground.textOnly Departure.lateStores }, { on := 2, ground := Ground.textOnly Departure.lateStores }, { on := 3, ground := Ground.textOnly Departure.lateStores }, { on := 4, ground := Ground.textOnly Departure.lateStoresUnsure }, { on := 5, ground := Ground.textOnly Departure.lateStores }, { on := 6, ground := Ground.textOnly Departure.lateStores }, { on := 7, ground := Ground.textOnly Departure.lateStores }, { on := 8, ground := Ground.textOnly Departure.lateStoresUnsure }, { on := 9, ground := Ground.textOnly Departure.lateStores }], guard := none }) (v := ?vv59) rfl (by kernel_rfl) (by kernel_rfl) (by kernel_rfl) (fun _ _ _ h => h) ?hy59 (by assumption) ?rest59
    case hy59 => (refine Or.inl ⟨by rfl, ?_⟩; intro W hSw; (try dsimp only at hSw); go_simp; (try with_reducible rfl))
    try simp only [Act.put, List.setIfInBounds_toArray, List.set_cons_zero, List.set_cons_succ]
    refine wpAnyH_take (i := 11) (oi := { dst := some 7, op := Op.assign (Operand.tmp 51), type := 4, pos := "law.go:74", after := #[{ on := 9, ground := Ground.data }, { on := 10, ground := Ground.chain }, { on := 0, ground := Ground.phase }, { on := 1, ground := Ground.phase }, { on := 2, ground := Ground.phase }, { on := 3, ground := Ground.phase }, { on := 4, ground := Ground.phase }, { on := 5, ground := Ground.phase }, { on := 6, ground := Ground.phase }, { on := 7, ground := Ground.phase }, { on := 8, ground := Ground.phase }, { on := 9, ground := Ground.phase }, { on := 10, ground := Ground.phase }], guard := none }) (v := ?vv60) rfl (by kernel_rfl) (by kernel_rfl) (by kernel_rfl) (fun _ _ _ h => h) ?hy60 (by assumption) ?rest60
    case hy60 => (refine Or.inl ⟨by rfl, ?_⟩; intro W hSw; (try dsimp only at hSw); go_simp; (try with_reducible rfl))
    try simp only [Act.put, List.setIfInBounds_toArray, List.set_cons_zero, List.set_cons_succ]
    refine wpAnyH_done (by kernel_rfl) ?_ _
    dsimp only [onlyN]
    clear hHeld
    go_wp2_with fail
    refine bodyPost_ret (v := .tuple #[.pointer (some ⟨s, 0, none⟩), .bool true]) (by simp [results, Tryz.results9, go_sem]) rfl ?_
    exact ⟨s, P1, rfl, HP7.out.less (fun k e => .inl e), HOK1.out, HKW.out.trans (HK7.out.less (fun k e => .inl e))⟩
  · have HP1 := (HP5.out.keep (below_drew (Below.refl _ _))).del (k := ka)
    obtain ⟨P1, c1, hp1⟩ : ∃ P1 c1, delP most P ka = (P1, c1) := ⟨_, _, rfl⟩
    have HOK1 : Hid (RowsOk P1) := Lib.hid (by
      have := rowsOk_del HP5.out.fineP HOK.out (k := ka)
      rw [hp1] at this
      exact this)
    rw [hp1] at HP1
    have HRP : Hid (∀ W, Pair w0 W (fun k => F k ∨ k = ob5) s r most P1 P → Calls Tryz.prog 28 #[.pointer (some ⟨r, 0, none⟩), strV ka] W fun e w' => e = .returned (.bool c1) ∧ Pair w0 w' (fun k => F k ∨ k = ob5) s r most P1 P1 ∧ Keeps (fun k => F k ∨ k = ob5) W w') := Lib.hid (fun W hW => by
      have := hW.rdel (k := ka)
      rw [hp1] at this
      exact this)
    simp only [strV] at HP1 HRP
    have HP1 := Lib.hid HP1
    clear hp1
    go_wp2_with fail
    refine wp_only ?_
    refine wp_region_held_drew (S := fun W => W.cell? ⟨ob5, 1, none⟩ = some (.string ⟨ka.toArray⟩)) (by kernel_rfl) r1 (fun hHeld => ?_)
    refine wpAnyH_take (i := 0) (oi := { dst := some 42, op := Op.move (Operand.tmp 0), type := 23, pos := "law.go:74", after := #[], guard := none }) (v := ?vv61) rfl (by kernel_rfl) (by kernel_rfl) (by kernel_rfl) (fun _ _ _ h => h) ?hy61 (by assumption) ?rest61
    case hy61 => (refine Or.inl ⟨by rfl, ?_⟩; intro W hSw; (try dsimp only at hSw); go_simp; (try with_reducible rfl))
    try simp only [Act.put, List.setIfInBounds_toArray, List.set_cons_zero, List.set_cons_succ]
    refine wpAnyH_take (i := 1) (oi := { dst := some 43, op := Op.move (Operand.tmp 0), type := 23, pos := "law.go:74", after := #[], guard := none }) (v := ?vv62) rfl (by kernel_rfl) (by kernel_rfl) (by kernel_rfl) (fun _ _ _ h => h) ?hy62 (by assumption) ?rest62
    case hy62 => (refine Or.inl ⟨by rfl, ?_⟩; intro W hSw; (try dsimp only at hSw); go_simp; (try with_reducible rfl))
    try simp only [Act.put, List.setIfInBounds_toArray, List.set_cons_zero, List.set_cons_succ]
    refine wpAnyH_take (i := 2) (oi := { dst := some 44, op := Op.fieldAddr 34 (Operand.tmp 5) 1, type := 0, pos := "law.go:74", after := #[], guard := none }) (v := ?vv63) rfl (by kernel_rfl) (by kernel_rfl) (by kernel_rfl) (fun _ _ _ h => h) ?hy63 (by assumption) ?rest63
    case hy63 => (refine Or.inl ⟨by rfl, ?_⟩; intro W hSw; (try dsimp only at hSw); go_simp; (try with_reducible rfl))
    try simp only [Act.put, List.setIfInBounds_toArray, List.set_cons_zero, List.set_cons_succ]
    refine wpAnyH_take (i := 3) (oi := { dst := some 45, op := Op.load 9 (Operand.tmp 44), type := 9, pos := "law.go:74", after := #[{ on := 2, ground := Ground.data }], guard := none }) (v := ?vv64) rfl (by kernel_rfl) (by kernel_rfl) (by kernel_rfl) (fun _ _ _ h => h) ?hy64 (by assumption) ?rest64
    case hy64 => (refine Or.inl ⟨by rfl, ?_⟩; intro W hSw; (try dsimp only at hSw); go_simp; (try with_reducible rfl))
    try simp only [Act.put, List.setIfInBounds_toArray, List.set_cons_zero, List.set_cons_succ]
    refine wpAnyH_take (i := 5) (oi := { dst := some 47, op := Op.move (Operand.tmp 1), type := 28, pos := "law.go:74", after := #[], guard := none }) (v := ?vv65) rfl (by kernel_rfl) (by kernel_rfl) (by kernel_rfl) (fun _ _ _ h => h) ?hy65 (by assumption) ?rest65
    case hy65 => (refine Or.inl ⟨by rfl, ?_⟩; intro W hSw; (try dsimp only at hSw); go_simp; (try with_reducible rfl))
    try simp only [Act.put, List.setIfInBounds_toArray, List.set_cons_zero, List.set_cons_succ]
    refine wpAnyH_take (i := 6) (oi := { dst := some 48, op := Op.fieldAddr 34 (Operand.tmp 5) 1, type := 0, pos := "law.go:74", after := #[], guard := none }) (v := ?vv66) rfl (by kernel_rfl) (by kernel_rfl) (by kernel_rfl) (fun _ _ _ h => h) ?hy66 (by assumption) ?rest66
    case hy66 => (refine Or.inl ⟨by rfl, ?_⟩; intro W hSw; (try dsimp only at hSw); go_simp; (try with_reducible rfl))
    try simp only [Act.put, List.setIfInBounds_toArray, List.set_cons_zero, List.set_cons_succ]
    refine wpAnyH_take (i := 7) (oi := { dst := some 49, op := Op.load 9 (Operand.tmp 48), type := 9, pos := "law.go:74", after := #[{ on := 6, ground := Ground.data }], guard := none }) (v := ?vv67) rfl (by kernel_rfl) (by kernel_rfl) (by kernel_rfl) (fun _ _ _ h => h) ?hy67 (by assumption) ?rest67
    case hy67 => (refine Or.inl ⟨by rfl, ?_⟩; intro W hSw; (try dsimp only at hSw); go_simp; (try with_reducible rfl))
    try simp only [Act.put, List.setIfInBounds_toArray, List.set_cons_zero, List.set_cons_succ]
    refine wpAnyH_ready (rs := [4]) (by kernel_rfl) (by simp) ?_
    refine AllReadyH.cons (o := { dst := some 46, op := Op.call { callee := Callee.value (Operand.func 18), args := #[Operand.tmp 43, Operand.tmp 45], argTypes := #[23, 9] }, type := 4, pos := "law.go:74", after := #[{ on := 1, ground := Ground.data }, { on := 3, ground := Ground.data }], guard := none }) rfl (fun K hK => ?step68) ?more68
    case more68 => exact AllReadyH.nil
    ((go_simp; go_at_call 18; refine (HP1.out).mono ?_; rintro e w6 ⟨rfl, hp6, hk6⟩; have HP6 := Lib.hid hp6; have HK6 := Lib.hid ((Keeps.below (below_drew (Below.refl _ _))).trans hk6); clear hp6 hk6; go_wp2_with fail))
    refine hK.out _ _ ?hS68 (fun hHeld => ?rr68)
    case hS68 => (exact (HCELL.out _ HK6.out).2.1)
    clear hK K
    try simp only [Act.put, List.setIfInBounds_toArray, List.set_cons_zero, List.set_cons_succ]
    refine wpAnyH_ready (rs := [8]) (by kernel_rfl) (by simp) ?_
    refine AllReadyH.cons (o := { dst := some 50, op := Op.call { callee := Callee.value (Operand.func 28), args := #[Operand.tmp 47, Operand.tmp 49], argTypes := #[28, 9] }, type := 4, pos := "law.go:74", after := #[{ on := 5, ground := Ground.data }, { on := 7, ground := Ground.data }, { on := 4, ground := Ground.chain }], guard := none }) rfl (fun K hK => ?step69) ?more69
    case more69 => exact AllReadyH.nil
    ((go_simp; go_at_call 28; refine (HRP.out _ HP6.out).mono ?_; rintro e w7 ⟨rfl, hp7, hk7⟩; have HP7 := Lib.hid hp7; have HK7 := Lib.hid (HK6.out.trans hk7); clear hp7 hk7; go_wp2_with fail))
    refine hK.out _ _ ?hS69 (fun hHeld => ?rr69)
    case hS69 => (exact (HCELL.out _ HK7.out).2.1)
    clear hK K
    try simp only [Act.put, List.setIfInBounds_toArray, List.set_cons_zero, List.set_cons_succ]
    refine wpAnyH_take (i := 9) (oi := { dst := some 51, op := Op.binOp BinOp.eql 4 (Operand.tmp 46) (Operand.tmp 50) 4, type := 4, pos := "law.go:74", after := #[{ on := 4, ground := Ground.data }, { on := 8, ground := Ground.data }, { on := 10, ground := Ground.gcOnly Departure.lateStores }], guard := none }) (v := (.bool true)) rfl (by kernel_rfl) (by kernel_rfl) (by kernel_rfl) (fun _ _ _ h => h) ?hy70 (by assumption) ?rest70
    case hy70 => ((refine Or.inl ⟨by rfl, ?_⟩; intro W hSw; (try dsimp only at hSw); go_simp; (try simp)))
    try simp only [Act.put, List.setIfInBounds_toArray, List.set_cons_zero, List.set_cons_succ]
    refine wpAnyH_take (i := 10) (oi := { dst := some 6, op := Op.assign (Operand.tmp 42), type := 23, pos := "law.go:74", after := #[{ on := 0, ground := Ground.data }, { on := 8, ground := Ground.chain }, { on := 0, ground := Ground.phase }, { on := 1, ground := Ground.textOnly Departure.lateStores }, { on := 2, ground := Ground.textOnly Departure.lateStores }, { on := 3, ground := Ground.textOnly Departure.lateStores }, { on := 4, ground := Ground.textOnly Departure.lateStoresUnsure }, { on := 5, ground := Ground.textOnly Departure.lateStores }, { on := 6, ground := Ground.textOnly Departure.lateStores }, { on := 7, ground := Ground.textOnly Departure.lateStores }, { on := 8, ground := Ground.textOnly Departure.lateStoresUnsure }, { on := 9, ground := Ground.textOnly Departure.lateStores }], guard := none }) (v := ?vv71) rfl (by kernel_rfl) (by kernel_rfl) (by kernel_rfl) (fun _ _ _ h => h) ?hy71 (by assumption) ?rest71
    case hy71 => (refine Or.inl ⟨by rfl, ?_⟩; intro W hSw; (try dsimp only at hSw); go_simp; (try with_reducible rfl))
    try simp only [Act.put, List.setIfInBounds_toArray, List.set_cons_zero, List.set_cons_succ]
    refine wpAnyH_take (i := 11) (oi := { dst := some 7, op := Op.assign (Operand.tmp 51), type := 4, pos := "law.go:74", after := #[{ on := 9, ground := Ground.data }, { on := 10, ground := Ground.chain }, { on := 0, ground := Ground.phase }, { on := 1, ground := Ground.phase }, { on := 2, ground := Ground.phase }, { on := 3, ground := Ground.phase }, { on := 4, ground := Ground.phase }, { on := 5, ground := Ground.phase }, { on := 6, ground := Ground.phase }, { on := 7, ground := Ground.phase }, { on := 8, ground := Ground.phase }, { on := 9, ground := Ground.phase }, { on := 10, ground := Ground.phase }], guard := none }) (v := ?vv72) rfl (by kernel_rfl) (by kernel_rfl) (by kernel_rfl) (fun _ _ _ h => h) ?hy72 (by assumption) ?rest72
    case hy72 => (refine Or.inl ⟨by rfl, ?_⟩; intro W hSw; (try dsimp only at hSw); go_simp; (try with_reducible rfl))
    try simp only [Act.put, List.setIfInBounds_toArray, List.set_cons_zero, List.set_cons_succ]
    refine wpAnyH_done (by kernel_rfl) ?_ _
    dsimp only [onlyN]
    clear hHeld
    go_wp2_with fail
    refine bodyPost_ret (v := .tuple #[.pointer (some ⟨s, 0, none⟩), .bool true]) (by simp [results, Tryz.results9, go_sem]) rfl ?_
    exact ⟨s, P1, rfl, HP7.out.less (fun k e => .inl e), HOK1.out, HKW.out.trans (HK7.out.less (fun k e => .inl e))⟩
  · have HG1 := HP5.out.sr.get (k := ka)
    rw [get_eq HP5.out.fineP] at HG1
    obtain ⟨vr, us, hrs⟩ := HP5.out.rst
    have htot := HP5.out.fineP.total
    have hlen := HP5.out.fineP.len
    have HRO := Lib.hid (fun W (hW : Below W5.heap.size W5 W) => rrows_any (hrs.at_.below hW) (by omega) (by omega))
    obtain ⟨fl, hfl⟩ : ∃ fl, P.flatten = fl := ⟨_, rfl⟩
    rw [hfl] at HG1 HRO htot
    have HGE := Lib.hid (fun W u (hu : RowOf W u fl) => RGet_any hu (by omega) ka)
    obtain ⟨gv, gb, hgt⟩ : ∃ gv gb, getR fl ka = (gv, gb) := ⟨_, _, rfl⟩
    rw [hgt] at HG1 HGE
    simp only [strV] at HG1 HGE
    have HG1 := Lib.hid HG1
    clear hgt hfl hrs
    go_wp2_with fail
    refine (HG1.out).mono ?_
    rintro e w6 ⟨rfl, hb6⟩
    have HB6 := Lib.hid hb6
    have r1' := (HCELL.out _ (Keeps.below hb6)).2.1
    clear hb6
    go_wp2_with fail
    refine wp_only ?_
    refine wp_region_held_drew (S := fun W => W.cell? ⟨ob5, 1, none⟩ = some (.string ⟨ka.toArray⟩)) (by kernel_rfl) r1' (fun hHeld => ?_)
    refine wpAnyH_take (i := 0) (oi := { dst := some 62, op := Op.move (Operand.tmp 1), type := 28, pos := "law.go:77", after := #[], guard := none }) (v := ?vv73) rfl (by kernel_rfl) (by kernel_rfl) (by kernel_rfl) (fun _ _ _ h => h) ?hy73 (by assumption) ?rest73
    case hy73 => (refine Or.inl ⟨by rfl, ?_⟩; intro W hSw; (try dsimp only at hSw); go_simp; (try with_reducible rfl))
    try simp only [Act.put, List.setIfInBounds_toArray, List.set_cons_zero, List.set_cons_succ]
    refine wpAnyH_take (i := 2) (oi := { dst := some 64, op := Op.fieldAddr 34 (Operand.tmp 5) 1, type := 0, pos := "law.go:77", after := #[], guard := none }) (v := ?vv74) rfl (by kernel_rfl) (by kernel_rfl) (by kernel_rfl) (fun _ _ _ h => h) ?hy74 (by assumption) ?rest74
    case hy74 => (refine Or.inl ⟨by rfl, ?_⟩; intro W hSw; (try dsimp only at hSw); go_simp; (try with_reducible rfl))
    try simp only [Act.put, List.setIfInBounds_toArray, List.set_cons_zero, List.set_cons_succ]
    refine wpAnyH_take (i := 3) (oi := { dst := some 65, op := Op.load 9 (Operand.tmp 64), type := 9, pos := "law.go:77", after := #[{ on := 2, ground := Ground.data }], guard := none }) (v := ?vv75) rfl (by kernel_rfl) (by kernel_rfl) (by kernel_rfl) (fun _ _ _ h => h) ?hy75 (by assumption) ?rest75
    case hy75 => (refine Or.inl ⟨by rfl, ?_⟩; intro W hSw; (try dsimp only at hSw); go_simp; (try with_reducible rfl))
    try simp only [Act.put, List.setIfInBounds_toArray, List.set_cons_zero, List.set_cons_succ]
    refine wpAnyH_ready (rs := [1]) (by kernel_rfl) (by simp) ?_
    refine AllReadyH.cons (o := { dst := some 63, op := Op.call { callee := Callee.value (Operand.func 21), args := #[Operand.tmp 62], argTypes := #[28] }, type := 40, pos := "law.go:77", after := #[{ on := 0, ground := Ground.data }], guard := none }) rfl (fun K hK => ?step76) ?more76
    case more76 => exact AllReadyH.nil
    ((go_simp; go_at_call 21; refine (HRO.out _ (below_drew HB6.out)).mono ?_; rintro e w7 ⟨v7, rfl, hr7, hb7⟩; have HR7 := Lib.hid hr7; have HB7 := Lib.hid (HB6.out.trans ((below_of_drew hb7).mono HB6.out.size)); obtain ⟨A7, c7, rfl, _⟩ := hr7.1.form; clear hr7 hb7; go_wp2_with fail))
    refine hK.out _ _ ?hS76 (fun hHeld => ?rr76)
    case hS76 => (exact (HCELL.out _ (Keeps.below HB7.out)).2.1)
    clear hK K
    try simp only [Act.put, List.setIfInBounds_toArray, List.set_cons_zero, List.set_cons_succ]
    refine wpAnyH_ready (rs := [4]) (by kernel_rfl) (by simp) ?_
    refine AllReadyH.cons (o := { dst := some 66, op := Op.call { callee := Callee.value (Operand.func 29), args := #[Operand.tmp 63, Operand.tmp 65], argTypes := #[40, 9] }, type := 56, pos := "law.go:77", after := #[{ on := 1, ground := Ground.data }, { on := 3, ground := Ground.data }, { on := 1, ground := Ground.chain }], guard := none }) rfl (fun K hK => ?step77) ?more77
    case more77 => exact AllReadyH.nil
    ((go_simp; go_at_call 29; refine (HGE.out _ _ HR7.out.1).mono ?_; rintro e w8 ⟨rfl, hb8⟩; have HB8 := Lib.hid (HB7.out.trans (hb8.mono HB7.out.size)); clear hb8; go_wp2_with fail))
    refine hK.out _ _ ?hS77 (fun hHeld => ?rr77)
    case hS77 => (exact (HCELL.out _ (Keeps.below HB8.out)).2.1)
    clear hK K
    try simp only [Act.put, List.setIfInBounds_toArray, List.set_cons_zero, List.set_cons_succ]
    refine wpAnyH_take (i := 5) (oi := { dst := some 61, op := Op.move (Operand.tmp 66), type := 56, pos := "law.go:77", after := #[{ on := 4, ground := Ground.data }], guard := none }) (v := ?vv78) rfl (by kernel_rfl) (by kernel_rfl) (by kernel_rfl) (fun _ _ _ h => h) ?hy78 (by assumption) ?rest78
    case hy78 => (refine Or.inl ⟨by rfl, ?_⟩; intro W hSw; (try dsimp only at hSw); go_simp; (try with_reducible rfl))
    try simp only [Act.put, List.setIfInBounds_toArray, List.set_cons_zero, List.set_cons_succ]
    refine wpAnyH_take (i := 6) (oi := { dst := some 67, op := Op.extract (Operand.tmp 61) 0, type := 2, pos := "law.go:77", after := #[{ on := 5, ground := Ground.data }], guard := none }) (v := ?vv79) rfl (by kernel_rfl) (by kernel_rfl) (by kernel_rfl) (fun _ _ _ h => h) ?hy79 (by assumption) ?rest79
    case hy79 => (refine Or.inl ⟨by rfl, ?_⟩; intro W hSw; (try dsimp only at hSw); go_simp; (try with_reducible rfl))
    try simp only [Act.put, List.setIfInBounds_toArray, List.set_cons_zero, List.set_cons_succ]
    refine wpAnyH_take (i := 7) (oi := { dst := some 68, op := Op.extract (Operand.tmp 61) 1, type := 4, pos := "law.go:77", after := #[{ on := 5, ground := Ground.data }, { on := 8, ground := Ground.gcOnly Departure.lateStores }], guard := none }) (v := ?vv80) rfl (by kernel_rfl) (by kernel_rfl) (by kernel_rfl) (fun _ _ _ h => h) ?hy80 (by assumption) ?rest80
    case hy80 => (refine Or.inl ⟨by rfl, ?_⟩; intro W hSw; (try dsimp only at hSw); go_simp; (try with_reducible rfl))
    try simp only [Act.put, List.setIfInBounds_toArray, List.set_cons_zero, List.set_cons_succ]
    refine wpAnyH_take (i := 8) (oi := { dst := some 10, op := Op.assign (Operand.tmp 67), type := 2, pos := "law.go:77", after := #[{ on := 6, ground := Ground.data }, { on := 4, ground := Ground.chain }, { on := 0, ground := Ground.phase }, { on := 1, ground := Ground.phase }, { on := 2, ground := Ground.phase }, { on := 3, ground := Ground.phase }, { on := 4, ground := Ground.phase }, { on := 5, ground := Ground.phase }, { on := 6, ground := Ground.phase }, { on := 7, ground := Ground.textOnly Departure.lateStores }], guard := none }) (v := ?vv81) rfl (by kernel_rfl) (by kernel_rfl) (by kernel_rfl) (fun _ _ _ h => h) ?hy81 (by assumption) ?rest81
    case hy81 => (refine Or.inl ⟨by rfl, ?_⟩; intro W hSw; (try dsimp only at hSw); go_simp; (try with_reducible rfl))
    try simp only [Act.put, List.setIfInBounds_toArray, List.set_cons_zero, List.set_cons_succ]
    refine wpAnyH_take (i := 9) (oi := { dst := some 11, op := Op.assign (Operand.tmp 68), type := 4, pos := "law.go:77", after := #[{ on := 7, ground := Ground.data }, { on := 8, ground := Ground.chain }, { on := 0, ground := Ground.phase }, { on := 1, ground := Ground.phase }, { on := 2, ground := Ground.phase }, { on := 3, ground := Ground.phase }, { on := 4, ground := Ground.phase }, { on := 5, ground := Ground.phase }, { on := 6, ground := Ground.phase }, { on := 7, ground := Ground.phase }, { on := 8, ground := Ground.phase }], guard := none }) (v := ?vv82) rfl (by kernel_rfl) (by kernel_rfl) (by kernel_rfl) (fun _ _ _ h => h) ?hy82 (by assumption) ?rest82
    case hy82 => (refine Or.inl ⟨by rfl, ?_⟩; intro W hSw; (try dsimp only at hSw); go_simp; (try with_reducible rfl))
    try simp only [Act.put, List.setIfInBounds_toArray, List.set_cons_zero, List.set_cons_succ]
    refine wpAnyH_done (by kernel_rfl) ?_ _
    dsimp only [onlyN]
    clear hHeld
    go_wp2_with fail
    refine bodyPost_ret (v := .tuple #[.pointer (some ⟨s, 0, none⟩), .bool true]) (by simp [results, Tryz.results9, go_sem]) rfl ?_
    exact ⟨s, P, by simp, (HP5.out.keep HB8.out).less (fun k e => .inl e), HOK.out, HKW.out.trans ((Keeps.below HB8.out))⟩
  · obtain ⟨vr, us, hrs⟩ := HP5.out.rst
    have htot := HP5.out.fineP.total
    have hlen := HP5.out.fineP.len
    have HRO := Lib.hid (rrows_any hrs.at_ (by omega) (by omega))
    have HSC := Lib.hid (fun W (hW : Below W5.heap.size W5 W) => (HP5.out.sr.keep hW).scanK ka kb)
    obtain ⟨fl, hfl⟩ : ∃ fl, P.flatten = fl := ⟨_, rfl⟩
    rw [hfl] at HRO HSC htot
    have hfI : (fl.length : Int) ≤ 256 := by omega
    have HRR : Hid (∀ (W : World) u v (p : List Row), RowOf W u p → RowOf W v p → p.length ≤ 1000 → Calls Tryz.prog 23 #[u, v] W fun e w' => e = .returned (.bool true) ∧ Below W.heap.size W w') := Lib.hid (fun W u v p hu hv hl => by
      have := RRows_any hu hv hl hl
      rw [decide_eq_true rfl] at this
      exact this)
    simp only [strV] at HSC
    clear hfl hrs
    go_wp2_with fail
    refine (HRO.out).mono ?_
    rintro e w6 ⟨v6, rfl, hr6, hb6⟩
    have HB6 := Lib.hid hb6
    obtain ⟨A6, c6, rfl, hc61, hc62, _, _, hcell⟩ := hr6.1.form
    unfold maxLen at hc62
    have HCE := Lib.hid hcell
    clear hr6 hb6 hcell HRO
    go_wp2_with fail
    go_loopw [12, 83] (fun ov iv wr => ∃ i : Nat, i ≤ fl.length ∧ iv = .int .i64 i ∧ RowsIs wr w6.heap.size ov ((fl.take i).filter (scanR ka kb)) ∧ Below w6.heap.size w6 wr) (fun _ iv _ => fl.length - (intOf iv).toNat)
    case atStart => exact ⟨0, Nat.zero_le _, rfl, ⟨RowIs.nil _ _, fun b e => by cases e⟩, Below.refl _ _⟩
    case round =>
      obtain ⟨i, hi, rfl, hrw, hbw⟩ := hrel
      obtain ⟨acc, hacc⟩ : ∃ acc, (fl.take i).filter (scanR ka kb) = acc := ⟨_, rfl⟩
      have hal : acc.length ≤ i := by
        rw [← hacc]
        refine Nat.le_trans (List.length_filter_le _ _) ?_
        rw [List.length_take]
        omega
      rw [hacc] at hrw
      by_cases hlt : i < fl.length
      · obtain ⟨x, hx⟩ : ∃ x, fl[i]? = some x := ⟨_, List.getElem?_eq_getElem hlt⟩
        obtain ⟨q1, q2⟩ := pgC_at hx
        obtain ⟨g, rfl, k1⟩ := HCE.out _ _ q1
        obtain ⟨_, e1, k2⟩ := HCE.out _ _ q2
        injection e1 with e1
        injection e1 with e1
        subst e1
        replace k1 := (hbw.cell (World.block_lt_of_cell? _ _ k1)).trans k1
        replace k2 := (hbw.cell (World.block_lt_of_cell? _ _ k2)).trans k2
        unfold strV at k1
        have hiI : (i : Int) < (fl.length : Int) := by omega
        have hT := filt_snoc (f := scanR ka kb) hx
        rw [hacc] at hT
        have HT := Lib.hid hT
        have HLT := Lib.hid hlt
        have hW1 := below_new (w := wr) (.cells #[.string ⟨x.k.toArray⟩, .int .i64 x.n] 42)
        have hat1 := alloc_at wr (.cells #[.string ⟨x.k.toArray⟩, .int .i64 x.n] 42)
        have hB1 := hbw.trans (hW1.mono hbw.size)
        have hR1 := hrw.below hW1
        have HB1 := Lib.hid hB1
        have HR1 := Lib.hid hR1
        obtain ⟨_, s1, s2, _⟩ := HCELL.out _ (Keeps.below (HB6.out.trans (hB1.mono HB6.out.size)))
        have hW2 := below_new (w := wr.alloc (.cells #[.string ⟨x.k.toArray⟩, .int .i64 x.n] 42)) (.cells #[.string ⟨x.k.toArray⟩, .int .i64 x.n] 42)
        have hat2 := alloc_at (wr.alloc (.cells #[.string ⟨x.k.toArray⟩, .int .i64 x.n] 42)) (.cells #[.string ⟨x.k.toArray⟩, .int .i64 x.n] 42)
        rw [asz] at hat2
        have HR2 := Lib.hid (hR1.below hW2)
        have HB2 := Lib.hid (hB1.trans (hW2.mono hB1.size))
        have HS2 := Lib.hid (src_lit hat2)
        obtain ⟨Ao, co, rfl, _⟩ := hrw.1.form
        have haI : (acc.length : Int) ≤ 256 := by omega
        have hal2 : acc.length ≤ 256 := by omega
        clear hT hlt hrw hbw hW1 hat1 hB1 hR1 hW2 hat2 hx hacc hal q1 q2 hi
        have hskip : scanR ka kb x = false ∨ scanR ka kb x = true := by cases scanR ka kb x <;> simp
        by_cases h1 : x.k < ka
        · have b1 : Op.bytesLess x.k ka = true := by rw [bytesLess_eq]; simpa using h1
          have b1e : (x.k == ka) = false := by
            rw [beq_eq_false_iff_ne]
            intro e
            rw [e] at h1
            exact List.lt_irrefl _ h1
          have b1d : Op.bytesLess ka x.k = false := by
            rw [bytesLess_eq]
            simp only [decide_eq_false_iff_not]
            exact fun e => List.lt_irrefl _ (k_trans e h1)
          have HF : Hid (scanR ka kb x = false) := Lib.hid (by unfold scanR; simp [h1])
          clear h1 hskip
          go_wp2_with fail
          go_roundw
          case rel => exact ⟨i + 1, HLT.out, by go_num, by rw [HT.out, HF.out]; simpa using HR1.out, HB1.out⟩
          case measure => have := HLT.out; simp [intOf]; omega
        · have b1 : Op.bytesLess x.k ka = false := by rw [bytesLess_eq]; simpa using h1
          have b1e : (Op.bytesLess ka x.k || x.k == ka) = true := by
            rw [bytesLess_eq]
            rcases k_tri x.k ka with h | h | h
            · exact absurd h h1
            · simp [h]
            · simp [h]
          by_cases hb : kb = []
          · subst hb
            have HF : Hid (scanR ka [] x = true) := Lib.hid (by unfold scanR; simp [h1])
            clear h1 hskip
            go_wp2_with (at_builtin; refine wpList_append_row _ _ Tryz.underlying40 infoR rfl (by decide) (by decide) _ rfl _ _ 40 rfl acc.length 1 (pgC acc) [strV x.k, .int .i64 x.n] _ _ rfl rfl HR2.out.1 HS2.out ?_ ?_)
            all_goals first | omega | skip
            intro v' w' hrow hgrow hblk
            obtain ⟨h5, h6⟩ := push_rows (r := x) HR2.out HB2.out.size hrow hgrow (by rw [asz, asz]; exact hblk)
            have H5 := Lib.hid h5
            have H6 := Lib.hid (HB2.out.trans h6)
            obtain ⟨Av, cv, rfl, _⟩ := h5.1.form
            clear hrow hgrow hblk h5 h6
            go_wp2_with fail
            go_roundw
            case rel => exact ⟨i + 1, HLT.out, by go_num, by rw [HT.out, HF.out]; exact H5.out, H6.out⟩
            case measure => have := HLT.out; simp [intOf]; omega
          · have hbb : (kb == []) = false := by simpa using hb
            by_cases h2 : x.k < kb
            · have b2 : Op.bytesLess x.k kb = true := by rw [bytesLess_eq]; simpa using h2
              have HF : Hid (scanR ka kb x = true) := Lib.hid (by unfold scanR; simp [h1, h2])
              clear h1 h2 hskip
              go_wp2_with (at_builtin; refine wpList_append_row _ _ Tryz.underlying40 infoR rfl (by decide) (by decide) _ rfl _ _ 40 rfl acc.length 1 (pgC acc) [strV x.k, .int .i64 x.n] _ _ rfl rfl HR2.out.1 HS2.out ?_ ?_)
              all_goals first | omega | skip
              intro v' w' hrow hgrow hblk
              obtain ⟨h5, h6⟩ := push_rows (r := x) HR2.out HB2.out.size hrow hgrow (by rw [asz, asz]; exact hblk)
              have H5 := Lib.hid h5
              have H6 := Lib.hid (HB2.out.trans h6)
              obtain ⟨Av, cv, rfl, _⟩ := h5.1.form
              clear hrow hgrow hblk h5 h6
              go_wp2_with fail
              go_roundw
              case rel => exact ⟨i + 1, HLT.out, by go_num, by rw [HT.out, HF.out]; exact H5.out, H6.out⟩
              case measure => have := HLT.out; simp [intOf]; omega
            · have b2 : Op.bytesLess x.k kb = false := by rw [bytesLess_eq]; simpa using h2
              have HF : Hid (scanR ka kb x = false) := Lib.hid (by unfold scanR; simp [h2, hb])
              clear h1 h2 hskip
              go_wp2_with fail
              go_roundw
              case rel => exact ⟨i + 1, HLT.out, by go_num, by rw [HT.out, HF.out]; simpa using HR1.out, HB1.out⟩
              case measure => have := HLT.out; simp [intOf]; omega
      · obtain rfl : i = fl.length := by omega
        rw [List.take_length] at hacc
        rw [hacc] at HSC
        have HBR := Lib.hid (HB6.out.trans (hbw.mono HB6.out.size))
        have HRW := Lib.hid hrw
        obtain ⟨Ao, co, rfl, _⟩ := hrw.1.form
        obtain ⟨_, s1, s2, _⟩ := HCELL.out _ (Keeps.below HBR.out)
        have hal2 : acc.length ≤ 256 := by omega
        clear hrw hbw hacc hal hi
        go_wp2_with fail
        refine (HSC.out _ HBR.out).mono ?_
        rintro e w7 ⟨v7, rfl, hr7, hb7⟩
        have HR7 := Lib.hid hr7
        have HRW7 := Lib.hid (HRW.out.below hb7)
        have HB7 := Lib.hid (HBR.out.trans (hb7.mono HBR.out.size))
        obtain ⟨A7, c7, rfl, _⟩ := hr7.1.form
        clear hr7 hb7
        go_wp2_with fail
        refine (HRR.out _ _ _ _ HR7.out.1 HRW7.out.1 (by omega)).mono ?_
        rintro e w8 ⟨rfl, hb8⟩
        have HB8 := Lib.hid (HB7.out.trans (hb8.mono HB7.out.size))
        clear hb8
        go_wp2_with fail
        refine bodyPost_ret (v := .tuple #[.pointer (some ⟨s, 0, none⟩), .bool true]) (by simp [results, Tryz.results9, go_sem]) rfl ?_
        exact ⟨s, P, rfl, (HP5.out.keep HB8.out).less (fun k e => .inl e), HOK.out, HKW.out.trans (Keeps.below HB8.out)⟩
  · have HSR := Lib.hid HP5.out.sr
    obtain ⟨vr, us, hrs⟩ := HP5.out.rst
    have km : W5.cell? ⟨r, 0, none⟩ = some (.int .i64 most) := cell_of hrs.at_.head 0
    have HKM : Hid (∀ W, Below W5.heap.size W5 W → W.cell? ⟨r, 0, none⟩ = some (.int .i64 most)) := Lib.hid (fun W hW => (hW.cell (p := ⟨r, 0, none⟩) (World.block_lt_of_cell? _ _ km)).trans km)
    have HLB := Lib.hid (loadP_back HP5.out.fineP.most.2 (pagesOk_of HP5.out.fineP HOK.out))
    have HBY := Lib.hid (fun W (hW : Below W5.heap.size W5 W) => (HP5.out.sr.keep hW).bytes HOK.out)
    have h64 : ∀ p ∈ P, p.length ≤ 64 := fun p hp => by
      obtain ⟨i, hi⟩ := List.getElem?_of_mem hp
      exact (HP5.out.fineP.page hi).2.2
    have hPl := HP5.out.fineP.len
    have HBL := Lib.hid (bytes_len (P := P) h64 (fun p hp x hx => (HOK.out p hp x hx).w) (by omega))
    have HLD : Hid (∀ (W : World) v, Below W5.heap.size W5 W → BIs W v (bytesP P) → Calls Tryz.prog 12 #[v, .int .i64 most] W fun e w' => Below W.heap.size W w' ∧ ∃ t, e = .returned (.tuple #[.pointer (some ⟨t, 0, none⟩), .int .i64 0]) ∧ Sr W w' t most P) := Lib.hid (fun W v hW hv => by
      refine (Load_any hv (by have := HBL.out; omega) HP5.out.fineP.most (HP5.out.glob.below (HP5.out.below.trans (hW.mono HP5.out.below.size)))).mono ?_
      rintro e w' ⟨hb, ⟨hn, _⟩ | ⟨P2, t, h1, h2, h3, _⟩⟩
      · rw [HLB.out] at hn; cases hn
      · rw [HLB.out] at h1
        obtain rfl := Option.some.inj h1
        exact ⟨hb, t, h2, h3⟩)
    obtain ⟨bl, hbl⟩ : ∃ bl, bytesP P = bl := ⟨_, rfl⟩
    rw [hbl] at HBY HLD
    clear hrs h64 hbl
    go_wp2_with fail
    refine wp_only ?_
    refine wp_region_held_drew (S := fun W => W.cell? ⟨r, 0, none⟩ = some (.int .i64 most)) (by kernel_rfl) km (fun hHeld => ?_)
    refine wpAnyH_take (i := 0) (oi := { dst := some 121, op := Op.move (Operand.tmp 0), type := 23, pos := "law.go:88", after := #[], guard := none }) (v := ?vv83) rfl (by kernel_rfl) (by kernel_rfl) (by kernel_rfl) (fun _ _ _ h => h) ?hy83 (by assumption) ?rest83
    case hy83 => (refine Or.inl ⟨by rfl, ?_⟩; intro W hSw; (try dsimp only at hSw); go_simp; (try with_reducible rfl))
    try simp only [Act.put, List.setIfInBounds_toArray, List.set_cons_zero, List.set_cons_succ]
    refine wpAnyH_take (i := 2) (oi := { dst := some 123, op := Op.move (Operand.tmp 1), type := 28, pos := "law.go:88", after := #[], guard := none }) (v := ?vv84) rfl (by kernel_rfl) (by kernel_rfl) (by kernel_rfl) (fun _ _ _ h => h) ?hy84 (by assumption) ?rest84
    case hy84 => (refine Or.inl ⟨by rfl, ?_⟩; intro W hSw; (try dsimp only at hSw); go_simp; (try with_reducible rfl))
    try simp only [Act.put, List.setIfInBounds_toArray, List.set_cons_zero, List.set_cons_succ]
    refine wpAnyH_take (i := 3) (oi := { dst := some 124, op := Op.nilCheck (Operand.tmp 123), type := 0, pos := "law.go:88", after := #[{ on := 2, ground := Ground.data }], guard := none }) (v := ?vv85) rfl (by kernel_rfl) (by kernel_rfl) (by kernel_rfl) (fun _ _ _ h => h) ?hy85 (by assumption) ?rest85
    case hy85 => (refine Or.inl ⟨by rfl, ?_⟩; intro W hSw; (try dsimp only at hSw); go_simp; (try with_reducible rfl))
    try simp only [Act.put, List.setIfInBounds_toArray, List.set_cons_zero, List.set_cons_succ]
    refine wpAnyH_take (i := 4) (oi := { dst := some 125, op := Op.fieldAddr 31 (Operand.tmp 124) 0, type := 0, pos := "law.go:88", after := #[{ on := 3, ground := Ground.data }], guard := none }) (v := ?vv86) rfl (by kernel_rfl) (by kernel_rfl) (by kernel_rfl) (fun _ _ _ h => h) ?hy86 (by assumption) ?rest86
    case hy86 => (refine Or.inl ⟨by rfl, ?_⟩; intro W hSw; (try dsimp only at hSw); go_simp; (try with_reducible rfl))
    try simp only [Act.put, List.setIfInBounds_toArray, List.set_cons_zero, List.set_cons_succ]
    refine wpAnyH_take (i := 5) (oi := { dst := some 126, op := Op.load 3 (Operand.tmp 125), type := 3, pos := "law.go:88", after := #[{ on := 4, ground := Ground.data }], guard := none }) (v := ?vv87) rfl (by kernel_rfl) (by kernel_rfl) (by kernel_rfl) (fun _ _ _ h => h) ?hy87 (by assumption) ?rest87
    case hy87 => (refine Or.inl ⟨by rfl, ?_⟩; intro W hSw; (try dsimp only at hSw); go_simp; (try with_reducible rfl))
    try simp only [Act.put, List.setIfInBounds_toArray, List.set_cons_zero, List.set_cons_succ]
    refine wpAnyH_ready (rs := [1]) (by kernel_rfl) (by simp) ?_
    refine AllReadyH.cons (o := { dst := some 122, op := Op.call { callee := Callee.value (Operand.func 25), args := #[Operand.tmp 121], argTypes := #[23] }, type := 39, pos := "law.go:88", after := #[{ on := 0, ground := Ground.data }], guard := none }) rfl (fun K hK => ?step88) ?more88
    case more88 => exact AllReadyH.nil
    ((go_simp; go_at_call 25; refine (HBY.out _ (below_drew (Below.refl _ _))).mono ?_; rintro e w6 ⟨v6, rfl, ho6, hb6⟩; have HO6 := Lib.hid ho6.bis; have HB6 := Lib.hid (below_of_drew hb6); obtain ⟨A6, c6, rfl⟩ := ho6.len; clear ho6 hb6; go_wp2_with fail))
    refine hK.out _ _ ?hS88 (fun hHeld => ?rr88)
    case hS88 => (exact HKM.out _ HB6.out)
    clear hK K
    try simp only [Act.put, List.setIfInBounds_toArray, List.set_cons_zero, List.set_cons_succ]
    refine wpAnyH_ready (rs := [6]) (by kernel_rfl) (by simp) ?_
    refine AllReadyH.cons (o := { dst := some 127, op := Op.call { callee := Callee.value (Operand.func 12), args := #[Operand.tmp 122, Operand.tmp 126], argTypes := #[39, 3] }, type := 25, pos := "law.go:88", after := #[{ on := 1, ground := Ground.data }, { on := 5, ground := Ground.data }, { on := 1, ground := Ground.chain }], guard := none }) rfl (fun K hK => ?step89) ?more89
    case more89 => exact AllReadyH.nil
    ((go_simp; go_at_call 12; refine (HLD.out _ _ HB6.out HO6.out).mono ?_; rintro e w7 ⟨hb7, t, rfl, hs7⟩; have HB67 := Lib.hid hb7; have HB7 := Lib.hid (HB6.out.trans (hb7.mono HB6.out.size)); have HS7 := Lib.hid hs7; clear hb7 hs7; go_wp2_with fail))
    refine hK.out _ _ ?hS89 (fun hHeld => ?rr89)
    case hS89 => (exact HKM.out _ HB7.out)
    clear hK K
    try simp only [Act.put, List.setIfInBounds_toArray, List.set_cons_zero, List.set_cons_succ]
    refine wpAnyH_take (i := 7) (oi := { dst := some 120, op := Op.move (Operand.tmp 127), type := 25, pos := "law.go:88", after := #[{ on := 6, ground := Ground.data }], guard := none }) (v := ?vv90) rfl (by kernel_rfl) (by kernel_rfl) (by kernel_rfl) (fun _ _ _ h => h) ?hy90 (by assumption) ?rest90
    case hy90 => (refine Or.inl ⟨by rfl, ?_⟩; intro W hSw; (try dsimp only at hSw); go_simp; (try with_reducible rfl))
    try simp only [Act.put, List.setIfInBounds_toArray, List.set_cons_zero, List.set_cons_succ]
    refine wpAnyH_take (i := 8) (oi := { dst := some 128, op := Op.extract (Operand.tmp 120) 0, type := 23, pos := "law.go:88", after := #[{ on := 7, ground := Ground.data }], guard := none }) (v := ?vv91) rfl (by kernel_rfl) (by kernel_rfl) (by kernel_rfl) (fun _ _ _ h => h) ?hy91 (by assumption) ?rest91
    case hy91 => (refine Or.inl ⟨by rfl, ?_⟩; intro W hSw; (try dsimp only at hSw); go_simp; (try with_reducible rfl))
    try simp only [Act.put, List.setIfInBounds_toArray, List.set_cons_zero, List.set_cons_succ]
    refine wpAnyH_take (i := 9) (oi := { dst := some 129, op := Op.extract (Operand.tmp 120) 1, type := 24, pos := "law.go:88", after := #[{ on := 7, ground := Ground.data }, { on := 10, ground := Ground.gcOnly Departure.lateStores }], guard := none }) (v := ?vv92) rfl (by kernel_rfl) (by kernel_rfl) (by kernel_rfl) (fun _ _ _ h => h) ?hy92 (by assumption) ?rest92
    case hy92 => (refine Or.inl ⟨by rfl, ?_⟩; intro W hSw; (try dsimp only at hSw); go_simp; (try with_reducible rfl))
    try simp only [Act.put, List.setIfInBounds_toArray, List.set_cons_zero, List.set_cons_succ]
    refine wpAnyH_take (i := 10) (oi := { dst := some 15, op := Op.assign (Operand.tmp 128), type := 23, pos := "law.go:88", after := #[{ on := 8, ground := Ground.data }, { on := 6, ground := Ground.chain }, { on := 0, ground := Ground.phase }, { on := 1, ground := Ground.phase }, { on := 2, ground := Ground.phase }, { on := 3, ground := Ground.phase }, { on := 4, ground := Ground.phase }, { on := 5, ground := Ground.phase }, { on := 6, ground := Ground.phase }, { on := 7, ground := Ground.phase }, { on := 8, ground := Ground.phase }, { on := 9, ground := Ground.textOnly Departure.lateStores }], guard := none }) (v := ?vv93) rfl (by kernel_rfl) (by kernel_rfl) (by kernel_rfl) (fun _ _ _ h => h) ?hy93 (by assumption) ?rest93
    case hy93 => (refine Or.inl ⟨by rfl, ?_⟩; intro W hSw; (try dsimp only at hSw); go_simp; (try with_reducible rfl))
    try simp only [Act.put, List.setIfInBounds_toArray, List.set_cons_zero, List.set_cons_succ]
    refine wpAnyH_take (i := 11) (oi := { dst := some 16, op := Op.assign (Operand.tmp 129), type := 24, pos := "law.go:88", after := #[{ on := 9, ground := Ground.data }, { on := 10, ground := Ground.chain }, { on := 0, ground := Ground.phase }, { on := 1, ground := Ground.phase }, { on := 2, ground := Ground.phase }, { on := 3, ground := Ground.phase }, { on := 4, ground := Ground.phase }, { on := 5, ground := Ground.phase }, { on := 6, ground := Ground.phase }, { on := 7, ground := Ground.phase }, { on := 8, ground := Ground.phase }, { on := 9, ground := Ground.phase }, { on := 10, ground := Ground.phase }], guard := none }) (v := ?vv94) rfl (by kernel_rfl) (by kernel_rfl) (by kernel_rfl) (fun _ _ _ h => h) ?hy94 (by assumption) ?rest94
    case hy94 => (refine Or.inl ⟨by rfl, ?_⟩; intro W hSw; (try dsimp only at hSw); go_simp; (try with_reducible rfl))
    try simp only [Act.put, List.setIfInBounds_toArray, List.set_cons_zero, List.set_cons_succ]
    refine wpAnyH_done (by kernel_rfl) ?_ _
    dsimp only [onlyN]
    clear hHeld
    go_wp2_with fail
    refine bodyPost_ret (v := .tuple #[.pointer (some ⟨t, 0, none⟩), .bool true]) (by simp [results, Tryz.results9, go_sem]) rfl ?_
    exact ⟨t, P, rfl, ((HP5.out.keep HB6.out).other HB67.out HS7.out).less (fun k e => .inl e), HOK.out, HKW.out.trans (Keeps.below HB7.out)⟩
  · go_wp2_with fail
    refine bodyPost_ret (v := .tuple #[.pointer (some ⟨s, 0, none⟩), .bool true]) (by simp [results, Tryz.results9, go_sem]) rfl ?_
    exact ⟨s, P, rfl, HP5.out.less (fun k e => .inl e), HOK.out, HKW.out⟩
end Go.Proofs.YtkkembbeejlomaaGreatDoor
