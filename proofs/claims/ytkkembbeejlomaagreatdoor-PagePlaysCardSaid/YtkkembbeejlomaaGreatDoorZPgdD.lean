/- Rows and With, of rows wherever they lie. (PgbE's and PgbF's texts, with an offset.) -/
import Derived.Test.YtkkembbeejlomaaGreatDoorZPgdA
import Derived.Test.YtkkembbeejlomaaGreatDoorZTak
set_option linter.unusedSimpArgs false
set_option linter.unusedVariables false
set_option linter.unnecessarySimpa false
namespace Go.Proofs.YtkkembbeejlomaaGreatDoor
open Go.RowKit Go.Shelf Go.Sort Go.Lib

theorem RowOf.sl {w : World} {v : Value} {p : List Row} (h : RowOf w v p) : Sl w v p := by
  obtain ⟨A, c, rfl, h1, h2, h3, h4, h5⟩ := RowIs.form h
  cases A with
  | none =>
    obtain ⟨e1, e2⟩ := h3 rfl
    obtain rfl := List.length_eq_zero_iff.1 e1
    exact .inl ⟨none, c, rfl, h2, rfl, fun a e => by cases e⟩
  | some a =>
    obtain ⟨g, rfl, hg⟩ := h4 a rfl
    refine .inr ⟨g, 0, c, rfl, RowIs.lt h g hg, h1, h2, fun j x hj => ?_⟩
    obtain ⟨g', e, k⟩ := h5 j x hj
    injection e with e
    injection e with e
    subst e
    rw [Nat.zero_add]
    exact k
theorem Sl.cells {w : World} {v : Value} {p : List Row} (h : Sl w v p) {i : Nat} {r : Row} (hr : p[i]? = some r) : ∃ g o c, v = .slice (some ⟨g, o, none⟩) p.length c ∧ w.cell? ⟨g, o + i * 2, none⟩ = some (.string ⟨r.k.toArray⟩) ∧ w.cell? ⟨g, o + i * 2 + 1, none⟩ = some (.int .i64 r.n) := by
  obtain ⟨q1, q2⟩ := pgC_at hr
  rcases h with ⟨_, _, _, _, rfl, _⟩ | ⟨g, o, c, rfl, _, _, _, h3⟩
  · simp at hr
  · exact ⟨g, o, c, rfl, h3 _ _ q1, by rw [Nat.add_assoc]; exact h3 _ _ q2⟩
/-- A part of such rows. -/
theorem Sl.part {w : World} {g o c : Nat} {p : List Row} (h : Sl w (.slice (some ⟨g, o, none⟩) p.length c) p) (hne : p ≠ []) {lo hi : Nat} (h1 : lo ≤ hi) (h2 : hi ≤ p.length) : Sl w (.slice (some ⟨g, o + lo * 2, none⟩) (hi - lo) (c - lo)) ((p.take hi).drop lo) := by
  rcases h with ⟨_, _, _, _, e, _⟩ | ⟨g', o', c', e, hg, hc1, hc2, h3⟩
  · exact absurd e hne
  · injection e with e1 _ e3
    injection e1 with e1
    injection e1 with e1 e4
    subst e1 e3 e4
    have hl : ((p.take hi).drop lo).length = hi - lo := by rw [List.length_drop, List.length_take]; omega
    refine .inr ⟨g, o + lo * 2, c - lo, by rw [hl], hg, by rw [hl]; omega, by omega, fun j x hj => ?_⟩
    rw [← pgC_drop, ← pgC_take, List.getElem?_drop, List.getElem?_take] at hj
    split at hj
    · have := h3 _ _ hj
      rw [← Nat.add_assoc] at this
      exact this
    · cases hj
set_option maxRecDepth 100000 in
set_option maxHeartbeats 4000000 in
theorem SRows_any {w : World} {v u : Value} {p q : List Row} (h : Sl w v p) (h2 : Sl w u q) (hl : p.length ≤ 1000) (hl2 : q.length ≤ 1000) :
    Calls Tryz.prog 23 #[v, u] w fun e w' => e = .returned (.bool (decide (p = q))) ∧ Below w.heap.size w w' := by
  obtain ⟨A, c, rfl, hc1, hc2⟩ := Sl.form h
  obtain ⟨A2, c2, rfl, hd1, hd2⟩ := Sl.form h2
  unfold maxLen at hc2 hd2
  have hlI : (p.length : Int) ≤ 1000 := by omega
  have hlI2 : (q.length : Int) ≤ 1000 := by omega
  have H := Lib.hid h
  have H2 := Lib.hid h2
  clear h h2
  by_cases hne : p.length = q.length
  · obtain ⟨m, hm⟩ : ∃ m, p.length = m := ⟨_, rfl⟩
    have hm2 : q.length = m := hne.symm.trans hm
    rw [hm] at H hc1 hlI hl ⊢
    rw [hm2] at H2 hd1 ⊢
    have HM := Lib.hid hm
    have HM2 := Lib.hid hm2
    clear hm hm2 hne hl2 hlI2
    go_enter Tryz.func23, Tryz.ntmps23
    go_wp2_with fail
    go_loopw [13] (fun iv wr => ∃ i : Nat, i ≤ m ∧ iv = .int .i64 i ∧ (∀ j < i, p[j]? = q[j]?) ∧ Below w.heap.size w wr) (fun iv _ => m - (intOf iv).toNat)
    case atStart => exact ⟨0, Nat.zero_le _, rfl, fun j hj => by omega, Below.refl _ _⟩
    case round =>
      obtain ⟨i, hi, rfl, hsame, hbw⟩ := hrel
      have HB := Lib.hid hbw
      have HBD := Lib.hid (below_drew hbw)
      by_cases hlt : i < m
      · obtain ⟨r, hp⟩ : ∃ r, p[i]? = some r := ⟨_, List.getElem?_eq_getElem (by rw [HM.out]; exact hlt)⟩
        obtain ⟨r2, hq⟩ : ∃ r, q[i]? = some r := ⟨_, List.getElem?_eq_getElem (by rw [HM2.out]; exact hlt)⟩
        obtain ⟨g, o1, c', e, k1, k2⟩ := H.out.cells hp
        injection e with e1 e2 e3
        subst e1 e3
        clear e2
        obtain ⟨g2, o2, c2', e, l1, l2⟩ := H2.out.cells hq
        injection e with e1 e2 e3
        subst e1 e3
        clear e2
        replace k1 := (hbw.cell (World.block_lt_of_cell? _ _ k1)).trans k1
        replace k2 := (hbw.cell (World.block_lt_of_cell? _ _ k2)).trans k2
        replace l1 := (hbw.cell (World.block_lt_of_cell? _ _ l1)).trans l1
        replace l2 := (hbw.cell (World.block_lt_of_cell? _ _ l2)).trans l2
        clear hbw
        have hiI : (i : Int) < (m : Int) := by omega
        have HLT := Lib.hid hlt
        by_cases hk : r = r2
        · have HN : Hid (∀ j < i + 1, p[j]? = q[j]?) := Lib.hid (fun j hj => by
            by_cases hji : j = i
            · subst hji; rw [hp, hq, hk]
            · exact hsame j (by omega))
          subst hk
          clear hsame hp hq hlt
          go_wp2_with fail
          refine wp_only ?_
          refine wp_region_held_drew (S := fun W => W.cell? ⟨g, o1 + i * 2, none⟩ = some (.string ⟨r.k.toArray⟩) ∧ W.cell? ⟨g, o1 + i * 2 + 1, none⟩ = some (.int .i64 r.n) ∧ W.cell? ⟨g2, o2 + i * 2, none⟩ = some (.string ⟨r.k.toArray⟩) ∧ W.cell? ⟨g2, o2 + i * 2 + 1, none⟩ = some (.int .i64 r.n)) (by kernel_rfl) ⟨k1, k2, l1, l2⟩ (fun hHeld => ?_)
          refine wpAnyH_take (i := 0) (oi := { dst := some 16, op := Op.move (Operand.tmp 0), type := 40, pos := "ref.go:149", after := #[], guard := none }) (v := ?vv1) rfl (by kernel_rfl) (by kernel_rfl) (by kernel_rfl) (fun _ _ _ h => h) ?hy1 (by assumption) ?rest1
          case hy1 => (refine Or.inl ⟨by rfl, ?_⟩; intro W hSw; (try dsimp only at hSw); go_simp; (try with_reducible rfl))
          try simp only [Act.put, List.setIfInBounds_toArray, List.set_cons_zero, List.set_cons_succ]
          refine wpAnyH_take (i := 1) (oi := { dst := some 17, op := Op.move (Operand.tmp 5), type := 3, pos := "ref.go:149", after := #[], guard := none }) (v := ?vv2) rfl (by kernel_rfl) (by kernel_rfl) (by kernel_rfl) (fun _ _ _ h => h) ?hy2 (by assumption) ?rest2
          case hy2 => (refine Or.inl ⟨by rfl, ?_⟩; intro W hSw; (try dsimp only at hSw); go_simp; (try with_reducible rfl))
          try simp only [Act.put, List.setIfInBounds_toArray, List.set_cons_zero, List.set_cons_succ]
          refine wpAnyH_take (i := 2) (oi := { dst := some 18, op := Op.indexAddr 40 (Operand.tmp 16) (Operand.tmp 17), type := 0, pos := "ref.go:149", after := #[{ on := 0, ground := Ground.data }, { on := 1, ground := Ground.data }], guard := none }) (v := ?vv3) rfl (by kernel_rfl) (by kernel_rfl) (by kernel_rfl) (fun _ _ _ h => h) ?hy3 (by assumption) ?rest3
          case hy3 => (refine Or.inl ⟨by rfl, ?_⟩; intro W hSw; (try dsimp only at hSw); go_simp; (try with_reducible rfl))
          try simp only [Act.put, List.setIfInBounds_toArray, List.set_cons_zero, List.set_cons_succ]
          refine wpAnyH_take (i := 3) (oi := { dst := some 19, op := Op.load 42 (Operand.tmp 18), type := 42, pos := "ref.go:149", after := #[{ on := 2, ground := Ground.data }], guard := none }) (v := ?vv4) rfl (by kernel_rfl) (by kernel_rfl) (by kernel_rfl) (fun _ _ _ h => h) ?hy4 (by assumption) ?rest4
          case hy4 => (refine Or.inl ⟨by rfl, ?_⟩; intro W hSw; (try dsimp only at hSw); go_simp; (try with_reducible rfl))
          try simp only [Act.put, List.setIfInBounds_toArray, List.set_cons_zero, List.set_cons_succ]
          refine wpAnyH_take (i := 4) (oi := { dst := some 20, op := Op.move (Operand.tmp 1), type := 40, pos := "ref.go:149", after := #[], guard := none }) (v := ?vv5) rfl (by kernel_rfl) (by kernel_rfl) (by kernel_rfl) (fun _ _ _ h => h) ?hy5 (by assumption) ?rest5
          case hy5 => (refine Or.inl ⟨by rfl, ?_⟩; intro W hSw; (try dsimp only at hSw); go_simp; (try with_reducible rfl))
          try simp only [Act.put, List.setIfInBounds_toArray, List.set_cons_zero, List.set_cons_succ]
          refine wpAnyH_take (i := 5) (oi := { dst := some 21, op := Op.move (Operand.tmp 5), type := 3, pos := "ref.go:149", after := #[], guard := none }) (v := ?vv6) rfl (by kernel_rfl) (by kernel_rfl) (by kernel_rfl) (fun _ _ _ h => h) ?hy6 (by assumption) ?rest6
          case hy6 => (refine Or.inl ⟨by rfl, ?_⟩; intro W hSw; (try dsimp only at hSw); go_simp; (try with_reducible rfl))
          try simp only [Act.put, List.setIfInBounds_toArray, List.set_cons_zero, List.set_cons_succ]
          refine wpAnyH_take (i := 6) (oi := { dst := some 22, op := Op.indexAddr 40 (Operand.tmp 20) (Operand.tmp 21), type := 0, pos := "ref.go:149", after := #[{ on := 4, ground := Ground.data }, { on := 5, ground := Ground.data }], guard := none }) (v := ?vv7) rfl (by kernel_rfl) (by kernel_rfl) (by kernel_rfl) (fun _ _ _ h => h) ?hy7 (by assumption) ?rest7
          case hy7 => (refine Or.inl ⟨by rfl, ?_⟩; intro W hSw; (try dsimp only at hSw); go_simp; (try with_reducible rfl))
          try simp only [Act.put, List.setIfInBounds_toArray, List.set_cons_zero, List.set_cons_succ]
          refine wpAnyH_take (i := 7) (oi := { dst := some 23, op := Op.load 42 (Operand.tmp 22), type := 42, pos := "ref.go:149", after := #[{ on := 6, ground := Ground.data }], guard := none }) (v := ?vv8) rfl (by kernel_rfl) (by kernel_rfl) (by kernel_rfl) (fun _ _ _ h => h) ?hy8 (by assumption) ?rest8
          case hy8 => (refine Or.inl ⟨by rfl, ?_⟩; intro W hSw; (try dsimp only at hSw); go_simp; (try with_reducible rfl))
          try simp only [Act.put, List.setIfInBounds_toArray, List.set_cons_zero, List.set_cons_succ]
          refine wpAnyH_take (i := 8) (oi := { dst := some 24, op := Op.binOp BinOp.neq 42 (Operand.tmp 19) (Operand.tmp 23) 42, type := 4, pos := "ref.go:149", after := #[{ on := 3, ground := Ground.data }, { on := 7, ground := Ground.data }], guard := none }) (v := (.bool false)) rfl (by kernel_rfl) (by kernel_rfl) (by kernel_rfl) (fun _ _ _ h => h) ?hy9 (by assumption) ?rest9
          case hy9 => ((refine Or.inl ⟨by rfl, ?_⟩; intro W hSw; (try dsimp only at hSw); go_simp; (try with_reducible rfl)))
          try simp only [Act.put, List.setIfInBounds_toArray, List.set_cons_zero, List.set_cons_succ]
          refine wpAnyH_done (by kernel_rfl) ?_ _
          dsimp only [onlyN]
          clear hHeld
          go_wp2_with fail
          go_roundw
          case rel => exact ⟨i + 1, HLT.out, by go_num, HN.out, HBD.out⟩
          case measure => have := HLT.out; simp [intOf]; omega
        · have hpq : decide (p = q) = false := by
            simp only [decide_eq_false_iff_not]
            rintro rfl
            exact hk (Option.some.inj (hp.symm.trans hq))
          have HPQ := Lib.hid hpq
          clear hsame hp hq hlt hpq
          go_wp2_with fail
          refine wp_only ?_
          refine wp_region_held_drew (S := fun W => W.cell? ⟨g, o1 + i * 2, none⟩ = some (.string ⟨r.k.toArray⟩) ∧ W.cell? ⟨g, o1 + i * 2 + 1, none⟩ = some (.int .i64 r.n) ∧ W.cell? ⟨g2, o2 + i * 2, none⟩ = some (.string ⟨r2.k.toArray⟩) ∧ W.cell? ⟨g2, o2 + i * 2 + 1, none⟩ = some (.int .i64 r2.n)) (by kernel_rfl) ⟨k1, k2, l1, l2⟩ (fun hHeld => ?_)
          refine wpAnyH_take (i := 0) (oi := { dst := some 16, op := Op.move (Operand.tmp 0), type := 40, pos := "ref.go:149", after := #[], guard := none }) (v := ?vv10) rfl (by kernel_rfl) (by kernel_rfl) (by kernel_rfl) (fun _ _ _ h => h) ?hy10 (by assumption) ?rest10
          case hy10 => (refine Or.inl ⟨by rfl, ?_⟩; intro W hSw; (try dsimp only at hSw); go_simp; (try with_reducible rfl))
          try simp only [Act.put, List.setIfInBounds_toArray, List.set_cons_zero, List.set_cons_succ]
          refine wpAnyH_take (i := 1) (oi := { dst := some 17, op := Op.move (Operand.tmp 5), type := 3, pos := "ref.go:149", after := #[], guard := none }) (v := ?vv11) rfl (by kernel_rfl) (by kernel_rfl) (by kernel_rfl) (fun _ _ _ h => h) ?hy11 (by assumption) ?rest11
          case hy11 => (refine Or.inl ⟨by rfl, ?_⟩; intro W hSw; (try dsimp only at hSw); go_simp; (try with_reducible rfl))
          try simp only [Act.put, List.setIfInBounds_toArray, List.set_cons_zero, List.set_cons_succ]
          refine wpAnyH_take (i := 2) (oi := { dst := some 18, op := Op.indexAddr 40 (Operand.tmp 16) (Operand.tmp 17), type := 0, pos := "ref.go:149", after := #[{ on := 0, ground := Ground.data }, { on := 1, ground := Ground.data }], guard := none }) (v := ?vv12) rfl (by kernel_rfl) (by kernel_rfl) (by kernel_rfl) (fun _ _ _ h => h) ?hy12 (by assumption) ?rest12
          case hy12 => (refine Or.inl ⟨by rfl, ?_⟩; intro W hSw; (try dsimp only at hSw); go_simp; (try with_reducible rfl))
          try simp only [Act.put, List.setIfInBounds_toArray, List.set_cons_zero, List.set_cons_succ]
          refine wpAnyH_take (i := 3) (oi := { dst := some 19, op := Op.load 42 (Operand.tmp 18), type := 42, pos := "ref.go:149", after := #[{ on := 2, ground := Ground.data }], guard := none }) (v := ?vv13) rfl (by kernel_rfl) (by kernel_rfl) (by kernel_rfl) (fun _ _ _ h => h) ?hy13 (by assumption) ?rest13
          case hy13 => (refine Or.inl ⟨by rfl, ?_⟩; intro W hSw; (try dsimp only at hSw); go_simp; (try with_reducible rfl))
          try simp only [Act.put, List.setIfInBounds_toArray, List.set_cons_zero, List.set_cons_succ]
          refine wpAnyH_take (i := 4) (oi := { dst := some 20, op := Op.move (Operand.tmp 1), type := 40, pos := "ref.go:149", after := #[], guard := none }) (v := ?vv14) rfl (by kernel_rfl) (by kernel_rfl) (by kernel_rfl) (fun _ _ _ h => h) ?hy14 (by assumption) ?rest14
          case hy14 => (refine Or.inl ⟨by rfl, ?_⟩; intro W hSw; (try dsimp only at hSw); go_simp; (try with_reducible rfl))
          try simp only [Act.put, List.setIfInBounds_toArray, List.set_cons_zero, List.set_cons_succ]
          refine wpAnyH_take (i := 5) (oi := { dst := some 21, op := Op.move (Operand.tmp 5), type := 3, pos := "ref.go:149", after := #[], guard := none }) (v := ?vv15) rfl (by kernel_rfl) (by kernel_rfl) (by kernel_rfl) (fun _ _ _ h => h) ?hy15 (by assumption) ?rest15
          case hy15 => (refine Or.inl ⟨by rfl, ?_⟩; intro W hSw; (try dsimp only at hSw); go_simp; (try with_reducible rfl))
          try simp only [Act.put, List.setIfInBounds_toArray, List.set_cons_zero, List.set_cons_succ]
          refine wpAnyH_take (i := 6) (oi := { dst := some 22, op := Op.indexAddr 40 (Operand.tmp 20) (Operand.tmp 21), type := 0, pos := "ref.go:149", after := #[{ on := 4, ground := Ground.data }, { on := 5, ground := Ground.data }], guard := none }) (v := ?vv16) rfl (by kernel_rfl) (by kernel_rfl) (by kernel_rfl) (fun _ _ _ h => h) ?hy16 (by assumption) ?rest16
          case hy16 => (refine Or.inl ⟨by rfl, ?_⟩; intro W hSw; (try dsimp only at hSw); go_simp; (try with_reducible rfl))
          try simp only [Act.put, List.setIfInBounds_toArray, List.set_cons_zero, List.set_cons_succ]
          refine wpAnyH_take (i := 7) (oi := { dst := some 23, op := Op.load 42 (Operand.tmp 22), type := 42, pos := "ref.go:149", after := #[{ on := 6, ground := Ground.data }], guard := none }) (v := ?vv17) rfl (by kernel_rfl) (by kernel_rfl) (by kernel_rfl) (fun _ _ _ h => h) ?hy17 (by assumption) ?rest17
          case hy17 => (refine Or.inl ⟨by rfl, ?_⟩; intro W hSw; (try dsimp only at hSw); go_simp; (try with_reducible rfl))
          try simp only [Act.put, List.setIfInBounds_toArray, List.set_cons_zero, List.set_cons_succ]
          refine wpAnyH_take (i := 8) (oi := { dst := some 24, op := Op.binOp BinOp.neq 42 (Operand.tmp 19) (Operand.tmp 23) 42, type := 4, pos := "ref.go:149", after := #[{ on := 3, ground := Ground.data }, { on := 7, ground := Ground.data }], guard := none }) (v := (.bool true)) rfl (by kernel_rfl) (by kernel_rfl) (by kernel_rfl) (fun _ _ _ h => h) ?hy18 (by assumption) ?rest18
          case hy18 => ((refine Or.inl ⟨by rfl, ?_⟩; intro W hSw; (try dsimp only at hSw); go_simp; exact row_ne hk))
          try simp only [Act.put, List.setIfInBounds_toArray, List.set_cons_zero, List.set_cons_succ]
          refine wpAnyH_done (by kernel_rfl) ?_ _
          dsimp only [onlyN]
          clear hHeld
          go_wp2_with fail
          go_ret
          exact ⟨by rw [HPQ.out]; rfl, HBD.out⟩
      · obtain rfl : i = m := by omega
        have hpq : decide (p = q) = true := by
          simp only [decide_eq_true_eq]
          apply List.ext_getElem?
          intro j
          by_cases hj : j < i
          · exact hsame j hj
          · rw [List.getElem?_eq_none (by rw [HM.out]; omega), List.getElem?_eq_none (by rw [HM2.out]; omega)]
        have HPQ := Lib.hid hpq
        clear hsame hpq hbw
        go_wp2_with fail
        go_ret
        exact ⟨by rw [HPQ.out]; rfl, HB.out⟩
  · have hneI : ¬ (p.length : Int) = (q.length : Int) := by omega
    have hpq : (decide (p = q)) = false := by simp; rintro rfl; exact hne rfl
    rw [hpq]
    go_enter Tryz.func23, Tryz.ntmps23
    go_wp2_with fail
    go_ret
    exact ⟨by simp, Below.refl _ _⟩
set_option maxRecDepth 100000 in
set_option maxHeartbeats 8000000 in
theorem SWith_any {w : World} {v : Value} {p : List Row} (h : Sl w v p) (hl : p.length ≤ 1000) (k : K) (n : Int) (t : Bool) :
    Calls Tryz.prog 54 #[v, .agg #[strV k, .int .i64 n, .bool t]] w fun e w' => ∃ v', e = .returned v' ∧ RowsIs w' w.heap.size v' (withS k n t p) ∧ Below w.heap.size w w' := by
  obtain ⟨A, c, rfl, hc1, hc2⟩ := Sl.form h
  unfold maxLen at hc2
  have hlI : (p.length : Int) ≤ 1000 := by omega
  have H := Lib.hid h
  have hX1 := below_new (w := w) (.cells #[.string ⟨k.toArray⟩, .int .i64 n, .bool t] 98)
  have hXa := alloc_at w (.cells #[.string ⟨k.toArray⟩, .int .i64 n, .bool t] 98)
  obtain ⟨w1, hw1⟩ : ∃ w1, w1 = w.alloc (.cells #[.string ⟨k.toArray⟩, .int .i64 n, .bool t] 98) := ⟨_, rfl⟩
  have hsz : w1.heap.size = w.heap.size + 1 := by rw [hw1, asz]
  have HX1 : Hid (Below w.heap.size w w1) := Lib.hid (by rw [hw1]; exact hX1)
  have HX : Hid (∀ W, Below w1.heap.size w1 W → W.cell? ⟨w.heap.size, 0, none⟩ = some (.string ⟨k.toArray⟩) ∧ W.cell? ⟨w.heap.size, 1, none⟩ = some (.int .i64 n)) := Lib.hid (fun W hW => by
    have h0 : w1.cell? ⟨w.heap.size, 0, none⟩ = some (.string ⟨k.toArray⟩) := by rw [hw1]; exact cell_of hXa 0
    have h1 : w1.cell? ⟨w.heap.size, 1, none⟩ = some (.int .i64 n) := by rw [hw1]; exact cell_of hXa 1
    exact ⟨(hW.cell (World.block_lt_of_cell? _ _ h0)).trans h0, (hW.cell (World.block_lt_of_cell? _ _ h1)).trans h1⟩)
  have HSZ := Lib.hid hsz
  have HFIN : Hid (∀ W v', Below w1.heap.size w1 W → RowsIs W w1.heap.size v' (withS k n t p) → RowsIs W w.heap.size v' (withS k n t p) ∧ Below w.heap.size w W) := Lib.hid (fun W v' hb hr => ⟨⟨hr.1, fun b e => by have := hr.2 b e; omega⟩, HX1.out.trans (hb.mono (by omega))⟩)
  clear h hX1 hXa hsz
  unfold strV
  go_enter Tryz.func54, Tryz.ntmps54
  go_wp2_with fail
  rw [← hw1]
  clear hw1
  go_loopw [5, 6, 14] (fun ov bv iv wr => ∃ i : Nat, i ≤ p.length ∧ iv = .int .i64 i ∧ bv = .bool ((p.take i).foldl (stepW k n) ([], !t)).2 ∧ RowsIs wr w1.heap.size ov ((p.take i).foldl (stepW k n) ([], !t)).1 ∧ ((p.take i).foldl (stepW k n) ([], !t)).1.length ≤ 2 * i ∧ Below w1.heap.size w1 wr) (fun _ _ iv _ => p.length - (intOf iv).toNat)
  case atStart => exact ⟨0, Nat.zero_le _, rfl, rfl, ⟨RowIs.nil _ _, fun b e => by cases e⟩, Nat.zero_le _, Below.refl _ _⟩
  case round =>
    obtain ⟨i, hi, rfl, rfl, hrw, hol, hbw⟩ := hrel
    by_cases hlt : i < p.length
    · obtain ⟨r, hp⟩ : ∃ r, p[i]? = some r := ⟨_, List.getElem?_eq_getElem hlt⟩
      obtain ⟨g, o1, c', e, k1, k2⟩ := H.out.cells hp
      injection e with e1 e2 e3
      subst e1 e3
      clear e2
      have hbw0 := HX1.out.trans (hbw.mono HX1.out.size)
      replace k1 := (hbw0.cell (World.block_lt_of_cell? _ _ k1)).trans k1
      replace k2 := (hbw0.cell (World.block_lt_of_cell? _ _ k2)).trans k2
      have hiI : (i : Int) < (p.length : Int) := by omega
      have hT := fold_snoc (f := stepW k n) (a := (([], !t) : List Row × Bool)) hp
      obtain ⟨⟨o, inn⟩, hst⟩ : ∃ st, (p.take i).foldl (stepW k n) ([], !t) = st := ⟨_, rfl⟩
      rw [hst] at hT hrw hol ⊢
      simp only at hrw hol ⊢
      have hnl : ((p.take (i + 1)).foldl (stepW k n) ([], !t)).1.length ≤ 2 * (i + 1) := by
        rw [hT]
        have := stepW_len k n (o, inn) r
        simp only at this
        omega
      have HT := Lib.hid hT
      have HNL := Lib.hid hnl
      have HLT := Lib.hid hlt
      obtain ⟨Ao, co, rfl, _⟩ := hrw.1.form
      have hW1 := below_new (w := wr) (.cells #[.string ⟨r.k.toArray⟩, .int .i64 r.n] 42)
      have hat1 := alloc_at wr (.cells #[.string ⟨r.k.toArray⟩, .int .i64 r.n] 42)
      have hB1 := hbw.trans (hW1.mono hbw.size)
      have hR1 := hrw.below hW1
      have HB1 := Lib.hid hB1
      have HR1 := Lib.hid hR1
      have HNE : Hid (∀ g, (Value.slice Ao o.length co).ownBlock = some g → g ≠ wr.heap.size) := Lib.hid (fun g e => by have := RowIs.lt hrw.1 g e; omega)
      -- the literal of the row, behind
      have hW2 := below_new (w := wr.alloc (.cells #[.string ⟨r.k.toArray⟩, .int .i64 r.n] 42)) (.cells #[.string ⟨r.k.toArray⟩, .int .i64 r.n] 42)
      have hat2 := alloc_at (wr.alloc (.cells #[.string ⟨r.k.toArray⟩, .int .i64 r.n] 42)) (.cells #[.string ⟨r.k.toArray⟩, .int .i64 r.n] 42)
      rw [asz] at hat2
      have HR2 := Lib.hid (hR1.below hW2)
      have HB2 := Lib.hid (hB1.trans (hW2.mono hB1.size))
      have HS2 := Lib.hid (src_lit hat2)
      -- the literal of the new row, behind
      have hW3 := below_new (w := wr.alloc (.cells #[.string ⟨r.k.toArray⟩, .int .i64 r.n] 42)) (.cells #[.string ⟨k.toArray⟩, .int .i64 n] 42)
      have hat3 := alloc_at (wr.alloc (.cells #[.string ⟨r.k.toArray⟩, .int .i64 r.n] 42)) (.cells #[.string ⟨k.toArray⟩, .int .i64 n] 42)
      rw [asz] at hat3
      have HR3 := Lib.hid (hR1.below hW3)
      have HB3 := Lib.hid (hB1.trans (hW3.mono hB1.size))
      have HS3 := Lib.hid (src_lit hat3)
      have HC3 := Lib.hid (And.intro ((hW3.cell (p := ⟨wr.heap.size, 0, none⟩) (by rw [asz]; exact Nat.lt_succ_self _)).trans (cell_of hat1 0)) ((hW3.cell (p := ⟨wr.heap.size, 1, none⟩) (by rw [asz]; exact Nat.lt_succ_self _)).trans (cell_of hat1 1)))
      obtain ⟨x0, x1⟩ := HX.out _ hB1
      have hoI : (o.length : Int) ≤ 3000 := by omega
      have hol2 : o.length ≤ 3000 := by omega
      clear hT hnl hlt hrw hbw hbw0 hW1 hat1 hB1 hR1 hW2 hat2 hW3 hat3 hp hst hol
      have hgeq := bytesLess_eq r.k k
      cases inn with
      | true =>
        by_cases hk : r.k = k
        · have hkb : (r.k == k) = true := by simpa using hk
          have HST : Hid (stepW k n (o, true) r = (o, true)) := Lib.hid (by unfold stepW; simp [hk])
          clear hgeq hkb
          subst hk
          go_wp2_with fail
          go_roundw
          case rel => exact ⟨i + 1, HLT.out, by go_num, by rw [HT.out, HST.out], by rw [HT.out, HST.out]; exact HR1.out, HNL.out, HB1.out⟩
          case measure => have := HLT.out; simp [intOf]; omega
        · have hkb : (r.k == k) = false := by simpa using hk
          have HST : Hid (stepW k n (o, true) r = (o ++ [r], true)) := Lib.hid (by unfold stepW; simp [hk])
          clear hgeq
          go_wp2_with (at_builtin; refine wpList_append_row _ _ Tryz.underlying40 infoR rfl (by decide) (by decide) _ rfl _ _ 40 rfl o.length 1 (pgC o) [strV r.k, .int .i64 r.n] _ _ rfl rfl HR2.out.1 HS2.out ?_ ?_)
          all_goals first | omega | skip
          intro v' w' hrow hgrow hblk
          obtain ⟨h5, h6⟩ := push_rows (r := r) HR2.out HB2.out.size hrow hgrow (by rw [asz, asz]; exact hblk)
          have H5 := Lib.hid h5
          have H6 := Lib.hid (HB2.out.trans h6)
          obtain ⟨Av, cv, rfl, _⟩ := h5.1.form
          clear hrow hgrow hblk h5 h6
          go_wp2_with fail
          go_roundw
          case rel => exact ⟨i + 1, HLT.out, by go_num, by rw [HT.out, HST.out], by rw [HT.out, HST.out]; exact H5.out, HNL.out, H6.out⟩
          case measure => have := HLT.out; simp [intOf]; omega
      | false =>
        by_cases hl1 : r.k < k
        · have hk : ¬ r.k = k := fun e => by rw [e] at hl1; exact List.lt_irrefl _ hl1
          have hkb : (r.k == k) = false := by simpa using hk
          have hb1 : Op.bytesLess r.k k = true := by rw [hgeq]; simpa using hl1
          have HST : Hid (stepW k n (o, false) r = (o ++ [r], false)) := Lib.hid (by unfold stepW; simp [hk, hl1])
          clear hgeq
          go_wp2_with (at_builtin; refine wpList_append_row _ _ Tryz.underlying40 infoR rfl (by decide) (by decide) _ rfl _ _ 40 rfl o.length 1 (pgC o) [strV r.k, .int .i64 r.n] _ _ rfl rfl HR2.out.1 HS2.out ?_ ?_)
          all_goals first | omega | skip
          intro v' w' hrow hgrow hblk
          obtain ⟨h5, h6⟩ := push_rows (r := r) HR2.out HB2.out.size hrow hgrow (by rw [asz, asz]; exact hblk)
          have H5 := Lib.hid h5
          have H6 := Lib.hid (HB2.out.trans h6)
          obtain ⟨Av, cv, rfl, _⟩ := h5.1.form
          clear hrow hgrow hblk h5 h6
          go_wp2_with fail
          go_roundw
          case rel => exact ⟨i + 1, HLT.out, by go_num, by rw [HT.out, HST.out], by rw [HT.out, HST.out]; exact H5.out, HNL.out, H6.out⟩
          case measure => have := HLT.out; simp [intOf]; omega
        · have hb1 : Op.bytesLess r.k k = false := by rw [hgeq]; simpa using hl1
          clear hgeq
          go_wp2_with (at_builtin; refine wpList_append_row _ _ Tryz.underlying40 infoR rfl (by decide) (by decide) _ rfl _ _ 40 rfl o.length 1 (pgC o) [strV k, .int .i64 n] _ _ rfl rfl HR3.out.1 HS3.out ?_ ?_)
          all_goals first | omega | skip
          intro v' w' hrow hgrow hblk
          obtain ⟨h5, h6⟩ := push_rows (r := ⟨k, n⟩) HR3.out HB3.out.size hrow hgrow (by rw [asz, asz]; exact hblk)
          have y0 := kept_cell hgrow HNE.out HC3.out.1
          have y1 := kept_cell hgrow HNE.out HC3.out.2
          have hB5 := HB3.out.trans h6
          obtain ⟨x0, x1⟩ := HX.out _ hB5
          have H5 := Lib.hid h5
          have HB5 := Lib.hid hB5
          have hW7 := below_new (w := w') (.cells #[.string ⟨r.k.toArray⟩, .int .i64 r.n] 42)
          have hat7 := alloc_at w' (.cells #[.string ⟨r.k.toArray⟩, .int .i64 r.n] 42)
          have HR7 := Lib.hid (h5.below hW7)
          have HB7 := Lib.hid (hB5.trans (hW7.mono hB5.size))
          have HS7 := Lib.hid (src_lit hat7)
          obtain ⟨Av, cv, rfl, _⟩ := h5.1.form
          clear hrow hgrow hblk h5 h6 hB5 hW7 hat7
          have hol3 : (o ++ [(⟨k, n⟩ : Row)]).length = o.length + 1 := by simp
          by_cases hk : r.k = k
          · have hkb : (r.k == k) = true := by simpa using hk
            have HST : Hid (stepW k n (o, false) r = (o ++ [⟨k, n⟩], true)) := Lib.hid (by unfold stepW; simp [hk])
            clear hkb
            subst hk
            go_wp2_with fail
            go_roundw
            case rel => exact ⟨i + 1, HLT.out, by go_num, by rw [HT.out, HST.out], by rw [HT.out, HST.out]; exact H5.out, HNL.out, HB5.out⟩
            case measure => have := HLT.out; simp [intOf]; omega
          · have hkb : (r.k == k) = false := by simpa using hk
            have HST : Hid (stepW k n (o, false) r = (o ++ [⟨k, n⟩] ++ [r], true)) := Lib.hid (by unfold stepW; simp [hk, hl1])
            go_wp2_with (at_builtin; refine wpList_append_row _ _ Tryz.underlying40 infoR rfl (by decide) (by decide) _ rfl _ _ 40 rfl (o ++ [(⟨k, n⟩ : Row)]).length 1 (pgC (o ++ [(⟨k, n⟩ : Row)])) [strV r.k, .int .i64 r.n] _ _ rfl rfl HR7.out.1 HS7.out ?_ ?_)
            all_goals first | omega | skip
            intro v7 w7 hrow hgrow hblk
            obtain ⟨h5, h6⟩ := push_rows (r := r) (v' := v7) HR7.out HB7.out.size (by rw [hol3]; exact hrow) (by rw [hol3]; exact hgrow) (by rw [asz, hol3]; exact hblk)
            have H8 := Lib.hid h5
            have H9 := Lib.hid (HB7.out.trans h6)
            obtain ⟨Aw, cw, rfl, _⟩ := h5.1.form
            clear hrow hgrow hblk h5 h6
            go_wp2_with fail
            go_roundw
            case rel => exact ⟨i + 1, HLT.out, by go_num, by rw [HT.out, HST.out], by rw [HT.out, HST.out]; exact H8.out, HNL.out, H9.out⟩
            case measure => have := HLT.out; simp [intOf]; omega
    · obtain rfl : i = p.length := by omega
      rw [List.take_length] at hrw hol ⊢
      obtain ⟨⟨o, inn⟩, hst⟩ : ∃ st, p.foldl (stepW k n) ([], !t) = st := ⟨_, rfl⟩
      rw [hst] at hrw hol ⊢
      simp only at hrw hol ⊢
      have HFN : Hid (withS k n t p = o ++ if inn then [] else [⟨k, n⟩]) := Lib.hid (by unfold withS; rw [hst])
      obtain ⟨Ao, co, rfl, _⟩ := hrw.1.form
      obtain ⟨x0, x1⟩ := HX.out _ hbw
      have hoI : (o.length : Int) ≤ 3000 := by omega
      have hol2 : o.length ≤ 3000 := by omega
      cases inn with
      | true =>
        have HF := Lib.hid (HFIN.out _ _ hbw (by rw [HFN.out]; simpa using hrw))
        clear hrw hbw hst hol
        go_wp2_with fail
        go_ret
        exact ⟨_, rfl, HF.out⟩
      | false =>
        have hW3 := below_new (w := wr) (.cells #[.string ⟨k.toArray⟩, .int .i64 n] 42)
        have hat3 := alloc_at wr (.cells #[.string ⟨k.toArray⟩, .int .i64 n] 42)
        have HR3 := Lib.hid (hrw.below hW3)
        have HB3 := Lib.hid (hbw.trans (hW3.mono hbw.size))
        have HS3 := Lib.hid (src_lit hat3)
        clear hrw hbw hst hol hW3 hat3
        go_wp2_with (at_builtin; refine wpList_append_row _ _ Tryz.underlying40 infoR rfl (by decide) (by decide) _ rfl _ _ 40 rfl o.length 1 (pgC o) [strV k, .int .i64 n] _ _ rfl rfl HR3.out.1 HS3.out ?_ ?_)
        all_goals first | omega | skip
        intro v' w' hrow hgrow hblk
        obtain ⟨h5, h6⟩ := push_rows (r := ⟨k, n⟩) HR3.out HB3.out.size hrow hgrow (by rw [asz]; exact hblk)
        have HF := Lib.hid (HFIN.out _ _ (HB3.out.trans h6) (by rw [HFN.out]; exact h5))
        obtain ⟨Av, cv, rfl, _⟩ := h5.1.form
        clear hrow hgrow hblk h5 h6
        go_wp2_with fail
        go_ret
        exact ⟨_, rfl, HF.out⟩
end Go.Proofs.YtkkembbeejlomaaGreatDoor
