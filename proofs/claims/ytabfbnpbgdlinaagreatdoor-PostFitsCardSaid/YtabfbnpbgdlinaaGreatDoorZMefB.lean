/- The document's own Nums, and Same of operations (genmefa.py wrote it.) -/
import Derived.Test.YtabfbnpbgdlinaaGreatDoorZMefA
set_option linter.unusedSimpArgs false
set_option linter.unusedVariables false
set_option linter.unnecessarySimpa false
namespace Go.Proofs.YtabfbnpbgdlinaaGreatDoor
open Go.RowKit Go.Shelf

set_option maxRecDepth 100000 in
set_option maxHeartbeats 4000000 in
theorem rnums_eq {w : World} {v u : Value} {P Q : List Int} (h : NumsAt w v P) (h2 : NumsAt w u Q) :
    Calls Tryz.prog 68 #[v, u] w fun e w' => e = .returned (.bool (decide (P = Q))) ∧ Below w.heap.size w w' := by
  obtain ⟨A, c, rfl, hc1, hc2, hcl⟩ := h
  obtain ⟨A2, c2, rfl, hd1, hd2, hdl⟩ := h2
  unfold maxLen at hc2 hd2
  by_cases hne : P.length = Q.length
  · obtain ⟨m, hm⟩ : ∃ m, P.length = m := ⟨_, rfl⟩
    have hm2 : Q.length = m := hne.symm.trans hm
    rw [hm] at hc1 ⊢
    rw [hm2] at hd1 ⊢
    have hmb : m ≤ 9223372036854775807 := by omega
    have HM := Lib.hid hm
    have HM2 := Lib.hid hm2
    have HC := Lib.hid hcl
    have HD := Lib.hid hdl
    clear hm hm2 hne hcl hdl
    go_enter Tryz.func68, Tryz.ntmps68
    go_wp2_with fail
    go_loopw [13] (fun iv wr => ∃ i : Nat, i ≤ m ∧ iv = .int .i64 i ∧ (∀ j < i, P[j]? = Q[j]?) ∧ Below w.heap.size w wr) (fun iv _ => m - (intOf iv).toNat)
    case atStart => exact ⟨0, Nat.zero_le _, rfl, fun j hj => by omega, Below.refl _ _⟩
    case round =>
      obtain ⟨i, hi, rfl, hsame, hbw⟩ := hrel
      have HB := Lib.hid hbw
      by_cases hlt : i < m
      · obtain ⟨x, hx⟩ : ∃ r, P[i]? = some r := ⟨_, List.getElem?_eq_getElem (by rw [HM.out]; exact hlt)⟩
        obtain ⟨y, hy⟩ : ∃ r, Q[i]? = some r := ⟨_, List.getElem?_eq_getElem (by rw [HM2.out]; exact hlt)⟩
        obtain ⟨a, rfl, q1, k1⟩ := HC.out i x hx
        obtain ⟨a2, rfl, q2, l1⟩ := HD.out i y hy
        replace k1 := (hbw.cell (by rw [add_block]; exact q1)).trans k1
        replace l1 := (hbw.cell (by rw [add_block]; exact q2)).trans l1
        have HK : Hid (∀ W, Below wr.heap.size wr W → W.cell? (a.add i) = some (.int .i64 x) ∧ W.cell? (a2.add i) = some (.int .i64 y)) := Lib.hid (fun W hW => ⟨(hW.cell (World.block_lt_of_cell? _ _ k1)).trans k1, (hW.cell (World.block_lt_of_cell? _ _ l1)).trans l1⟩)
        have HLT := Lib.hid hlt
        have HSA := Lib.hid hsame
        have HXY := Lib.hid (And.intro hx hy)
        have hiI : (i : Int) < (m : Int) := by omega
        have hiB : (i : Int) ≤ 9223372036854775806 := by omega
        clear hx hy q1 q2 k1 l1 hlt hsame hbw hi
        by_cases hxy : x = y
        · subst hxy
          have HN : Hid (∀ j < i + 1, P[j]? = Q[j]?) := Lib.hid (fun j hj => by
            by_cases hji : j = i
            · subst hji; rw [HXY.out.1, HXY.out.2]
            · exact HSA.out j (by omega))
          go_wp2_with fail
          refine wp_only ?_
          refine wp_region_held_drew (S := fun W => W.cell? (a.add i) = some (.int .i64 x) ∧ W.cell? (a2.add i) = some (.int .i64 x)) (by kernel_rfl) (HK.out _ (below_drew (Below.refl _ _))) (fun hHeld => ?_)
          take_ops 0 1 2 3 4 5 6 7 8
          refine wpAnyH_done (by kernel_rfl) ?_ _
          clear hHeld
          dsimp only [onlyN]
          have HB2 := Lib.hid (below_drew HB.out)
          go_wp2_with fail
          go_roundw
          case rel => exact ⟨i + 1, HLT.out, by go_num, HN.out, HB2.out⟩
          case measure => have := HLT.out; simp [intOf]; omega
        · have hb : (x != y) = true := by simpa using hxy
          have HPN : Hid (decide (P = Q) = false) := Lib.hid (by
            simp only [decide_eq_false_iff_not]
            rintro rfl
            exact hxy (Option.some.inj (HXY.out.1.symm.trans HXY.out.2)))
          clear hxy
          go_wp2_with fail
          refine wp_only ?_
          refine wp_region_held_drew (S := fun W => W.cell? (a.add i) = some (.int .i64 x) ∧ W.cell? (a2.add i) = some (.int .i64 y)) (by kernel_rfl) (HK.out _ (below_drew (Below.refl _ _))) (fun hHeld => ?_)
          take_ops 0 1 2 3 4 5 6 7
          take_val 8 (.bool true) ((refine Or.inl ⟨by rfl, ?_⟩; intro W hSw; (try dsimp only at hSw); go_simp; (try with_reducible rfl)))
          refine wpAnyH_done (by kernel_rfl) ?_ _
          clear hHeld
          dsimp only [onlyN]
          have HB2 := Lib.hid (below_drew HB.out)
          go_wp2_with fail
          go_ret
          exact ⟨by rw [HPN.out]; rfl, HB2.out⟩
      · obtain rfl : i = m := by omega
        have hpq : decide (P = Q) = true := by
          simp only [decide_eq_true_eq]
          apply List.ext_getElem?
          intro j
          by_cases hj : j < i
          · exact hsame j hj
          · rw [List.getElem?_eq_none (by rw [HM.out]; omega), List.getElem?_eq_none (by rw [HM2.out]; omega)]
        have HPQ := Lib.hid hpq
        clear hsame hpq hbw
        go_wp2_with fail
        go_ret
        exact ⟨by rw [HPQ.out]; rfl, HB.out⟩
  · have hneI : ¬ (P.length : Int) = (Q.length : Int) := by omega
    have hneb : ((P.length : Int) != (Q.length : Int)) = true := by simpa using hneI
    have HPN : Hid (decide (P = Q) = false) := Lib.hid (by simp only [decide_eq_false_iff_not]; rintro rfl; exact hne rfl)
    clear hcl hdl hne
    go_enter Tryz.func68, Tryz.ntmps68
    go_wp2_with fail
    go_ret
    exact ⟨by rw [HPN.out]; rfl, Below.refl _ _⟩
set_option maxRecDepth 100000 in
set_option maxHeartbeats 4000000 in
theorem rops_eq {w : World} {v u : Value} {P Q : List OpV} (h : OpsAt w v P) (h2 : OpsAt w u Q) :
    Calls Tryz.prog 69 #[v, u] w fun e w' => e = .returned (.bool (decide (P = Q))) ∧ Below w.heap.size w w' := by
  obtain ⟨A, c, rfl, hc1, hc2, hcl⟩ := h.form
  obtain ⟨A2, c2, rfl, hd1, hd2, hdl⟩ := h2.form
  clear h h2
  unfold maxLen at hc2 hd2
  by_cases hne : P.length = Q.length
  · obtain ⟨m, hm⟩ : ∃ m, P.length = m := ⟨_, rfl⟩
    have hm2 : Q.length = m := hne.symm.trans hm
    rw [hm] at hc1 ⊢
    rw [hm2] at hd1 ⊢
    have hmb : m ≤ 9223372036854775807 := by omega
    have HM := Lib.hid hm
    have HM2 := Lib.hid hm2
    have HC := Lib.hid hcl
    have HD := Lib.hid hdl
    clear hm hm2 hne hcl hdl
    go_enter Tryz.func69, Tryz.ntmps69
    go_wp2_with fail
    go_loopw [13] (fun iv wr => ∃ i : Nat, i ≤ m ∧ iv = .int .i64 i ∧ (∀ j < i, P[j]? = Q[j]?) ∧ Below w.heap.size w wr) (fun iv _ => m - (intOf iv).toNat)
    case atStart => exact ⟨0, Nat.zero_le _, rfl, fun j hj => by omega, Below.refl _ _⟩
    case round =>
      obtain ⟨i, hi, rfl, hsame, hbw⟩ := hrel
      have HB := Lib.hid hbw
      by_cases hlt : i < m
      · obtain ⟨x, hx⟩ : ∃ r, P[i]? = some r := ⟨_, List.getElem?_eq_getElem (by rw [HM.out]; exact hlt)⟩
        obtain ⟨y, hy⟩ : ∃ r, Q[i]? = some r := ⟨_, List.getElem?_eq_getElem (by rw [HM2.out]; exact hlt)⟩
        obtain ⟨a, rfl, q1, k1, k2, k3, k4⟩ := HC.out i x hx
        obtain ⟨a2, rfl, q2, l1, l2, l3, l4⟩ := HD.out i y hy
        have r1 : (a.add (i * 4)).block < w.heap.size := by rw [add_block]; exact q1
        have r2 : (a2.add (i * 4)).block < w.heap.size := by rw [add_block]; exact q2
        have HK : Hid (∀ W, Below wr.heap.size wr W → W.cell? (a.add (i * 4)) = some (.int .i64 x.k) ∧ W.cell? ⟨(a.add (i * 4)).block, (a.add (i * 4)).off + 1, none⟩ = some (.string x.s) ∧ W.cell? ⟨(a.add (i * 4)).block, (a.add (i * 4)).off + 2, none⟩ = some (.int .i64 x.n) ∧ W.cell? ⟨(a.add (i * 4)).block, (a.add (i * 4)).off + 3, none⟩ = some (.int .i64 x.lo) ∧ W.cell? (a2.add (i * 4)) = some (.int .i64 y.k) ∧ W.cell? ⟨(a2.add (i * 4)).block, (a2.add (i * 4)).off + 1, none⟩ = some (.string y.s) ∧ W.cell? ⟨(a2.add (i * 4)).block, (a2.add (i * 4)).off + 2, none⟩ = some (.int .i64 y.n) ∧ W.cell? ⟨(a2.add (i * 4)).block, (a2.add (i * 4)).off + 3, none⟩ = some (.int .i64 y.lo)) := Lib.hid (fun W hW => by
          have hW2 := hbw.trans (hW.mono hbw.size)
          exact ⟨(hW2.cell r1).trans k1, (hW2.cell (p := ⟨(a.add (i * 4)).block, (a.add (i * 4)).off + 1, none⟩) r1).trans k2, (hW2.cell (p := ⟨(a.add (i * 4)).block, (a.add (i * 4)).off + 2, none⟩) r1).trans k3, (hW2.cell (p := ⟨(a.add (i * 4)).block, (a.add (i * 4)).off + 3, none⟩) r1).trans k4, (hW2.cell r2).trans l1, (hW2.cell (p := ⟨(a2.add (i * 4)).block, (a2.add (i * 4)).off + 1, none⟩) r2).trans l2, (hW2.cell (p := ⟨(a2.add (i * 4)).block, (a2.add (i * 4)).off + 2, none⟩) r2).trans l3, (hW2.cell (p := ⟨(a2.add (i * 4)).block, (a2.add (i * 4)).off + 3, none⟩) r2).trans l4⟩)
        have HLT := Lib.hid hlt
        have HSA := Lib.hid hsame
        have HXY := Lib.hid (And.intro hx hy)
        have hiI : (i : Int) < (m : Int) := by omega
        have hiB : (i : Int) ≤ 9223372036854775806 := by omega
        clear hx hy q1 q2 r1 r2 k1 k2 k3 k4 l1 l2 l3 l4 hlt hsame hbw hi
        by_cases hxy : x = y
        · subst hxy
          have HN : Hid (∀ j < i + 1, P[j]? = Q[j]?) := Lib.hid (fun j hj => by
            by_cases hji : j = i
            · subst hji; rw [HXY.out.1, HXY.out.2]
            · exact HSA.out j (by omega))
          go_wp2_with fail
          refine wp_only ?_
          refine wp_region_held_drew (S := fun W => W.cell? (a.add (i * 4)) = some (.int .i64 x.k) ∧ W.cell? ⟨(a.add (i * 4)).block, (a.add (i * 4)).off + 1, none⟩ = some (.string x.s) ∧ W.cell? ⟨(a.add (i * 4)).block, (a.add (i * 4)).off + 2, none⟩ = some (.int .i64 x.n) ∧ W.cell? ⟨(a.add (i * 4)).block, (a.add (i * 4)).off + 3, none⟩ = some (.int .i64 x.lo) ∧ W.cell? (a2.add (i * 4)) = some (.int .i64 x.k) ∧ W.cell? ⟨(a2.add (i * 4)).block, (a2.add (i * 4)).off + 1, none⟩ = some (.string x.s) ∧ W.cell? ⟨(a2.add (i * 4)).block, (a2.add (i * 4)).off + 2, none⟩ = some (.int .i64 x.n) ∧ W.cell? ⟨(a2.add (i * 4)).block, (a2.add (i * 4)).off + 3, none⟩ = some (.int .i64 x.lo)) (by kernel_rfl) (HK.out _ (below_drew (Below.refl _ _))) (fun hHeld => ?_)
          take_ops 0 1 2 3 4 5 6 7 8
          refine wpAnyH_done (by kernel_rfl) ?_ _
          clear hHeld
          dsimp only [onlyN]
          have HB2 := Lib.hid (below_drew HB.out)
          go_wp2_with fail
          go_roundw
          case rel => exact ⟨i + 1, HLT.out, by go_num, HN.out, HB2.out⟩
          case measure => have := HLT.out; simp [intOf]; omega
        · have HNQ := Lib.hid hxy
          have HPN : Hid (decide (P = Q) = false) := Lib.hid (by
            simp only [decide_eq_false_iff_not]
            rintro rfl
            exact hxy (Option.some.inj (HXY.out.1.symm.trans HXY.out.2)))
          clear hxy
          go_wp2_with fail
          refine wp_only ?_
          refine wp_region_held_drew (S := fun W => W.cell? (a.add (i * 4)) = some (.int .i64 x.k) ∧ W.cell? ⟨(a.add (i * 4)).block, (a.add (i * 4)).off + 1, none⟩ = some (.string x.s) ∧ W.cell? ⟨(a.add (i * 4)).block, (a.add (i * 4)).off + 2, none⟩ = some (.int .i64 x.n) ∧ W.cell? ⟨(a.add (i * 4)).block, (a.add (i * 4)).off + 3, none⟩ = some (.int .i64 x.lo) ∧ W.cell? (a2.add (i * 4)) = some (.int .i64 y.k) ∧ W.cell? ⟨(a2.add (i * 4)).block, (a2.add (i * 4)).off + 1, none⟩ = some (.string y.s) ∧ W.cell? ⟨(a2.add (i * 4)).block, (a2.add (i * 4)).off + 2, none⟩ = some (.int .i64 y.n) ∧ W.cell? ⟨(a2.add (i * 4)).block, (a2.add (i * 4)).off + 3, none⟩ = some (.int .i64 y.lo)) (by kernel_rfl) (HK.out _ (below_drew (Below.refl _ _))) (fun hHeld => ?_)
          take_ops 0 1 2 3 4 5 6 7
          take_val 8 (.bool true) ((refine Or.inl ⟨by rfl, ?_⟩; intro W hSw; (try dsimp only at hSw); go_simp; exact op_ne HNQ.out))
          refine wpAnyH_done (by kernel_rfl) ?_ _
          clear hHeld
          dsimp only [onlyN]
          have HB2 := Lib.hid (below_drew HB.out)
          go_wp2_with fail
          go_ret
          exact ⟨by rw [HPN.out]; rfl, HB2.out⟩
      · obtain rfl : i = m := by omega
        have hpq : decide (P = Q) = true := by
          simp only [decide_eq_true_eq]
          apply List.ext_getElem?
          intro j
          by_cases hj : j < i
          · exact hsame j hj
          · rw [List.getElem?_eq_none (by rw [HM.out]; omega), List.getElem?_eq_none (by rw [HM2.out]; omega)]
        have HPQ := Lib.hid hpq
        clear hsame hpq hbw
        go_wp2_with fail
        go_ret
        exact ⟨by rw [HPQ.out]; rfl, HB.out⟩
  · have hneI : ¬ (P.length : Int) = (Q.length : Int) := by omega
    have hneb : ((P.length : Int) != (Q.length : Int)) = true := by simpa using hneI
    have HPN : Hid (decide (P = Q) = false) := Lib.hid (by simp only [decide_eq_false_iff_not]; rintro rfl; exact hne rfl)
    clear hcl hdl hne
    go_enter Tryz.func69, Tryz.ntmps69
    go_wp2_with fail
    go_ret
    exact ⟨by rw [HPN.out]; rfl, Below.refl _ _⟩
end Go.Proofs.YtabfbnpbgdlinaaGreatDoor
