/- The document's own rows: With. -/
import Derived.Test.YtkkfgdibficifaaDoorZPgbE
set_option linter.unusedSimpArgs false
set_option linter.unusedVariables false
set_option linter.unnecessarySimpa false
namespace Go.Proofs.YtkkfgdibficifaaDoor
open Go.RowKit Go.Shelf Go.Sort Go.Lib

def stepW (k : K) (n : Int) (s : List Row × Bool) (r : Row) : List Row × Bool :=
  (s.1 ++ (if !s.2 && !decide (r.k < k) then [⟨k, n⟩] else []) ++ (if r.k = k then [] else [r]), s.2 || !decide (r.k < k))
def withS (k : K) (n : Int) (t : Bool) (p : List Row) : List Row :=
  (p.foldl (stepW k n) ([], !t)).1 ++ if (p.foldl (stepW k n) ([], !t)).2 then [] else [⟨k, n⟩]
theorem fold_snoc {α β : Type} {f : β → α → β} {a : β} {p : List α} {i : Nat} {r : α} (h : p[i]? = some r) : (p.take (i + 1)).foldl f a = f ((p.take i).foldl f a) r := by
  rw [List.take_add_one, h, List.foldl_append]
  rfl
theorem stepW_len (k : K) (n : Int) (s : List Row × Bool) (r : Row) : (stepW k n s r).1.length ≤ s.1.length + 2 := by
  unfold stepW
  simp only [List.length_append]
  split <;> split <;> simp <;> omega
theorem kept_cell {W W' : World} {v : Value} (hg : W.grownBy W' v.ownBlock) {b j : Nat} {u : Value} (hb : ∀ g, v.ownBlock = some g → g ≠ b) (h : W.cell? ⟨b, j, none⟩ = some u) : W'.cell? ⟨b, j, none⟩ = some u :=
  (World.cell?_of_block (a := ⟨b, j, none⟩) (hg.block b (World.block_lt_of_cell? _ _ h) (fun e => hb b e.symm rfl))).trans h
set_option maxRecDepth 100000 in
set_option maxHeartbeats 8000000 in
theorem With_any {w : World} {v : Value} {p : List Row} (h : RowOf w v p) (hl : p.length ≤ 1000) (k : K) (n : Int) (t : Bool) :
    Calls Tryd.prog 10 #[v, .agg #[strV k, .int .i64 n, .bool t]] w fun e w' => ∃ v', e = .returned v' ∧ RowsIs w' w.heap.size v' (withS k n t p) ∧ Below w.heap.size w w' := by
  obtain ⟨A, c, rfl, hc1, hc2, _⟩ := RowIs.form h
  unfold maxLen at hc2
  have hlI : (p.length : Int) ≤ 1000 := by omega
  have H := Lib.hid h
  have hX1 := below_new (w := w) (.cells #[.string ⟨k.toArray⟩, .int .i64 n, .bool t] 35)
  have hXa := alloc_at w (.cells #[.string ⟨k.toArray⟩, .int .i64 n, .bool t] 35)
  obtain ⟨w1, hw1⟩ : ∃ w1, w1 = w.alloc (.cells #[.string ⟨k.toArray⟩, .int .i64 n, .bool t] 35) := ⟨_, rfl⟩
  have hsz : w1.heap.size = w.heap.size + 1 := by rw [hw1, asz]
  have HX1 : Hid (Below w.heap.size w w1) := Lib.hid (by rw [hw1]; exact hX1)
  have HX : Hid (∀ W, Below w1.heap.size w1 W → W.cell? ⟨w.heap.size, 0, none⟩ = some (.string ⟨k.toArray⟩) ∧ W.cell? ⟨w.heap.size, 1, none⟩ = some (.int .i64 n)) := Lib.hid (fun W hW => by
    have h0 : w1.cell? ⟨w.heap.size, 0, none⟩ = some (.string ⟨k.toArray⟩) := by rw [hw1]; exact cell_of hXa 0
    have h1 : w1.cell? ⟨w.heap.size, 1, none⟩ = some (.int .i64 n) := by rw [hw1]; exact cell_of hXa 1
    exact ⟨(hW.cell (World.block_lt_of_cell? _ _ h0)).trans h0, (hW.cell (World.block_lt_of_cell? _ _ h1)).trans h1⟩)
  have HSZ := Lib.hid hsz
  have HFIN : Hid (∀ W v', Below w1.heap.size w1 W → RowsIs W w1.heap.size v' (withS k n t p) → RowsIs W w.heap.size v' (withS k n t p) ∧ Below w.heap.size w W) := Lib.hid (fun W v' hb hr => ⟨⟨hr.1, fun b e => by have := hr.2 b e; omega⟩, HX1.out.trans (hb.mono (by omega))⟩)
  clear h hX1 hXa hsz
  unfold strV
  go_enter Tryd.func10, Tryd.ntmps10
  go_wp2_with fail
  rw [← hw1]
  clear hw1
  go_loopw [5, 6, 14] (fun ov bv iv wr => ∃ i : Nat, i ≤ p.length ∧ iv = .int .i64 i ∧ bv = .bool ((p.take i).foldl (stepW k n) ([], !t)).2 ∧ RowsIs wr w1.heap.size ov ((p.take i).foldl (stepW k n) ([], !t)).1 ∧ ((p.take i).foldl (stepW k n) ([], !t)).1.length ≤ 2 * i ∧ Below w1.heap.size w1 wr) (fun _ _ iv _ => p.length - (intOf iv).toNat)
  case atStart => exact ⟨0, Nat.zero_le _, rfl, rfl, ⟨RowIs.nil _ _, fun b e => by cases e⟩, Nat.zero_le _, Below.refl _ _⟩
  case round =>
    obtain ⟨i, hi, rfl, rfl, hrw, hol, hbw⟩ := hrel
    by_cases hlt : i < p.length
    · obtain ⟨r, hp⟩ : ∃ r, p[i]? = some r := ⟨_, List.getElem?_eq_getElem hlt⟩
      obtain ⟨g, c', e, k1, k2, _, _⟩ := H.out.cells hp
      injection e with e1 e2 e3
      subst e1 e3
      clear e2
      have hbw0 := HX1.out.trans (hbw.mono HX1.out.size)
      replace k1 := (hbw0.cell (World.block_lt_of_cell? _ _ k1)).trans k1
      replace k2 := (hbw0.cell (World.block_lt_of_cell? _ _ k2)).trans k2
      have hiI : (i : Int) < (p.length : Int) := by omega
      have hT := fold_snoc (f := stepW k n) (a := (([], !t) : List Row × Bool)) hp
      obtain ⟨⟨o, inn⟩, hst⟩ : ∃ st, (p.take i).foldl (stepW k n) ([], !t) = st := ⟨_, rfl⟩
      rw [hst] at hT hrw hol ⊢
      simp only at hrw hol ⊢
      have hnl : ((p.take (i + 1)).foldl (stepW k n) ([], !t)).1.length ≤ 2 * (i + 1) := by
        rw [hT]
        have := stepW_len k n (o, inn) r
        simp only at this
        omega
      have HT := Lib.hid hT
      have HNL := Lib.hid hnl
      have HLT := Lib.hid hlt
      obtain ⟨Ao, co, rfl, _⟩ := hrw.1.form
      have hW1 := below_new (w := wr) (.cells #[.string ⟨r.k.toArray⟩, .int .i64 r.n] 52)
      have hat1 := alloc_at wr (.cells #[.string ⟨r.k.toArray⟩, .int .i64 r.n] 52)
      have hB1 := hbw.trans (hW1.mono hbw.size)
      have hR1 := hrw.below hW1
      have HB1 := Lib.hid hB1
      have HR1 := Lib.hid hR1
      have HNE : Hid (∀ g, (Value.slice Ao o.length co).ownBlock = some g → g ≠ wr.heap.size) := Lib.hid (fun g e => by have := RowIs.lt hrw.1 g e; omega)
      -- the literal of the row, behind
      have hW2 := below_new (w := wr.alloc (.cells #[.string ⟨r.k.toArray⟩, .int .i64 r.n] 52)) (.cells #[.string ⟨r.k.toArray⟩, .int .i64 r.n] 52)
      have hat2 := alloc_at (wr.alloc (.cells #[.string ⟨r.k.toArray⟩, .int .i64 r.n] 52)) (.cells #[.string ⟨r.k.toArray⟩, .int .i64 r.n] 52)
      rw [asz] at hat2
      have HR2 := Lib.hid (hR1.below hW2)
      have HB2 := Lib.hid (hB1.trans (hW2.mono hB1.size))
      have HS2 := Lib.hid (src_lit hat2)
      -- the literal of the new row, behind
      have hW3 := below_new (w := wr.alloc (.cells #[.string ⟨r.k.toArray⟩, .int .i64 r.n] 52)) (.cells #[.string ⟨k.toArray⟩, .int .i64 n] 52)
      have hat3 := alloc_at (wr.alloc (.cells #[.string ⟨r.k.toArray⟩, .int .i64 r.n] 52)) (.cells #[.string ⟨k.toArray⟩, .int .i64 n] 52)
      rw [asz] at hat3
      have HR3 := Lib.hid (hR1.below hW3)
      have HB3 := Lib.hid (hB1.trans (hW3.mono hB1.size))
      have HS3 := Lib.hid (src_lit hat3)
      have HC3 := Lib.hid (And.intro ((hW3.cell (p := ⟨wr.heap.size, 0, none⟩) (by rw [asz]; exact Nat.lt_succ_self _)).trans (cell_of hat1 0)) ((hW3.cell (p := ⟨wr.heap.size, 1, none⟩) (by rw [asz]; exact Nat.lt_succ_self _)).trans (cell_of hat1 1)))
      obtain ⟨x0, x1⟩ := HX.out _ hB1
      have hoI : (o.length : Int) ≤ 3000 := by omega
      have hol2 : o.length ≤ 3000 := by omega
      clear hT hnl hlt hrw hbw hbw0 hW1 hat1 hB1 hR1 hW2 hat2 hW3 hat3 hp hst hol
      have hgeq := bytesLess_eq r.k k
      cases inn with
      | true =>
        by_cases hk : r.k = k
        · have hkb : (r.k == k) = true := by simpa using hk
          have HST : Hid (stepW k n (o, true) r = (o, true)) := Lib.hid (by unfold stepW; simp [hk])
          clear hgeq hkb
          subst hk
          go_wp2_with fail
          go_roundw
          case rel => exact ⟨i + 1, HLT.out, by go_num, by rw [HT.out, HST.out], by rw [HT.out, HST.out]; exact HR1.out, HNL.out, HB1.out⟩
          case measure => have := HLT.out; simp [intOf]; omega
        · have hkb : (r.k == k) = false := by simpa using hk
          have HST : Hid (stepW k n (o, true) r = (o ++ [r], true)) := Lib.hid (by unfold stepW; simp [hk])
          clear hgeq
          go_wp2_with (at_builtin; refine wpList_append_row _ _ Tryd.underlying28 infoR rfl (by decide) (by decide) _ rfl _ _ 28 rfl o.length 1 (pgC o) [strV r.k, .int .i64 r.n] _ _ rfl rfl HR2.out.1 HS2.out ?_ ?_)
          all_goals first | omega | skip
          intro v' w' hrow hgrow hblk
          obtain ⟨h5, h6⟩ := push_rows (r := r) HR2.out HB2.out.size hrow hgrow (by rw [asz, asz]; exact hblk)
          have H5 := Lib.hid h5
          have H6 := Lib.hid (HB2.out.trans h6)
          obtain ⟨Av, cv, rfl, _⟩ := h5.1.form
          clear hrow hgrow hblk h5 h6
          go_wp2_with fail
          go_roundw
          case rel => exact ⟨i + 1, HLT.out, by go_num, by rw [HT.out, HST.out], by rw [HT.out, HST.out]; exact H5.out, HNL.out, H6.out⟩
          case measure => have := HLT.out; simp [intOf]; omega
      | false =>
        by_cases hl1 : r.k < k
        · have hk : ¬ r.k = k := fun e => by rw [e] at hl1; exact List.lt_irrefl _ hl1
          have hkb : (r.k == k) = false := by simpa using hk
          have hb1 : Op.bytesLess r.k k = true := by rw [hgeq]; simpa using hl1
          have HST : Hid (stepW k n (o, false) r = (o ++ [r], false)) := Lib.hid (by unfold stepW; simp [hk, hl1])
          clear hgeq
          go_wp2_with (at_builtin; refine wpList_append_row _ _ Tryd.underlying28 infoR rfl (by decide) (by decide) _ rfl _ _ 28 rfl o.length 1 (pgC o) [strV r.k, .int .i64 r.n] _ _ rfl rfl HR2.out.1 HS2.out ?_ ?_)
          all_goals first | omega | skip
          intro v' w' hrow hgrow hblk
          obtain ⟨h5, h6⟩ := push_rows (r := r) HR2.out HB2.out.size hrow hgrow (by rw [asz, asz]; exact hblk)
          have H5 := Lib.hid h5
          have H6 := Lib.hid (HB2.out.trans h6)
          obtain ⟨Av, cv, rfl, _⟩ := h5.1.form
          clear hrow hgrow hblk h5 h6
          go_wp2_with fail
          go_roundw
          case rel => exact ⟨i + 1, HLT.out, by go_num, by rw [HT.out, HST.out], by rw [HT.out, HST.out]; exact H5.out, HNL.out, H6.out⟩
          case measure => have := HLT.out; simp [intOf]; omega
        · have hb1 : Op.bytesLess r.k k = false := by rw [hgeq]; simpa using hl1
          clear hgeq
          go_wp2_with (at_builtin; refine wpList_append_row _ _ Tryd.underlying28 infoR rfl (by decide) (by decide) _ rfl _ _ 28 rfl o.length 1 (pgC o) [strV k, .int .i64 n] _ _ rfl rfl HR3.out.1 HS3.out ?_ ?_)
          all_goals first | omega | skip
          intro v' w' hrow hgrow hblk
          obtain ⟨h5, h6⟩ := push_rows (r := ⟨k, n⟩) HR3.out HB3.out.size hrow hgrow (by rw [asz, asz]; exact hblk)
          have y0 := kept_cell hgrow HNE.out HC3.out.1
          have y1 := kept_cell hgrow HNE.out HC3.out.2
          have hB5 := HB3.out.trans h6
          obtain ⟨x0, x1⟩ := HX.out _ hB5
          have H5 := Lib.hid h5
          have HB5 := Lib.hid hB5
          have hW7 := below_new (w := w') (.cells #[.string ⟨r.k.toArray⟩, .int .i64 r.n] 52)
          have hat7 := alloc_at w' (.cells #[.string ⟨r.k.toArray⟩, .int .i64 r.n] 52)
          have HR7 := Lib.hid (h5.below hW7)
          have HB7 := Lib.hid (hB5.trans (hW7.mono hB5.size))
          have HS7 := Lib.hid (src_lit hat7)
          obtain ⟨Av, cv, rfl, _⟩ := h5.1.form
          clear hrow hgrow hblk h5 h6 hB5 hW7 hat7
          have hol3 : (o ++ [(⟨k, n⟩ : Row)]).length = o.length + 1 := by simp
          by_cases hk : r.k = k
          · have hkb : (r.k == k) = true := by simpa using hk
            have HST : Hid (stepW k n (o, false) r = (o ++ [⟨k, n⟩], true)) := Lib.hid (by unfold stepW; simp [hk])
            clear hkb
            subst hk
            go_wp2_with fail
            go_roundw
            case rel => exact ⟨i + 1, HLT.out, by go_num, by rw [HT.out, HST.out], by rw [HT.out, HST.out]; exact H5.out, HNL.out, HB5.out⟩
            case measure => have := HLT.out; simp [intOf]; omega
          · have hkb : (r.k == k) = false := by simpa using hk
            have HST : Hid (stepW k n (o, false) r = (o ++ [⟨k, n⟩] ++ [r], true)) := Lib.hid (by unfold stepW; simp [hk, hl1])
            go_wp2_with (at_builtin; refine wpList_append_row _ _ Tryd.underlying28 infoR rfl (by decide) (by decide) _ rfl _ _ 28 rfl (o ++ [(⟨k, n⟩ : Row)]).length 1 (pgC (o ++ [(⟨k, n⟩ : Row)])) [strV r.k, .int .i64 r.n] _ _ rfl rfl HR7.out.1 HS7.out ?_ ?_)
            all_goals first | omega | skip
            intro v7 w7 hrow hgrow hblk
            obtain ⟨h5, h6⟩ := push_rows (r := r) (v' := v7) HR7.out HB7.out.size (by rw [hol3]; exact hrow) (by rw [hol3]; exact hgrow) (by rw [asz, hol3]; exact hblk)
            have H8 := Lib.hid h5
            have H9 := Lib.hid (HB7.out.trans h6)
            obtain ⟨Aw, cw, rfl, _⟩ := h5.1.form
            clear hrow hgrow hblk h5 h6
            go_wp2_with fail
            go_roundw
            case rel => exact ⟨i + 1, HLT.out, by go_num, by rw [HT.out, HST.out], by rw [HT.out, HST.out]; exact H8.out, HNL.out, H9.out⟩
            case measure => have := HLT.out; simp [intOf]; omega
    · obtain rfl : i = p.length := by omega
      rw [List.take_length] at hrw hol ⊢
      obtain ⟨⟨o, inn⟩, hst⟩ : ∃ st, p.foldl (stepW k n) ([], !t) = st := ⟨_, rfl⟩
      rw [hst] at hrw hol ⊢
      simp only at hrw hol ⊢
      have HFN : Hid (withS k n t p = o ++ if inn then [] else [⟨k, n⟩]) := Lib.hid (by unfold withS; rw [hst])
      obtain ⟨Ao, co, rfl, _⟩ := hrw.1.form
      obtain ⟨x0, x1⟩ := HX.out _ hbw
      have hoI : (o.length : Int) ≤ 3000 := by omega
      have hol2 : o.length ≤ 3000 := by omega
      cases inn with
      | true =>
        have HF := Lib.hid (HFIN.out _ _ hbw (by rw [HFN.out]; simpa using hrw))
        clear hrw hbw hst hol
        go_wp2_with fail
        go_ret
        exact ⟨_, rfl, HF.out⟩
      | false =>
        have hW3 := below_new (w := wr) (.cells #[.string ⟨k.toArray⟩, .int .i64 n] 52)
        have hat3 := alloc_at wr (.cells #[.string ⟨k.toArray⟩, .int .i64 n] 52)
        have HR3 := Lib.hid (hrw.below hW3)
        have HB3 := Lib.hid (hbw.trans (hW3.mono hbw.size))
        have HS3 := Lib.hid (src_lit hat3)
        clear hrw hbw hst hol hW3 hat3
        go_wp2_with (at_builtin; refine wpList_append_row _ _ Tryd.underlying28 infoR rfl (by decide) (by decide) _ rfl _ _ 28 rfl o.length 1 (pgC o) [strV k, .int .i64 n] _ _ rfl rfl HR3.out.1 HS3.out ?_ ?_)
        all_goals first | omega | skip
        intro v' w' hrow hgrow hblk
        obtain ⟨h5, h6⟩ := push_rows (r := ⟨k, n⟩) HR3.out HB3.out.size hrow hgrow (by rw [asz]; exact hblk)
        have HF := Lib.hid (HFIN.out _ _ (HB3.out.trans h6) (by rw [HFN.out]; exact h5))
        obtain ⟨Av, cv, rfl, _⟩ := h5.1.form
        clear hrow hgrow hblk h5 h6
        go_wp2_with fail
        go_ret
        exact ⟨_, rfl, HF.out⟩
end Go.Proofs.YtkkfgdibficifaaDoor
