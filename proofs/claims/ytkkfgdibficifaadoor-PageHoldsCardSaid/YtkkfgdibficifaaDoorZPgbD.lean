/- Scan. -/
import Derived.Test.YtkkfgdibficifaaDoorZPgbC
set_option linter.unusedSimpArgs false
set_option linter.unusedVariables false
set_option linter.unnecessarySimpa false
namespace Go.Proofs.YtkkfgdibficifaaDoor
open Go.RowKit Go.Shelf Go.Sort Go.Lib

/-- Rows as a slice. -/
def RowsIs (w : World) (B : Nat) (v : Value) (p : List Row) : Prop := RowIs w 2 v p.length (pgC p) ∧ ∀ b, v.ownBlock = some b → B ≤ b
theorem RowsIs.below {w w' : World} {B : Nat} {v : Value} {p : List Row} (h : RowsIs w B v p) (hb : Below w.heap.size w w') : RowsIs w' B v p := ⟨h.1.below hb, h.2⟩
set_option maxRecDepth 100000 in
set_option maxHeartbeats 4000000 in
theorem rows_any {w : World} {s most : Nat} {v : Value} {L : List Pl} {P : List (List Row)} (h : St w s most v L P) (hF : Fine most P) :
    Calls Tryd.prog 26 #[.pointer (some ⟨s, 0, none⟩)] w fun e w' => ∃ v', e = .returned v' ∧ RowsIs w' w.heap.size v' P.flatten ∧ Below w.heap.size w w' := by
  obtain ⟨A, c, hv, hc1, hc2, _⟩ := h.row.form
  have ks : w.cell? ⟨s, 1, none⟩ = some v := cell_of h.head 1
  have HC : Hid (Calls Tryd.prog 46 #[v] w fun e w' => ∃ v', e = .returned v' ∧ RowsIs w' w.heap.size v' P.flatten ∧ Below w.heap.size w w') := Lib.hid (by
    by_cases hP : P = []
    · subst hP
      rw [hv]
      refine (Concat_zero hc2).mono ?_
      rintro e w' ⟨rfl, hb⟩
      exact ⟨_, rfl, ⟨RowIs.nil _ _, fun b e => by cases e⟩, hb⟩
    · refine (Concat_all h hF hP).mono ?_
      rintro e w' ⟨G, hG, rfl, hA, hb⟩
      exact ⟨_, rfl, ⟨hA.row (by rw [pgC_len]) hG, fun b e => by have e : w.heap.size = b := Option.some.inj e; omega⟩, hb⟩)
  rw [hv] at ks HC
  unfold maxLen at hc2
  clear h hv hF
  generalize P.flatten = l at HC ⊢
  go_enter Tryd.func26, Tryd.ntmps26
  go_wp2_with fail
  refine (HC.out).mono ?_
  rintro e w2 ⟨v', rfl, hr, hb2⟩
  have HF := Lib.hid (And.intro hr hb2)
  obtain ⟨A', c', rfl, _⟩ := hr.1.form
  clear hr hb2 HC
  go_wp2_with fail
  go_ret
  exact ⟨_, rfl, HF.out.1, HF.out.2⟩
theorem push_below {W W' : World} {B : Nat} {v : Value} (hg : W.grownBy W' v.ownBlock) (hv : ∀ b, v.ownBlock = some b → B ≤ b) (hB : B ≤ W.heap.size) : Below B W W' :=
  (Touch.grown (S := fun k => B ≤ k) (Touch.refl _ _) hg (fun k e _ => hv k e)).below (fun _ e => e) hB
theorem pgC_snoc (p : List Row) (r : Row) : pgC (p ++ [r]) = pgC p ++ [strV r.k, .int .i64 r.n] := by rw [pgC_append]; rfl
/-- What an append of one row leaves. -/
theorem push_rows {W W' : World} {B : Nat} {v v' : Value} {p : List Row} {r : Row} (h : RowsIs W B v p) (hB : B ≤ W.heap.size) (h1 : RowIs W' 2 v' (p.length + 1) (pgC p ++ [strV r.k, .int .i64 r.n])) (h2 : W.grownBy W' v.ownBlock) (h3 : v'.ownBlock = v.ownBlock ∨ v'.ownBlock = some W.heap.size) : RowsIs W' B v' (p ++ [r]) ∧ Below B W W' := by
  refine ⟨⟨by rw [pgC_snoc, List.length_append]; exact h1, fun b e => ?_⟩, push_below h2 h.2 hB⟩
  rcases h3 with h3 | h3
  · exact h.2 b (h3 ▸ e)
  · have : W.heap.size = b := Option.some.inj (h3.symm.trans e)
    omega
theorem src_lit {w : World} {b : Nat} {k : K} {n : Int} (h : w.heap[b]? = some (.cells #[.string ⟨k.toArray⟩, .int .i64 n] 52 (0, 0))) : Src Tryd.prog 2 28 (.slice (some ⟨b, 0, none⟩) 1 1) 1 [strV k, .int .i64 n] w :=
  Src.ofSlice _ Tryd.underlying28 ⟨b, 0, none⟩ 1 1 [strV k, .int .i64 n] rfl (fun j u hu => by
    have hadd : (⟨b, 0, none⟩ : Addr).add j = ⟨b, j, none⟩ := by unfold Addr.add; split <;> simp_all
    rw [hadd, cell_of h j]
    simpa [strV] using hu) (fun u hu => by
    rcases List.mem_cons.1 hu with rfl | hu
    · rfl
    · rcases List.mem_cons.1 hu with rfl | hu
      · rfl
      · cases hu)
/-- The rows from a key on and below another one; an empty one is no end. -/
def scanR (a b : K) (r : Row) : Bool := !decide (r.k < a) && (decide (b = []) || decide (r.k < b))
set_option maxRecDepth 100000 in
set_option maxHeartbeats 4000000 in
theorem Scan_any {w : World} {s most : Nat} {v : Value} {L : List Pl} {P : List (List Row)} (h : St w s most v L P) (hF : Fine most P) (a b : K) :
    Calls Tryd.prog 14 #[.pointer (some ⟨s, 0, none⟩), strV a, strV b] w fun e w' => ∃ v', e = .returned v' ∧ RowsIs w' w.heap.size v' (P.flatten.filter (scanR a b)) ∧ Below w.heap.size w w' := by
  have HR := Lib.hid (rows_any h hF)
  obtain ⟨l, hl⟩ : ∃ l, P.flatten = l := ⟨_, rfl⟩
  have htot := hF.total
  rw [hl] at HR htot ⊢
  clear h hF hl
  unfold strV
  go_enter Tryd.func14, Tryd.ntmps14
  go_wp2_with fail
  refine (HR.out).mono ?_
  rintro e w2 ⟨v', rfl, hr, hb2⟩
  obtain ⟨A, c, rfl, hc1, hc2, _, _, hcell⟩ := hr.1.form
  have HR2 := Lib.hid hr
  have HB2 := Lib.hid hb2
  unfold maxLen at hc2
  have hlI : (l.length : Int) ≤ 256 := by omega
  clear hr hb2 HR
  go_wp2_with fail
  go_loopw [7, 13] (fun lv iv wr => ∃ i : Nat, i ≤ l.length ∧ iv = .int .i64 i ∧ RowsIs wr w2.heap.size lv ((l.take i).filter (scanR a b)) ∧ Below w2.heap.size w2 wr) (fun _ iv _ => l.length - (intOf iv).toNat)
  case atStart => exact ⟨0, Nat.zero_le _, rfl, ⟨RowIs.nil _ _, fun b e => by cases e⟩, Below.refl _ _⟩
  case round =>
    obtain ⟨i, hi, rfl, hrw, hbw⟩ := hrel
    by_cases hlt : i < l.length
    · have hp : l[i]? = some l[i] := List.getElem?_eq_getElem hlt
      generalize l[i] = r at hp
      obtain ⟨q1, q2⟩ := pgC_at hp
      obtain ⟨g, rfl, k1⟩ := hcell _ _ q1
      obtain ⟨_, e1, k2⟩ := hcell _ _ q2
      injection e1 with e1
      injection e1 with e1
      subst e1
      replace k1 := (hbw.cell (World.block_lt_of_cell? _ _ k1)).trans k1
      replace k2 := (hbw.cell (World.block_lt_of_cell? _ _ k2)).trans k2
      have hiI : (i : Int) < (l.length : Int) := by omega
      have hT : (l.take (i + 1)).filter (scanR a b) = (l.take i).filter (scanR a b) ++ if scanR a b r then [r] else [] := by
        rw [List.take_add_one, hp, List.filter_append]
        simp [List.filter_cons]
      have HT := Lib.hid hT
      have HLT := Lib.hid hlt
      have HRW := Lib.hid (And.intro hrw hbw)
      obtain ⟨Al, cl, hlv, _⟩ := hrw.1.form
      subst hlv
      unfold strV at k1
      have hfl : ((l.take i).filter (scanR a b)).length ≤ l.length := Nat.le_trans (List.length_filter_le ..) (by rw [List.length_take]; omega)
      generalize (l.take i).filter (scanR a b) = acc at HT HRW hfl ⊢
      clear hrw hbw hT hlt hp q1 q2
      have hW1 := below_new (w := wr) (.cells #[.string ⟨r.k.toArray⟩, .int .i64 r.n] 52)
      have HSKIP : Hid (scanR a b r = false → ∃ i' : Nat, i' ≤ l.length ∧ (Value.int .i64 ((i : Int) + 1)) = .int .i64 i' ∧ RowsIs (wr.alloc (.cells #[.string ⟨r.k.toArray⟩, .int .i64 r.n] 52)) w2.heap.size (.slice Al acc.length cl) ((l.take i').filter (scanR a b)) ∧ Below w2.heap.size w2 (wr.alloc (.cells #[.string ⟨r.k.toArray⟩, .int .i64 r.n] 52))) := Lib.hid (fun hq => ⟨i + 1, HLT.out, by simp, by rw [HT.out, hq]; simpa using HRW.out.1.below hW1, HRW.out.2.trans (hW1.mono HRW.out.2.size)⟩)
      have hW2 := below_new (w := wr.alloc (.cells #[.string ⟨r.k.toArray⟩, .int .i64 r.n] 52)) (.cells #[.string ⟨r.k.toArray⟩, .int .i64 r.n] 52)
      have hW12 := hW1.trans (hW2.mono hW1.size)
      have HROW := Lib.hid (HRW.out.1.below hW12)
      have HBW := Lib.hid (HRW.out.2.trans (hW12.mono HRW.out.2.size))
      have hat := alloc_at (wr.alloc (.cells #[.string ⟨r.k.toArray⟩, .int .i64 r.n] 52)) (.cells #[.string ⟨r.k.toArray⟩, .int .i64 r.n] 52)
      rw [asz] at hat
      have HSRC := Lib.hid (src_lit hat)
      clear hW1 hW2 hW12 hat HRW
      by_cases h1 : r.k < a
      · have hb1 : Op.bytesLess r.k a = true := by rw [bytesLess_eq]; simpa using h1
        have hq : scanR a b r = false := by unfold scanR; simp [h1]
        go_wp2_with fail
        go_roundw
        case rel => exact HSKIP.out hq
        case measure => have := HLT.out; simp [intOf]; omega
      · have hb1 : Op.bytesLess r.k a = false := by rw [bytesLess_eq]; simpa using h1
        by_cases h2 : b = [] ∨ r.k < b
        · have hq : scanR a b r = true := by unfold scanR; simp [h1, h2]
          have hacI : (acc.length : Int) ≤ 256 := by omega
          have hT2 : (l.take (i + 1)).filter (scanR a b) = acc ++ [r] := by rw [HT.out, hq]; rfl
          have HT2 := Lib.hid hT2
          clear HT HSKIP hT2 hq
          cases b with
          | nil =>
            go_wp2_with (at_builtin; refine wpList_append_row _ _ Tryd.underlying28 infoR rfl (by decide) (by decide) _ rfl _ _ 28 rfl acc.length 1 (pgC acc) [strV r.k, .int .i64 r.n] _ _ rfl rfl HROW.out.1 HSRC.out ?_ ?_)
            all_goals first | omega | skip
            intro v' w' hrow hgrow hblk
            obtain ⟨h5, h6⟩ := push_rows HROW.out HBW.out.size hrow hgrow (by rw [asz, asz]; exact hblk)
            have H5 := Lib.hid h5
            have H6 := Lib.hid (HBW.out.trans h6)
            clear hrow hgrow hblk h5 h6
            go_wp2_with fail
            go_roundw
            case rel => exact ⟨i + 1, HLT.out, by go_num, by rw [HT2.out]; exact H5.out, H6.out⟩
            case measure => have := HLT.out; simp [intOf]; omega
          | cons x t =>
            have hb2 : Op.bytesLess r.k (x :: t) = true := by
              rw [bytesLess_eq]
              rcases h2 with e | h2
              · cases e
              · simpa using h2
            go_wp2_with (at_builtin; refine wpList_append_row _ _ Tryd.underlying28 infoR rfl (by decide) (by decide) _ rfl _ _ 28 rfl acc.length 1 (pgC acc) [strV r.k, .int .i64 r.n] _ _ rfl rfl HROW.out.1 HSRC.out ?_ ?_)
            all_goals first | omega | skip
            intro v' w' hrow hgrow hblk
            obtain ⟨h5, h6⟩ := push_rows HROW.out HBW.out.size hrow hgrow (by rw [asz, asz]; exact hblk)
            have H5 := Lib.hid h5
            have H6 := Lib.hid (HBW.out.trans h6)
            clear hrow hgrow hblk h5 h6
            go_wp2_with fail
            go_roundw
            case rel => exact ⟨i + 1, HLT.out, by go_num, by rw [HT2.out]; exact H5.out, H6.out⟩
            case measure => have := HLT.out; simp [intOf]; omega
        · have hq : scanR a b r = false := by
            have h3 : b ≠ [] := fun e => h2 (.inl e)
            have h4 : ¬ r.k < b := fun e => h2 (.inr e)
            unfold scanR
            simp [h3, h4]
          obtain ⟨x, t, rfl⟩ : ∃ x t, b = x :: t := by
            cases b with
            | nil => exact absurd (.inl rfl) h2
            | cons x t => exact ⟨x, t, rfl⟩
          have hb2 : Op.bytesLess r.k (x :: t) = false := by
            rw [bytesLess_eq]
            have h4 : ¬ r.k < x :: t := fun e => h2 (.inr e)
            simpa using h4
          go_wp2_with fail
          go_roundw
          case rel => exact HSKIP.out hq
          case measure => have := HLT.out; simp [intOf]; omega
    · obtain rfl : i = l.length := by omega
      rw [List.take_length] at hrw
      obtain ⟨Al, cl, rfl, _⟩ := hrw.1.form
      have HF := Lib.hid (And.intro hrw hbw)
      clear hrw hbw
      go_wp2_with fail
      go_ret
      exact ⟨_, rfl, ⟨HF.out.1.1, fun b e => Nat.le_trans HB2.out.size (HF.out.1.2 b e)⟩, HB2.out.trans (HF.out.2.mono HB2.out.size)⟩
end Go.Proofs.YtkkfgdibficifaaDoor
