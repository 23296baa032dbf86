/- What the document's own store does to a page. The document's own store in memory; its rows. (Only a seat with PagePlays or PageLoads can fill it.) The document's own store: a key's page. -/
import Derived.Test.YtkkembbeejlomaaGreatDoorZPgbE
set_option linter.unusedSimpArgs false
set_option linter.unusedVariables false
set_option linter.unnecessarySimpa false
namespace Go.Proofs.YtkkembbeejlomaaGreatDoor
open Go.RowKit Go.Shelf Go.Sort Go.Lib

theorem fine_one {p : List Row} (hp : Rise p) (hne : p ≠ []) (hl : p.length ≤ 64) : Fine 64 [p] :=
  ⟨fun q hq => by rw [List.mem_singleton.1 hq]; exact hne, fun q hq => by rw [List.mem_singleton.1 hq]; exact hl, by simpa using hp, by simp; omega, by omega⟩
theorem page_one {p : List Row} {k : K} : pageP [p] k = 0 := by
  have := above_le [p] k
  unfold pageP
  simp at this
  omega
theorem find_one {p : List Row} {k : K} : findP [p] k = (0, lowP p k, hasP p k) := by
  unfold findP
  rw [page_one]
  rfl
/-- With, in a page: the key's row is another one, or stands where it belongs. -/
theorem with_page {p : List Row} (hp : Rise p) (hne : p ≠ []) (hl : p.length ≤ 64) {k : K} {n : Int} (hk : k.length ≤ 16) :
    withS k n true p = if hasP p k then p.set (lowP p k) ⟨k, n⟩ else insAt p (lowP p k) ⟨k, n⟩ := by
  have h := (put_with (fine_one hp hne hl) (k := k) (n := n) hk (by simp; omega)).2.1
  have e : ([p] : List (List Row)).flatten = p := by simp
  rw [e] at h
  rw [← h]
  cases ht : hasP p k with
  | true =>
    have e2 : putP 64 [p] ⟨k, n⟩ = ([p.set (lowP p k) ⟨k, n⟩], 0) := by
      unfold putP
      rw [if_neg (show ¬ 16 < k.length by omega), find_one, ht]
      rfl
    rw [e2]
    simp
  | false =>
    have hnot := putP_not (most := 64) (P := [p]) (x := ⟨k, n⟩) hk (by rw [find_one, ht])
    rw [find_one] at hnot
    rw [hnot, if_neg (by rw [e]; omega), if_neg (by simp)]
    have hp0 : ([p] : List (List Row))[0]? = some p := rfl
    simp only [hp0, Option.getD_some]
    split
    · rw [flat_cut hp0]; simp
    · simp
theorem wout_page {p : List Row} (hp : Rise p) (hne : p ≠ []) (hl : p.length ≤ 64) {k : K} (ht : hasP p k = true) :
    withS k 0 false p = p.eraseIdx (lowP p k) := by
  have h := (del_with (fine_one hp hne hl) (k := k)).2.2.1
  have e : ([p] : List (List Row)).flatten = p := by simp
  rw [e] at h
  rw [← h]
  have e2 : delP 64 [p] k = (tidyP 64 [p.eraseIdx (lowP p k)] 0, true) := by
    unfold delP
    rw [find_one, ht]
    rfl
  rw [e2]
  have hs : (p.eraseIdx (lowP p k)).Sublist p := List.eraseIdx_sublist _ _
  have hle := hs.length_le
  have := (fine_tidy (most := 64) (P := [p.eraseIdx (lowP p k)]) (i := 0) rfl (fun j q hj hji => by
    cases j with
    | zero => exact absurd rfl hji
    | succ j => simp at hj) (fun q hq => by rw [List.mem_singleton.1 hq]; omega) (by
    rw [show ([p.eraseIdx (lowP p k)] : List (List Row)).flatten = p.eraseIdx (lowP p k) by simp]
    exact List.Pairwise.sublist hs hp) (by simp; omega) (by omega)).2
  rw [this]
  simp
/-- A store's pages with others in the place of one. -/
def swapP (P : List (List Row)) (a b : Nat) (l : List (List Row)) : List (List Row) := P.take a ++ l ++ P.drop b
theorem swap_one {P : List (List Row)} {i : Nat} {p q : List Row} (hp : P[i]? = some p) : swapP P i (i + 1) [q] = P.set i q := by
  rw [(set_split hp).2]
  simp [swapP]
theorem swap_none {P : List (List Row)} {i : Nat} : swapP P i (i + 1) [] = P.eraseIdx i := by
  rw [List.eraseIdx_eq_take_drop_succ]
  simp [swapP]
theorem swap_cut {P : List (List Row)} {i h : Nat} {p q : List Row} (hp : P[i]? = some p) : swapP P i (i + 1) [q.take h, q.drop h] = cutP (P.set i q) i h q := by
  rw [cut_split hp]
  simp [swapP]
theorem swap_join {P : List (List Row)} {j : Nat} {a b : List Row} (ha : P[j]? = some a) (hb : P[j + 1]? = some b) : swapP P j (j + 2) [a ++ b] = joinP P j := by
  rw [(join_split ha hb).2]
  simp [swapP]
/-- Put, as the document's own store does it. -/
theorem rput_eq {most : Nat} {P : List (List Row)} (hF : Fine most P) {k : K} {n : Int} (hk : k.length ≤ 16) (hP : P ≠ []) (h : (getR P.flatten k).2 = true ∨ P.flatten.length < 256) {p : List Row} (hp : P[pageP P k]? = some p) :
    putP most P ⟨k, n⟩ = (if most < (withS k n true p).length then swapP P (pageP P k) (pageP P k + 1) [(withS k n true p).take ((withS k n true p).length / 2), (withS k n true p).drop ((withS k n true p).length / 2)] else swapP P (pageP P k) (pageP P k + 1) [withS k n true p], 0) := by
  obtain ⟨hr, h1, h64⟩ := hF.page hp
  have hne : p ≠ [] := List.length_pos_iff.1 h1
  have hfull := hF.full p (List.mem_of_getElem? hp)
  rw [with_page hr hne h64 hk]
  have hf : findP P k = (pageP P k, lowP p k, hasP p k) := by unfold findP; rw [hp]
  cases ht : hasP p k with
  | true =>
    simp only [if_true]
    rw [if_neg (by rw [List.length_set]; omega), swap_one hp]
    unfold putP
    rw [if_neg (show ¬ 16 < k.length by omega)]
    show (match findP P k, (P[(findP P k).1]?).getD [] with
      | (i, at_, true), p => (P.set i (p.set at_ ⟨k, n⟩), (0 : Int))
      | (i, at_, false), p => _) = _
    rw [hf, ht]
    simp only [hp, Option.getD_some]
  | false =>
    have hlt : P.flatten.length < 256 := by
      rcases h with h | h
      · have h2 := (find_iff hF (k := k)).2 (getR_iff.1 h)
        rw [hf, ht] at h2
        cases h2
      · exact h
    have hnot := putP_not (most := most) (P := P) (x := ⟨k, n⟩) hk (by rw [hf, ht])
    rw [hf] at hnot
    rw [hnot, if_neg (by omega), if_neg hP]
    simp only [hp, Option.getD_some, Bool.false_eq_true, if_false]
    split
    · rw [swap_cut hp]
    · rw [swap_one hp]
/-- Del, as the document's own store does it. -/
theorem rdel_eq {most : Nat} {P : List (List Row)} (hF : Fine most P) {k : K} (h : (getR P.flatten k).2 = true) {p : List Row} (hp : P[pageP P k]? = some p) :
    delP most P k = (tidyP most (P.set (pageP P k) (withS k 0 false p)) (pageP P k), true) := by
  obtain ⟨hr, h1, h64⟩ := hF.page hp
  have hf : findP P k = (pageP P k, lowP p k, hasP p k) := by unfold findP; rw [hp]
  have h2 := (find_iff hF (k := k)).2 (getR_iff.1 h)
  rw [hf] at h2
  rw [wout_page hr (List.length_pos_iff.1 h1) h64 h2]
  unfold delP
  rw [hf]
  simp only at h2
  rw [h2]
  simp only [hp, Option.getD_some]
theorem rdel_not {most : Nat} {P : List (List Row)} (hF : Fine most P) {k : K} (h : (getR P.flatten k).2 = false) : delP most P k = (P, false) := by
  have ht : (findP P k).2.2 = false := by
    cases hc : (findP P k).2.2 with
    | false => rfl
    | true =>
      have := getR_iff.2 ((find_iff hF (k := k)).1 hc)
      rw [h] at this
      cases this
  unfold delP
  generalize findP P k = f at ht
  obtain ⟨i, at_, t⟩ := f
  simp only at ht
  subst ht
  rfl
theorem rput_not {most : Nat} {P : List (List Row)} (hF : Fine most P) {k : K} {n : Int} (hk : k.length ≤ 16) (h : (getR P.flatten k).2 = false) (hl : 256 ≤ P.flatten.length) : putP most P ⟨k, n⟩ = (P, 5) := by
  refine put_none hk ?_ hl
  cases hc : (findP P k).2.2 with
  | false => rfl
  | true =>
    have := getR_iff.2 ((find_iff hF (k := k)).1 hc)
    rw [h] at this
    cases this
/-- Get, of the rows. -/
theorem get_eq {most : Nat} {P : List (List Row)} (hF : Fine most P) {k : K} : getP P k = getR P.flatten k := by
  cases hc : (getR P.flatten k).2 with
  | false =>
    have ht : (findP P k).2.2 = false := by
      cases hd : (findP P k).2.2 with
      | false => rfl
      | true =>
        have := getR_iff.2 ((find_iff hF (k := k)).1 hd)
        rw [hc] at this
        cases this
    have e1 : getP P k = (0, false) := by
      unfold getP
      generalize findP P k = f at ht
      obtain ⟨i, at_, t⟩ := f
      simp only at ht
      subst ht
      rfl
    rw [e1]
    unfold getR at hc ⊢
    split at hc
    · cases hc
    · rfl
  | true =>
    obtain ⟨r, hr, e⟩ := getR_iff.1 hc
    have hP : P ≠ [] := fun e => by subst e; simp at hr
    obtain ⟨p, hp, hf, hrise, hfl⟩ := flat_at hF hP (k := k)
    have ht := (find_iff hF (k := k)).2 ⟨r, hr, e⟩
    rw [hf] at ht
    simp only at ht
    obtain ⟨y, hy, hyk⟩ := has_at ht
    have hym : y ∈ P.flatten := by
      rw [hfl]
      exact List.mem_append_right _ (List.mem_append_left _ (List.mem_of_getElem? hy))
    have e1 : getP P k = (y.n, true) := by
      unfold getP
      rw [hf, ht]
      simp only [hp, Option.getD_some, hy, Option.map_some]
    rw [e1]
    unfold getR
    cases hfd : P.flatten.find? (fun r => decide (r.k = k)) with
    | none =>
      have := List.find?_eq_none.1 hfd y hym
      simp [hyk] at this
    | some z =>
      have hz := List.mem_of_find?_eq_some hfd
      have hz2 := List.find?_some hfd
      simp only [decide_eq_true_eq] at hz2
      rw [rise_key hF.rise hz hym (hz2.trans hyk.symm)]
end Go.Proofs.YtkkembbeejlomaaGreatDoor

namespace Go.Proofs.YtkkembbeejlomaaGreatDoor
open Go.RowKit Go.Shelf Go.Sort Go.Lib

/-- A slice that reads as rows, wherever it lies. -/
def Sl (w : World) (u : Value) (p : List Row) : Prop := (∃ A c, u = .slice A 0 c ∧ c ≤ maxLen ∧ p = [] ∧ (∀ a, A = some a → a.block < w.heap.size)) ∨ ∃ g o c, u = .slice (some ⟨g, o, none⟩) p.length c ∧ g < w.heap.size ∧ p.length ≤ c ∧ c ≤ maxLen ∧ ∀ (j : Nat) (x : Value), (pgC p)[j]? = some x → w.cell? ⟨g, o + j, none⟩ = some x
theorem Sl.form {w : World} {u : Value} {p : List Row} (h : Sl w u p) : ∃ A c, u = .slice A p.length c ∧ p.length ≤ c ∧ c ≤ maxLen := by
  rcases h with ⟨A, c, rfl, h1, rfl, _⟩ | ⟨g, o, c, rfl, _, h1, h2, _⟩
  · exact ⟨A, c, rfl, Nat.zero_le _, h1⟩
  · exact ⟨_, c, rfl, h1, h2⟩
theorem Sl.below {w w' : World} {u : Value} {p : List Row} (h : Sl w u p) (hb : Below w.heap.size w w') : Sl w' u p := by
  rcases h with ⟨A, c, rfl, h1, rfl, h2⟩ | ⟨g, o, c, rfl, hg, h1, h2, h3⟩
  · exact .inl ⟨A, c, rfl, h1, rfl, fun a e => Nat.lt_of_lt_of_le (h2 a e) hb.size⟩
  · exact .inr ⟨g, o, c, rfl, Nat.lt_of_lt_of_le hg hb.size, h1, h2, fun j x hj => (hb.cell (p := ⟨g, o + j, none⟩) hg).trans (h3 j x hj)⟩
theorem Sl.src {w : World} {u : Value} {p : List Row} (h : Sl w u p) : Src Tryz.prog 2 40 u p.length (pgC p) w := by
  rcases h with ⟨A, c, rfl, h1, rfl, _⟩ | ⟨g, o, c, rfl, _, h1, h2, h3⟩
  · cases A with
    | none => exact Src.ofNil w Tryz.underlying40 c
    | some a => exact Src.ofSlice _ Tryz.underlying40 a 0 c [] rfl (fun j u hu => by simp at hu) (fun u hu => by cases hu)
  · refine Src.ofSlice _ Tryz.underlying40 ⟨g, o, none⟩ p.length c (pgC p) (by rw [pgC_len]) (fun j u hu => ?_) (pgC_one _)
    have hadd : (⟨g, o, none⟩ : Addr).add j = ⟨g, o + j, none⟩ := by unfold Addr.add; split <;> simp_all
    rw [hadd]
    exact h3 j u hu
/-- The document's own store. -/
structure RAt (w : World) (r : Nat) (most : Int) (v : Value) (us : List Value) (P : List (List Row)) : Prop where
  head : w.heap[r]? = some (.cells #[.int .i64 most, v] 31 (0, 0))
  row : RowIs w 1 v P.length us
  each : ∀ (i : Nat) (p : List Row), P[i]? = some p → ∃ u, us[i]? = some u ∧ Sl w u p
theorem RAt.below {w w' : World} {r : Nat} {most : Int} {v : Value} {us : List Value} {P : List (List Row)} (h : RAt w r most v us P) (hb : Below w.heap.size w w') : RAt w' r most v us P :=
  ⟨(hb.block r (heap_lt h.head)).trans h.head, RowIs.below h.row hb, fun i p hp => by
    obtain ⟨u, h1, h2⟩ := h.each i p hp
    exact ⟨u, h1, h2.below hb⟩⟩
set_option maxRecDepth 100000 in
set_option maxHeartbeats 4000000 in
theorem rrows_any {w : World} {r : Nat} {most : Int} {v : Value} {us : List Value} {P : List (List Row)} (h : RAt w r most v us P) (hl : P.length ≤ 1000) (hf : P.flatten.length ≤ 100000) :
    Calls Tryz.prog 21 #[.pointer (some ⟨r, 0, none⟩)] w fun e w' => ∃ v', e = .returned v' ∧ RowsIs w' w.heap.size v' P.flatten ∧ Below w.heap.size w w' := by
  obtain ⟨A, c, hv, hc1, hc2, _, _, hcell⟩ := h.row.form
  have ks : w.cell? ⟨r, 1, none⟩ = some v := cell_of h.head 1
  rw [hv] at ks
  unfold maxLen at hc2
  have hlI : (P.length : Int) ≤ 1000 := by omega
  have H := Lib.hid h
  have HCE := Lib.hid hcell
  obtain ⟨N, hN⟩ : ∃ N, P.flatten.length = N := ⟨_, rfl⟩
  have hfle : ∀ i, (P.take i).flatten.length ≤ N := fun i => by rw [← hN]; exact flat_le i
  have HFL := Lib.hid hfle
  rw [hN] at hf
  clear h hv hcell hfle hN
  go_enter Tryz.func21, Tryz.ntmps21
  go_wp2_with fail
  go_loopw [3, 11] (fun ov iv wr => ∃ i : Nat, i ≤ P.length ∧ iv = .int .i64 i ∧ RowsIs wr w.heap.size ov (P.take i).flatten ∧ Below w.heap.size w wr) (fun _ iv _ => P.length - (intOf iv).toNat)
  case atStart => exact ⟨0, Nat.zero_le _, rfl, ⟨RowIs.nil _ _, fun b e => by cases e⟩, Below.refl _ _⟩
  case round =>
    obtain ⟨i, hi, rfl, hrw, hbw⟩ := hrel
    by_cases hlt : i < P.length
    · obtain ⟨p, hp⟩ : ∃ p, P[i]? = some p := ⟨_, List.getElem?_eq_getElem hlt⟩
      obtain ⟨u, hu, hsl⟩ := H.out.each i p hp
      obtain ⟨g, rfl, k1⟩ := HCE.out i u hu
      obtain ⟨Au, cu, rfl, hcu1, hcu2⟩ := hsl.form
      replace k1 := (hbw.cell (World.block_lt_of_cell? _ _ k1)).trans k1
      have hiI : (i : Int) < (P.length : Int) := by omega
      have hT := flat_app hp
      have h2 := HFL.out (i + 1)
      rw [hT, List.length_append] at h2
      have HT := Lib.hid hT
      have HLT := Lib.hid hlt
      have HROW := Lib.hid hrw
      have HBW := Lib.hid hbw
      have HSRC := Lib.hid (hsl.below hbw).src
      obtain ⟨Al, cl, hlv, _⟩ := hrw.1.form
      subst hlv
      obtain ⟨acc, hacc⟩ : ∃ acc, (P.take i).flatten = acc := ⟨_, rfl⟩
      rw [hacc] at h2 HT HROW ⊢
      clear hrw hbw hT hlt hp hsl hu hacc
      go_wp2_with (at_builtin; refine wpList_append_row _ _ Tryz.underlying40 infoR rfl (by decide) (by decide) _ rfl _ _ 40 rfl acc.length p.length (pgC acc) (pgC p) _ _ rfl rfl HROW.out.1 HSRC.out ?_ ?_)
      all_goals first | omega | skip
      intro v' w' hrow hgrow hblk
      have hsz := HBW.out.size
      have H5 : Hid (RowsIs w' w.heap.size v' (P.take (i + 1)).flatten ∧ Below w.heap.size w w') := Lib.hid (by
        refine ⟨⟨by rw [HT.out, pgC_append, List.length_append]; exact hrow, fun b e => ?_⟩, HBW.out.trans (push_below hgrow HROW.out.2 hsz)⟩
        rcases hblk with h3 | h3
        · exact HROW.out.2 b (h3 ▸ e)
        · have : _ = b := Option.some.inj (h3.symm.trans e)
          omega)
      clear hrow hgrow hblk
      go_wp2_with fail
      go_roundw
      case rel => exact ⟨i + 1, HLT.out, by go_num, H5.out.1, H5.out.2⟩
      case measure => have := HLT.out; simp [intOf]; omega
    · obtain rfl : i = P.length := by omega
      rw [List.take_length] at hrw
      obtain ⟨q, hq⟩ : ∃ q, P.flatten = q := ⟨_, rfl⟩
      rw [hq] at hrw
      have HQ := Lib.hid hq
      obtain ⟨Al, cl, rfl, _⟩ := hrw.1.form
      have HF := Lib.hid (And.intro hrw hbw)
      clear hrw hbw hq
      go_wp2_with fail
      go_ret
      exact ⟨_, rfl, by rw [HQ.out]; exact HF.out.1, HF.out.2⟩
end Go.Proofs.YtkkembbeejlomaaGreatDoor

namespace Go.Proofs.YtkkembbeejlomaaGreatDoor
open Go.RowKit Go.Shelf Go.Sort Go.Lib

set_option maxRecDepth 100000 in
set_option maxHeartbeats 4000000 in
theorem rpage_any {w : World} {r most2 : Nat} {most : Int} {v : Value} {us : List Value} {P : List (List Row)} (h : RAt w r most v us P) (hF : Fine most2 P) (hP : P ≠ []) (k : K) :
    Calls Tryz.prog 53 #[.pointer (some ⟨r, 0, none⟩), strV k] w fun e w' => e = .returned (.int .i64 (pageP P k)) ∧ Below w.heap.size w w' := by
  obtain ⟨A, c, hv, hc1, hc2, _, _, hcell⟩ := h.row.form
  have ks : w.cell? ⟨r, 1, none⟩ = some v := cell_of h.head 1
  rw [hv] at ks
  unfold maxLen at hc2
  have hPl : 0 < P.length := List.length_pos_iff.2 hP
  have hlP := hF.len
  have hlI : (P.length : Int) ≤ 256 := by omega
  have hl0 : (0 : Int) < (P.length : Int) := by omega
  have hlw : IntKind.i64.wrap ((P.length : Int) - 1) = (P.length : Int) - 1 := IntWalk.i64_in _ (by omega)
  have H := Lib.hid h
  have HCE := Lib.hid hcell
  have HF := Lib.hid hF
  have HPP := Lib.hid (page_lt (k := k) hPl)
  have HPL := Lib.hid hPl
  have HAB := Lib.hid (fun j (hj : j < P.length) => above_iff hF (k := k) hj)
  clear h hv hcell hF hP
  unfold strV
  go_enter Tryz.func53, Tryz.ntmps53
  go_wp2_with fail
  go_loopw [5] (fun kv wr => ∃ j : Nat, j < P.length ∧ kv = .int .i64 j ∧ pageP P k ≤ j ∧ w = wr) (fun kv _ => (intOf kv).toNat)
  case atStart => exact ⟨P.length - 1, by omega, by congr 1; omega, by have := HPP.out; omega, rfl⟩
  case round =>
    obtain ⟨j, hj, rfl, hpj, rfl⟩ := hrel
    cases j with
    | zero =>
      have HE : Hid (pageP P k = 0) := Lib.hid (by omega)
      clear hpj
      go_wp2_with fail
      go_ret
      exact ⟨by rw [HE.out]; rfl, Below.refl _ _⟩
    | succ j =>
      obtain ⟨p, hp⟩ : ∃ p, P[j + 1]? = some p := ⟨_, List.getElem?_eq_getElem hj⟩
      obtain ⟨u, hu, hsl⟩ := H.out.each (j + 1) p hp
      obtain ⟨g, rfl, k1⟩ := HCE.out (j + 1) u hu
      obtain ⟨_, hp1, hp64⟩ := HF.out.page hp
      obtain ⟨x, t, rfl⟩ : ∃ x t, p = x :: t := by
        cases p with
        | nil => simp at hp1
        | cons x t => exact ⟨x, t, rfl⟩
      rcases hsl with ⟨_, _, _, _, e, _⟩ | ⟨g2, o2, c2, rfl, hg2, hc3, hc4, hc5⟩
      · cases e
      · have k2 := hc5 0 (strV x.k) rfl
        rw [Nat.add_zero] at k2
        unfold strV at k2
        unfold maxLen at hc4
        have hab := HAB.out (j + 1) hj
        have hah : aheadP P k (j + 1) = decide (k < x.k) := by unfold aheadP; rw [hp]
        rw [hah] at hab
        have hjI : ((j : Int) + 1) < (P.length : Int) := by omega
        have hj0 : (0 : Int) < (j : Int) + 1 := by omega
        have hlt : (0 : Int) < ((x :: t).length : Int) := by simp only [List.length_cons]; omega
        obtain ⟨np, hnp⟩ : ∃ np, (x :: t).length = np := ⟨_, rfl⟩
        rw [hnp] at hlt hc3 hp64
        have hnpI : (np : Int) ≤ 64 := by omega
        have hw : IntKind.i64.wrap ((j : Int) + 1 - 1) = (j : Int) := by rw [IntWalk.i64_in _ (by omega)]; omega
        by_cases hkx : k < x.k
        · have hb1 : Op.bytesLess x.k k = false := by
            rw [bytesLess_eq]
            simp only [decide_eq_false_iff_not]
            exact fun e => List.lt_irrefl _ (k_trans e hkx)
          have hb2 : (x.k == k) = false := by
            rw [beq_eq_false_iff_ne]
            intro e
            rw [e] at hkx
            exact List.lt_irrefl _ hkx
          have HN : Hid (j < P.length ∧ pageP P k ≤ j) := Lib.hid ⟨by omega, by
            have : ¬ j + 1 < aboveP P k := fun e => by
              have := hab.1 e
              simp [hkx] at this
            unfold pageP
            omega⟩
          clear hp hu hab hah hpj hkx hc5 hnp
          go_wp2_with fail
          go_roundw
          case rel => exact ⟨j, HN.out.1, by go_num, HN.out.2, trivial⟩
          case measure => simp [intOf]
        · have HE : Hid (pageP P k = j + 1) := Lib.hid (by
            have : j + 1 < aboveP P k := hab.2 (by simp [hkx])
            unfold pageP at hpj ⊢
            omega)
          rcases k_tri x.k k with hlt2 | heq | hgt
          · have hb1 : Op.bytesLess x.k k = true := by rw [bytesLess_eq]; simpa using hlt2
            clear hp hu hab hah hpj hkx hc5 hnp hlt2
            go_wp2_with fail
            go_ret
            exact ⟨by rw [HE.out]; simp, Below.refl _ _⟩
          · have hb1 : (x.k == k) = true := by simpa using heq
            clear hp hu hab hah hpj hkx hc5 hnp heq
            go_wp2_with fail
            go_ret
            exact ⟨by rw [HE.out]; simp, Below.refl _ _⟩
          · exact absurd hgt hkx
end Go.Proofs.YtkkembbeejlomaaGreatDoor
