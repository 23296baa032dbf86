/- Put, Get, New. -/
import Derived.Test.YtkkfgdibficifaaDoorZPagN
import Derived.Test.YtkkfgdibficifaaDoorZPagP
set_option linter.unusedSimpArgs false
set_option linter.unusedVariables false
set_option linter.unnecessarySimpa false
namespace Go.Proofs.YtkkfgdibficifaaDoor
open Go.RowKit Go.Shelf Go.Sort Go.Lib

theorem put_any {w : World} {s most : Nat} {v : Value} {L : List Pl} {P : List (List Row)} {x : Row} (h : St w s most v L P) (hF : Fine most P) (hx : x.k.length ≤ maxLen) :
    Calls Tryd.prog 22 #[.pointer (some ⟨s, 0, none⟩), .agg #[strV x.k, .int .i64 x.n]] w (PutPost w s most v L P x) := by
  by_cases h1 : 16 < x.k.length
  · exact put_long h h1 hx
  · cases ht : (findP P x.k).2.2 with
    | true => exact put_there h hF (by omega) ht
    | false =>
      by_cases h2 : 256 ≤ P.flatten.length
      · exact put_full h hF (by omega) ht h2
      · by_cases h3 : P = []
        · subst h3
          exact put_first h hF (by omega)
        · exact put_in h hF (by omega) ht (by omega) (List.length_pos_iff.2 h3)
theorem Glob.touch {S : Nat → Prop} {w w' : World} (h : Glob w) (ht : Touch S w w') (hg : ¬ S 1) : Glob w' := (World.cell?_of_block (a := ⟨1, 0, none⟩) (ht.block _ h.lt hg)).trans h
set_option maxRecDepth 100000 in
set_option maxHeartbeats 4000000 in
theorem Put_any {w : World} {s most : Nat} {v : Value} {L : List Pl} {P : List (List Row)} {k : K} {n : Int} (h : St w s most v L P) (hF : Fine most P) (hx : k.length ≤ maxLen) (hG : Glob w) (hgo : ¬ Owns s v L 1) :
    Calls Tryd.prog 9 #[.pointer (some ⟨s, 0, none⟩), strV k, .int .i64 n] w fun e w' => e = .returned (.int .i64 (putP most P ⟨k, n⟩).2) ∧ StPost w s most v L (putP most P ⟨k, n⟩).1 w' := by
  have HP := Lib.hid (put_any (x := ⟨k, n⟩) h hF hx)
  simp only [strV] at HP
  have HG := Lib.hid hG
  have HGO := Lib.hid hgo
  clear h hF hG hgo
  unfold strV
  go_enter Tryd.func9, Tryd.ntmps9
  go_wp2_with fail
  refine (HP.out).mono ?_
  rintro e w2 ⟨c, ev, rfl, he, hz, hc, hcode, hpost⟩
  obtain ⟨v2, L2, h3, h4, h5⟩ := id hpost
  have HCD := Lib.hid (code_any (HG.out.touch h4 HGO.out) he hz (by omega) (Below.refl _ w2))
  rw [hcode] at HCD
  have HPO := Lib.hid hpost
  obtain ⟨t, u, rfl⟩ | rfl : (∃ t u, ev = .iface t u) ∨ ev = .nilIface := by
    cases c with
    | nil => exact .inr he
    | cons x y => exact .inl he.form1
  all_goals
    clear h3 h4 h5 hpost he hz hcode HP
    go_wp2_with fail
    refine (HCD.out).mono ?_
    rintro e w3 ⟨rfl, hb3⟩
    have HPO2 := Lib.hid (HPO.out.after hb3)
    clear hb3 HCD
    go_wp2_with fail
    go_ret
    exact ⟨rfl, HPO2.out⟩
/-- Get, in plain words. -/
def getP (P : List (List Row)) (k : K) : Int × Bool := match findP P k with
  | (i, at_, true) => ((((P[i]?).getD [])[at_]?.map Row.n).getD 0, true)
  | (_, _, false) => (0, false)
set_option maxRecDepth 100000 in
set_option maxHeartbeats 4000000 in
theorem Get_any {w : World} {s most : Nat} {v : Value} {L : List Pl} {P : List (List Row)} {k : K} (h : St w s most v L P) (hF : Fine most P) :
    Calls Tryd.prog 15 #[.pointer (some ⟨s, 0, none⟩), strV k] w fun e w' => e = .returned (.tuple #[.int .i64 (getP P k).1, .bool (getP P k).2]) ∧ Below w.heap.size w w' := by
  have hfi := find_any (k := k) h hF
  simp only [strV] at hfi
  cases ht : (findP P k).2.2 with
  | false =>
    have hg : getP P k = (0, false) := by
      unfold getP
      generalize findP P k = f at ht
      obtain ⟨i, at_, t⟩ := f
      simp only at ht
      subst ht
      rfl
    rw [hg]
    rw [ht] at hfi
    have HFI := Lib.hid hfi
    generalize (findP P k).1 = i at HFI
    generalize (findP P k).2.1 = at_ at HFI
    clear hfi h hF hg ht
    unfold strV
    go_enter Tryd.func15, Tryd.ntmps15
    go_wp2_with fail
    refine (HFI.out).mono ?_
    rintro e w2 ⟨rfl, hb2⟩
    have HB2 := Lib.hid hb2
    clear hb2 HFI
    go_wp2_with fail
    refine bodyPost_ret (v := .tuple #[.int .i64 0, .bool false]) (by simp [results, Tryd.results15, go_sem]) rfl ?_
    exact ⟨rfl, HB2.out⟩
  | true =>
    have HP0 : ∃ i p, P[i]? = some p ∧ findP P k = (i, lowP p k, hasP p k) := by
      unfold findP at ht ⊢
      split
      · rename_i p hp
        exact ⟨_, p, hp, rfl⟩
      · rename_i hp
        rw [hp] at ht
        cases ht
    obtain ⟨i, p, hp, hfp⟩ := HP0
    rw [hfp] at hfi ht
    simp only at ht
    rw [ht] at hfi
    obtain ⟨r, hr, hrk⟩ := has_at ht
    have hg : getP P k = (r.n, true) := by
      unfold getP
      rw [hfp, ht]
      simp only [hp, Option.getD_some, hr, Option.map_some]
    rw [hg]
    obtain ⟨a, g, c, ha, hv, hc1, hc2, kc, hA, hac⟩ := row_page h hp
    have ks : w.cell? ⟨s, 1, none⟩ = some v := cell_of h.head 1
    rw [hv] at ks
    have kn : w.cell? ⟨a.g, a.o + lowP p k * 2 + 1, none⟩ = some (.int .i64 r.n) := by
      rw [Nat.add_assoc]
      exact hA.holds _ _ (pgC_at hr).2
    have hpl := (hF.page hp).2.2
    have hPl := hF.len
    have hil := (List.getElem?_eq_some_iff.1 hp).1
    have hal := (List.getElem?_eq_some_iff.1 hr).1
    have hmx := hA.max
    unfold maxLen at hc2 hmx
    have HFI := Lib.hid hfi
    generalize lowP p k = at_ at HFI kn hal
    have HC : Hid (∀ W, Below w.heap.size w W → W.cell? ⟨s, 1, none⟩ = some (.slice (some ⟨g, 0, none⟩) P.length c) ∧ W.cell? ⟨g, i, none⟩ = some (.slice (some ⟨a.g, a.o, none⟩) p.length a.cap) ∧ W.cell? ⟨a.g, a.o + at_ * 2 + 1, none⟩ = some (.int .i64 r.n)) := Lib.hid (fun W hW => ⟨(hW.cell (p := ⟨s, 1, none⟩) (World.block_lt_of_cell? _ _ ks)).trans ks, (hW.cell (p := ⟨g, i, none⟩) (World.block_lt_of_cell? _ _ kc)).trans kc, (hW.cell (p := ⟨a.g, a.o + at_ * 2 + 1, none⟩) (World.block_lt_of_cell? _ _ kn)).trans kn⟩)
    have hiI : (i : Int) < (P.length : Int) := by omega
    have hlP : (P.length : Int) ≤ 256 := by omega
    have haI : (at_ : Int) < (p.length : Int) := by omega
    have hlp : (p.length : Int) ≤ 64 := by omega
    clear hfi h hF hg ht ks kc kn hA hp ha hr hv
    unfold strV
    go_enter Tryd.func15, Tryd.ntmps15
    go_wp2_with fail
    refine (HFI.out).mono ?_
    rintro e w2 ⟨rfl, hb2⟩
    have HB2 := Lib.hid hb2
    obtain ⟨ks, kc, kn⟩ := HC.out _ hb2
    clear hb2 HFI
    go_wp2_with fail
    refine bodyPost_ret (v := .tuple #[.int .i64 r.n, .bool true]) (by simp [results, Tryd.results15, go_sem]) rfl ?_
    exact ⟨rfl, HB2.out⟩
/-! New. -/
set_option maxRecDepth 100000 in
set_option maxHeartbeats 4000000 in
theorem New_any {w : World} (hG : Glob w) {most : Nat} (hm : 2 ≤ most ∧ most ≤ 64) :
    Calls Tryd.prog 7 #[.int .i64 most] w fun e w' => ∃ s, e = .returned (.tuple #[.pointer (some ⟨s, 0, none⟩), .int .i64 0]) ∧ St w' s most (.slice none 0 0) [] [] ∧ Below w.heap.size w w' ∧ w.heap.size ≤ s := by
  have h1 : (2 : Int) ≤ (most : Int) := by omega
  have h2 : (most : Int) ≤ 64 := by omega
  have hb := below_new (w := w) (.cells #[.int .i64 most, .slice none 0 0] 63)
  have hst : St (w.alloc (.cells #[.int .i64 most, .slice none 0 0] 63)) w.heap.size most (.slice none 0 0) [] [] := by
    refine ⟨alloc_at w _, RowIs.nil _ _, rfl, ?_, ?_, List.Pairwise.nil, ?_⟩
    · intro i a p ha; simp at ha
    · intro a ha; cases ha
    · intro e; cases e
  have HE : Hid (Calls Tryd.prog 20 #[.int .i64 most] w fun e w' => e = .returned (.tuple #[.pointer (some ⟨w.heap.size, 0, none⟩), .nilIface]) ∧ w' = w.alloc (.cells #[.int .i64 most, .slice none 0 0] 63)) := Lib.hid (by
    clear hst hb hG
    go_enter Tryd.func20, Tryd.ntmps20
    go_wp2_with fail
    refine bodyPost_ret (v := .tuple #[.pointer (some ⟨w.heap.size, 0, none⟩), .nilIface]) (by simp [results, Tryd.results20, go_sem]) rfl ?_
    exact ⟨rfl, rfl⟩)
  have HCD := Lib.hid (fun W (hb2 : Below w.heap.size w W) => code_any (c := []) (v := .nilIface) hG rfl (fun e h => by cases h) (by simp) hb2)
  have HST := Lib.hid hst
  have HB := Lib.hid hb
  clear hst hb hG
  go_enter Tryd.func7, Tryd.ntmps7
  go_wp2_with fail
  refine (HE.out).mono ?_
  rintro e w2 ⟨rfl, rfl⟩
  go_wp2_with fail
  refine (HCD.out _ HB.out).mono ?_
  rintro e w3 ⟨rfl, hb3⟩
  have HS3 := Lib.hid (HST.out.below hb3)
  have HB3 := Lib.hid (HB.out.trans (hb3.mono HB.out.size))
  clear hb3
  go_wp2_with fail
  refine bodyPost_ret (v := .tuple #[.pointer (some ⟨w.heap.size, 0, none⟩), .int .i64 0]) (by simp [results, Tryd.results7, go_sem, codeOf]) rfl ?_
  exact ⟨w.heap.size, rfl, HS3.out, HB3.out, Nat.le_refl _⟩
end Go.Proofs.YtkkfgdibficifaaDoor
