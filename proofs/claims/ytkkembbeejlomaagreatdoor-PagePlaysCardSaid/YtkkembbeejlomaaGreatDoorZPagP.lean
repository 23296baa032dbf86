/- Put in plain words: what a store holds stays sorted. Put, Get, New. -/
import Derived.Test.YtkkembbeejlomaaGreatDoorZPagM
import Derived.Test.YtkkembbeejlomaaGreatDoorZPagN
set_option linter.unusedSimpArgs false
set_option linter.unusedVariables false
set_option linter.unnecessarySimpa false
namespace Go.Proofs.YtkkembbeejlomaaGreatDoor
open Go.RowKit Go.Shelf Go.Sort Go.Lib

theorem k_tri (a b : K) : a < b ∨ a = b ∨ b < a := by
  by_cases h1 : a < b
  · exact .inl h1
  · by_cases h2 : b < a
    · exact .inr (.inr h2)
    · exact .inr (.inl (List.le_antisymm (List.not_lt.1 h2) (List.not_lt.1 h1)))
theorem k_lt_le {a b c : K} (h : a < b) (h2 : ¬ c < b) : a < c := by
  rcases k_tri b c with h3 | h3 | h3
  · exact k_trans h h3
  · exact h3 ▸ h
  · exact absurd h3 h2
theorem count_mono {q : Nat → Bool} (n : Nat) (h : ∀ a b, a ≤ b → b < n → q b = true → q a = true) : ∀ j, j < n → (j < (List.range n).countP q ↔ q j = true) := by
  induction n with
  | zero => intro j hj; omega
  | succ n ih =>
    intro j hj
    rw [List.range_succ, List.countP_append, List.countP_singleton]
    have hle := List.countP_le_length (p := q) (l := List.range n)
    rw [List.length_range] at hle
    have ih := ih (fun a b hab hb hq => h a b hab (by omega) hq)
    by_cases hq : q n = true
    · rw [if_pos hq]
      have hall : (List.range n).countP q = n := by
        have : ∀ a ∈ List.range n, q a = true := fun a ha => h a n (by have := List.mem_range.1 ha; omega) (by omega) hq
        rw [List.countP_eq_length.2 this, List.length_range]
      rw [hall]
      exact ⟨fun _ => h j n (by omega) (by omega) hq, fun _ => hj⟩
    · rw [if_neg hq]
      rcases Nat.lt_or_eq_of_le (Nat.le_of_lt_succ hj) with h1 | rfl
      · rw [Nat.add_zero]; exact ih j h1
      · exact ⟨fun e => by omega, fun e => absurd e hq⟩
theorem above_iff {most : Nat} {P : List (List Row)} (hF : Fine most P) {k : K} {j : Nat} (hj : j < P.length) : j < aboveP P k ↔ aheadP P k j = false := by
  unfold aboveP
  rw [count_mono P.length (fun a b hab hb hq => ?_) j hj]
  · simp
  · simp only [Bool.not_eq_true'] at hq ⊢
    cases ha : aheadP P k a with
    | false => rfl
    | true => rw [over_mono hF a b hab hb ha] at hq; cases hq
/-- What stands ahead of a key's page is below the key, what stands behind it is above. -/
theorem page_split {most : Nat} {P : List (List Row)} (hF : Fine most P) {k : K} : (∀ r ∈ (P.take (pageP P k)).flatten, r.k < k) ∧ ∀ r ∈ (P.drop (pageP P k + 1)).flatten, k < r.k := by
  constructor
  · intro r hr
    obtain ⟨q, hq, hrq⟩ := List.mem_flatten.1 hr
    obtain ⟨j, hj⟩ := List.getElem?_of_mem hq
    have hjl := (List.getElem?_eq_some_iff.1 hj).1
    rw [List.length_take] at hjl
    rw [List.getElem?_take_of_lt (by omega)] at hj
    have hi : pageP P k < P.length := page_lt (by omega)
    have hp : P[pageP P k]? = some P[pageP P k] := List.getElem?_eq_getElem hi
    have hna : aheadP P k (pageP P k) = false := (above_iff hF hi).1 (by unfold pageP at hjl ⊢; omega)
    generalize P[pageP P k] = p at hp
    obtain ⟨_, hp1, _⟩ := hF.page hp
    unfold aheadP at hna
    rw [hp] at hna
    cases p with
    | nil => simp at hp1
    | cons x p =>
      have hxk : ¬ k < x.k := by simpa using hna
      have := hF.firsts (by omega) hj hp hrq (List.mem_cons_self ..)
      exact k_lt_le this hxk
  · intro r hr
    obtain ⟨q, hq, hrq⟩ := List.mem_flatten.1 hr
    obtain ⟨j, hj⟩ := List.getElem?_of_mem hq
    rw [List.getElem?_drop] at hj
    have hjl := (List.getElem?_eq_some_iff.1 hj).1
    have hna : ¬ aheadP P k (pageP P k + 1 + j) = false := fun e => by
      have := (above_iff hF hjl).2 e
      unfold pageP at this
      omega
    have hna : aheadP P k (pageP P k + 1 + j) = true := by simpa using hna
    obtain ⟨hrise, hq1, _⟩ := hF.page hj
    unfold aheadP at hna
    rw [hj] at hna
    cases q with
    | nil => simp at hq1
    | cons x q =>
      have hkx : k < x.k := by simpa using hna
      rcases List.mem_cons.1 hrq with rfl | hrq
      · exact hkx
      · exact k_trans hkx ((List.pairwise_cons.1 hrise).1 r hrq)
theorem set_split {P : List (List Row)} {i : Nat} {p q : List Row} (hp : P[i]? = some p) : P = P.take i ++ p :: P.drop (i + 1) ∧ P.set i q = P.take i ++ q :: P.drop (i + 1) := by
  have hi := (List.getElem?_eq_some_iff.1 hp).1
  refine ⟨?_, List.set_eq_take_append_cons_drop .. |>.trans (by rw [if_pos hi])⟩
  have := List.drop_eq_getElem_cons hi
  rw [(List.getElem?_eq_some_iff.1 hp).2] at this
  rw [← this, List.take_append_drop]
theorem cut_split {P : List (List Row)} {i h : Nat} {p q : List Row} (hp : P[i]? = some p) : cutP (P.set i q) i h q = P.take i ++ q.take h :: q.drop h :: P.drop (i + 1) := by
  have hi := (List.getElem?_eq_some_iff.1 hp).1
  unfold cutP insAt
  rw [List.set_set, (set_split (q := q.take h) hp).2]
  have hl : (P.take i).length = i := by rw [List.length_take]; omega
  generalize P.take i = A at hl ⊢
  rw [List.take_append, List.take_of_length_le (show A.length ≤ i + 1 by omega), hl, show i + 1 - i = 1 by omega, List.drop_append, List.drop_of_length_le (show A.length ≤ i + 1 by omega), hl, show i + 1 - i = 1 by omega]
  simp
/-- The rows, with one more, or another one. -/
theorem flat_mid {P : List (List Row)} {i : Nat} {p q : List Row} (hp : P[i]? = some p) : (P.set i q).flatten = (P.take i).flatten ++ (q ++ (P.drop (i + 1)).flatten) ∧ P.flatten = (P.take i).flatten ++ (p ++ (P.drop (i + 1)).flatten) := by
  obtain ⟨h1, h2⟩ := set_split (q := q) hp
  refine ⟨by rw [h2, List.flatten_append, List.flatten_cons], ?_⟩
  conv => lhs; rw [h1]
  rw [List.flatten_append, List.flatten_cons]
theorem flat_cut {P : List (List Row)} {i h : Nat} {p q : List Row} (hp : P[i]? = some p) : (cutP (P.set i q) i h q).flatten = (P.set i q).flatten := by
  rw [cut_split hp, (flat_mid hp).1, List.flatten_append, List.flatten_cons, List.flatten_cons, ← List.append_assoc (q.take h), List.take_append_drop]
theorem rise_ins {p : List Row} (hp : Rise p) {x : Row} (hn : hasP p x.k = false) : Rise (insAt p (lowP p x.k) x) := by
  unfold insAt Rise
  have h0 := hp
  unfold Rise at h0
  rw [← List.take_append_drop (lowP p x.k) p, List.pairwise_append] at h0
  refine List.pairwise_append.2 ⟨h0.1, List.pairwise_cons.2 ⟨fun y hy => ?_, h0.2.1⟩, fun y hy z hz => ?_⟩
  · obtain ⟨j, hj⟩ := List.getElem?_of_mem hy
    rw [List.getElem?_drop] at hj
    have hl := rise_low hp hj (k := x.k)
    rcases k_tri x.k y.k with h | h | h
    · exact h
    · exfalso
      have hlow : lowP p x.k ≤ p.length := lowP_le _ _
      cases j with
      | zero =>
        unfold hasP at hn
        rw [Nat.add_zero] at hj
        rw [hj] at hn
        simp [h] at hn
      | succ j =>
        have hjl := (List.getElem?_eq_some_iff.1 hj).1
        have hx0 : p[lowP p x.k]? = some (p[lowP p x.k]'(by omega)) := List.getElem?_eq_getElem _
        have h2 := rise_low hp hx0 (k := x.k)
        have h3 := List.pairwise_iff_getElem.1 hp (lowP p x.k) (lowP p x.k + (j + 1)) (by omega) hjl (by omega)
        rw [(List.getElem?_eq_some_iff.1 hj).2, ← h] at h3
        have := h2.2 h3
        omega
    · have := hl.2 h
      omega
  · rcases List.mem_cons.1 hz with rfl | hz
    · obtain ⟨j, hj⟩ := List.getElem?_of_mem hy
      have hjl := (List.getElem?_eq_some_iff.1 hj).1
      rw [List.length_take] at hjl
      rw [List.getElem?_take_of_lt (by omega)] at hj
      exact (rise_low hp hj).1 (by omega)
    · exact h0.2.2 y hy z hz
theorem rise_mid {A p q C : List Row} {k : K} (h : Rise (A ++ (p ++ C))) (hq : Rise q) (hA : ∀ r ∈ A, r.k < k) (hC : ∀ r ∈ C, k < r.k) (hk : ∀ r ∈ q, r.k = k ∨ ∃ y ∈ p, y.k = r.k) : Rise (A ++ (q ++ C)) := by
  unfold Rise at h hq ⊢
  rw [List.pairwise_append, List.pairwise_append] at h
  refine List.pairwise_append.2 ⟨h.1, List.pairwise_append.2 ⟨hq, h.2.1.2.1, fun a ha b hb => ?_⟩, fun a ha b hb => ?_⟩
  · rcases hk a ha with e | ⟨y, hy, e⟩
    · rw [e]; exact hC b hb
    · rw [← e]; exact h.2.1.2.2 y hy b hb
  · rcases List.mem_append.1 hb with hb | hb
    · rcases hk b hb with e | ⟨y, hy, e⟩
      · rw [e]; exact hA a ha
      · rw [← e]; exact h.2.2 a ha y (List.mem_append.2 (.inl hy))
    · exact h.2.2 a ha b (List.mem_append.2 (.inr hb))
/-- What holds of the pages behind one of them became another one. -/
theorem Fine.set {most : Nat} {P : List (List Row)} (hF : Fine most P) {i : Nat} {p q : List Row} (hp : P[i]? = some p) (hq : q ≠ []) (hm : q.length ≤ most) (hr : Rise (P.set i q).flatten) (ht : (P.set i q).flatten.length ≤ 256) : Fine most (P.set i q) :=
  ⟨fun x hx => (List.mem_or_eq_of_mem_set hx).elim (hF.ne x) (fun e => e ▸ hq), fun x hx => (List.mem_or_eq_of_mem_set hx).elim (hF.full x) (fun e => e ▸ hm), hr, ht, hF.most⟩
theorem fine_put {most : Nat} {P : List (List Row)} (hF : Fine most P) (x : Row) : Fine most (putP most P x).1 := by
  by_cases hx : 16 < x.k.length
  · unfold putP
    rw [if_pos hx]
    exact hF
  · by_cases hP : P = []
    · subst hP
      rw [putP_not (by omega) rfl, if_neg (by simp), if_pos rfl]
      have := hF.most
      exact ⟨fun p hp => by rw [List.mem_singleton.1 hp]; simp, fun p hp => by rw [List.mem_singleton.1 hp]; show 1 ≤ most; omega, List.pairwise_singleton _ _, by simp, hF.most⟩
    · have hPl : 0 < P.length := List.length_pos_iff.2 hP
      have hpl := page_lt (k := x.k) hPl
      have hp : P[pageP P x.k]? = some P[pageP P x.k] := List.getElem?_eq_getElem hpl
      have hsp := page_split hF (k := x.k)
      generalize P[pageP P x.k] = p at hp
      have hfp : findP P x.k = (pageP P x.k, lowP p x.k, hasP p x.k) := by unfold findP; rw [hp]
      obtain ⟨hrise, hp1, _⟩ := hF.page hp
      have hfull := hF.full p (List.mem_of_getElem? hp)
      have hall := hF.rise
      rw [(flat_mid (q := p) hp).2] at hall
      have htot := hF.total
      cases ht : hasP p x.k with
      | true =>
        obtain ⟨r, hr, hrk⟩ := has_at ht
        have hal := (List.getElem?_eq_some_iff.1 hr).1
        have e : (putP most P x).1 = P.set (pageP P x.k) (p.set (lowP p x.k) x) := by
          unfold putP
          rw [if_neg hx, hfp, ht]
          simp only [hp, Option.getD_some]
        rw [e]
        generalize pageP P x.k = i at hp hsp hall
        refine hF.set hp (fun e => by have := congrArg List.length e; rw [List.length_set, List.length_nil] at this; omega) (by rw [List.length_set]; exact hfull) ?_ ?_
        · rw [(flat_mid hp).1]
          refine rise_mid hall ?_ hsp.1 hsp.2 (fun y hy => (List.mem_or_eq_of_mem_set hy).elim (fun hy => .inr ⟨y, hy, rfl⟩) (fun e => .inl (by rw [e])))
          unfold Rise at hrise ⊢
          rw [List.pairwise_iff_getElem] at hrise ⊢
          intro a b ha hb hab
          rw [List.length_set] at ha hb
          have hrr := (List.getElem?_eq_some_iff.1 hr).2
          have key : ∀ c (hc : c < p.length), ((p.set (lowP p x.k) x)[c]'(by rw [List.length_set]; exact hc)).k = p[c].k := fun c hc => by
            rw [List.getElem_set]
            split
            · rename_i e
              subst e
              rw [hrr, hrk]
            · rfl
          rw [key a ha, key b hb]
          exact hrise a b ha hb hab
        · rw [(flat_mid hp).1]
          rw [(flat_mid (q := p) hp).2] at htot
          simp only [List.length_append, List.length_set] at htot ⊢
          exact htot
      | false =>
        have hnot := putP_not (most := most) (P := P) (x := x) (by omega) (by rw [hfp, ht])
        rw [hfp] at hnot
        simp only [hp, Option.getD_some] at hnot
        rw [hnot, if_neg hP]
        split
        · exact hF
        · rename_i hlt
          have hri := rise_ins hrise ht
          have hql : (insAt p (lowP p x.k) x).length = p.length + 1 := insAt_len (lowP_le _ _)
          have hmem : ∀ r ∈ insAt p (lowP p x.k) x, r.k = x.k ∨ ∃ y ∈ p, y.k = r.k := fun r hr => (insAt_mem hr).elim (fun e => .inl (by rw [e])) (fun e => .inr ⟨r, e, rfl⟩)
          generalize insAt p (lowP p x.k) x = q at hri hql hmem
          generalize pageP P x.k = i at hp hsp hall
          have hr2 : Rise (P.set i q).flatten := by
            rw [(flat_mid hp).1]
            exact rise_mid hall hri hsp.1 hsp.2 hmem
          have ht2 : (P.set i q).flatten.length ≤ 256 := by
            rw [(flat_mid hp).1]
            rw [(flat_mid (q := p) hp).2] at hlt
            simp only [List.length_append] at hlt ⊢
            omega
          split
          · rename_i hm
            have hms := hF.most
            have hcs := cut_split (h := q.length / 2) (q := q) hp
            refine ⟨fun y hy => ?_, fun y hy => ?_, by rw [flat_cut hp]; exact hr2, by rw [flat_cut hp]; exact ht2, hF.most⟩
            · rw [hcs] at hy
              rcases List.mem_append.1 hy with hy | hy
              · exact hF.ne y (List.mem_of_mem_take hy)
              · rcases List.mem_cons.1 hy with rfl | hy
                · intro e; have := congrArg List.length e; rw [List.length_take, List.length_nil] at this; omega
                · rcases List.mem_cons.1 hy with rfl | hy
                  · intro e; have := congrArg List.length e; rw [List.length_drop, List.length_nil] at this; omega
                  · exact hF.ne y (List.mem_of_mem_drop hy)
            · rw [hcs] at hy
              rcases List.mem_append.1 hy with hy | hy
              · exact hF.full y (List.mem_of_mem_take hy)
              · rcases List.mem_cons.1 hy with rfl | hy
                · rw [List.length_take]; omega
                · rcases List.mem_cons.1 hy with rfl | hy
                  · rw [List.length_drop]; omega
                  · exact hF.full y (List.mem_of_mem_drop hy)
          · rename_i hm
            exact hF.set hp (fun e => by rw [e] at hql; simp at hql) (by omega) hr2 ht2
end Go.Proofs.YtkkembbeejlomaaGreatDoor

namespace Go.Proofs.YtkkembbeejlomaaGreatDoor
open Go.RowKit Go.Shelf Go.Sort Go.Lib

theorem put_any {w : World} {s most : Nat} {v : Value} {L : List Pl} {P : List (List Row)} {x : Row} (h : St w s most v L P) (hF : Fine most P) (hx : x.k.length ≤ maxLen) :
    Calls Tryz.prog 43 #[.pointer (some ⟨s, 0, none⟩), .agg #[strV x.k, .int .i64 x.n]] w (PutPost w s most v L P x) := by
  by_cases h1 : 16 < x.k.length
  · exact put_long h h1 hx
  · cases ht : (findP P x.k).2.2 with
    | true => exact put_there h hF (by omega) ht
    | false =>
      by_cases h2 : 256 ≤ P.flatten.length
      · exact put_full h hF (by omega) ht h2
      · by_cases h3 : P = []
        · subst h3
          exact put_first h hF (by omega)
        · exact put_in h hF (by omega) ht (by omega) (List.length_pos_iff.2 h3)
theorem Glob.touch {S : Nat → Prop} {w w' : World} (h : Glob w) (ht : Touch S w w') (hg : ¬ S 0) : Glob w' := (World.cell?_of_block (a := ⟨0, 0, none⟩) (ht.block _ h.lt hg)).trans h
set_option maxRecDepth 100000 in
set_option maxHeartbeats 4000000 in
theorem Put_any {w : World} {s most : Nat} {v : Value} {L : List Pl} {P : List (List Row)} {k : K} {n : Int} (h : St w s most v L P) (hF : Fine most P) (hx : k.length ≤ maxLen) (hG : Glob w) (hgo : ¬ Owns s v L 0) :
    Calls Tryz.prog 16 #[.pointer (some ⟨s, 0, none⟩), strV k, .int .i64 n] w fun e w' => e = .returned (.int .i64 (putP most P ⟨k, n⟩).2) ∧ StPost w s most v L (putP most P ⟨k, n⟩).1 w' := by
  have HP := Lib.hid (put_any (x := ⟨k, n⟩) h hF hx)
  simp only [strV] at HP
  have HG := Lib.hid hG
  have HGO := Lib.hid hgo
  clear h hF hG hgo
  unfold strV
  go_enter Tryz.func16, Tryz.ntmps16
  go_wp2_with fail
  refine (HP.out).mono ?_
  rintro e w2 ⟨c, ev, rfl, he, hz, hc, hcode, hpost⟩
  obtain ⟨v2, L2, h3, h4, h5⟩ := id hpost
  have HCD := Lib.hid (code_any (HG.out.touch h4 HGO.out) he hz (by omega) (Below.refl _ w2))
  rw [hcode] at HCD
  have HPO := Lib.hid hpost
  obtain ⟨t, u, rfl⟩ | rfl : (∃ t u, ev = .iface t u) ∨ ev = .nilIface := by
    cases c with
    | nil => exact .inr he
    | cons x y => exact .inl he.form1
  all_goals
    clear h3 h4 h5 hpost he hz hcode HP
    go_wp2_with fail
    refine (HCD.out).mono ?_
    rintro e w3 ⟨rfl, hb3⟩
    have HPO2 := Lib.hid (HPO.out.after hb3)
    clear hb3 HCD
    go_wp2_with fail
    go_ret
    exact ⟨rfl, HPO2.out⟩
/-- Get, in plain words. -/
def getP (P : List (List Row)) (k : K) : Int × Bool := match findP P k with
  | (i, at_, true) => ((((P[i]?).getD [])[at_]?.map Row.n).getD 0, true)
  | (_, _, false) => (0, false)
set_option maxRecDepth 100000 in
set_option maxHeartbeats 4000000 in
theorem Get_any {w : World} {s most : Nat} {v : Value} {L : List Pl} {P : List (List Row)} {k : K} (h : St w s most v L P) (hF : Fine most P) :
    Calls Tryz.prog 19 #[.pointer (some ⟨s, 0, none⟩), strV k] w fun e w' => e = .returned (.tuple #[.int .i64 (getP P k).1, .bool (getP P k).2]) ∧ Below w.heap.size w w' := by
  have hfi := find_any (k := k) h hF
  simp only [strV] at hfi
  cases ht : (findP P k).2.2 with
  | false =>
    have hg : getP P k = (0, false) := by
      unfold getP
      generalize findP P k = f at ht
      obtain ⟨i, at_, t⟩ := f
      simp only at ht
      subst ht
      rfl
    rw [hg]
    rw [ht] at hfi
    have HFI := Lib.hid hfi
    generalize (findP P k).1 = i at HFI
    generalize (findP P k).2.1 = at_ at HFI
    clear hfi h hF hg ht
    unfold strV
    go_enter Tryz.func19, Tryz.ntmps19
    go_wp2_with fail
    refine (HFI.out).mono ?_
    rintro e w2 ⟨rfl, hb2⟩
    have HB2 := Lib.hid hb2
    clear hb2 HFI
    go_wp2_with fail
    refine bodyPost_ret (v := .tuple #[.int .i64 0, .bool false]) (by simp [results, Tryz.results19, go_sem]) rfl ?_
    exact ⟨rfl, HB2.out⟩
  | true =>
    have HP0 : ∃ i p, P[i]? = some p ∧ findP P k = (i, lowP p k, hasP p k) := by
      unfold findP at ht ⊢
      split
      · rename_i p hp
        exact ⟨_, p, hp, rfl⟩
      · rename_i hp
        rw [hp] at ht
        cases ht
    obtain ⟨i, p, hp, hfp⟩ := HP0
    rw [hfp] at hfi ht
    simp only at ht
    rw [ht] at hfi
    obtain ⟨r, hr, hrk⟩ := has_at ht
    have hg : getP P k = (r.n, true) := by
      unfold getP
      rw [hfp, ht]
      simp only [hp, Option.getD_some, hr, Option.map_some]
    rw [hg]
    obtain ⟨a, g, c, ha, hv, hc1, hc2, kc, hA, hac⟩ := row_page h hp
    have ks : w.cell? ⟨s, 1, none⟩ = some v := cell_of h.head 1
    rw [hv] at ks
    have kn : w.cell? ⟨a.g, a.o + lowP p k * 2 + 1, none⟩ = some (.int .i64 r.n) := by
      rw [Nat.add_assoc]
      exact hA.holds _ _ (pgC_at hr).2
    have hpl := (hF.page hp).2.2
    have hPl := hF.len
    have hil := (List.getElem?_eq_some_iff.1 hp).1
    have hal := (List.getElem?_eq_some_iff.1 hr).1
    have hmx := hA.max
    unfold maxLen at hc2 hmx
    have HFI := Lib.hid hfi
    generalize lowP p k = at_ at HFI kn hal
    have HC : Hid (∀ W, Below w.heap.size w W → W.cell? ⟨s, 1, none⟩ = some (.slice (some ⟨g, 0, none⟩) P.length c) ∧ W.cell? ⟨g, i, none⟩ = some (.slice (some ⟨a.g, a.o, none⟩) p.length a.cap) ∧ W.cell? ⟨a.g, a.o + at_ * 2 + 1, none⟩ = some (.int .i64 r.n)) := Lib.hid (fun W hW => ⟨(hW.cell (p := ⟨s, 1, none⟩) (World.block_lt_of_cell? _ _ ks)).trans ks, (hW.cell (p := ⟨g, i, none⟩) (World.block_lt_of_cell? _ _ kc)).trans kc, (hW.cell (p := ⟨a.g, a.o + at_ * 2 + 1, none⟩) (World.block_lt_of_cell? _ _ kn)).trans kn⟩)
    have hiI : (i : Int) < (P.length : Int) := by omega
    have hlP : (P.length : Int) ≤ 256 := by omega
    have haI : (at_ : Int) < (p.length : Int) := by omega
    have hlp : (p.length : Int) ≤ 64 := by omega
    clear hfi h hF hg ht ks kc kn hA hp ha hr hv
    unfold strV
    go_enter Tryz.func19, Tryz.ntmps19
    go_wp2_with fail
    refine (HFI.out).mono ?_
    rintro e w2 ⟨rfl, hb2⟩
    have HB2 := Lib.hid hb2
    obtain ⟨ks, kc, kn⟩ := HC.out _ hb2
    clear hb2 HFI
    go_wp2_with fail
    refine bodyPost_ret (v := .tuple #[.int .i64 r.n, .bool true]) (by simp [results, Tryz.results19, go_sem]) rfl ?_
    exact ⟨rfl, HB2.out⟩
/-! New. -/
set_option maxRecDepth 100000 in
set_option maxHeartbeats 4000000 in
theorem New_any {w : World} (hG : Glob w) {most : Nat} (hm : 2 ≤ most ∧ most ≤ 64) :
    Calls Tryz.prog 5 #[.int .i64 most] w fun e w' => ∃ s, e = .returned (.tuple #[.pointer (some ⟨s, 0, none⟩), .int .i64 0]) ∧ St w' s most (.slice none 0 0) [] [] ∧ Below w.heap.size w w' ∧ w.heap.size ≤ s := by
  have h1 : (2 : Int) ≤ (most : Int) := by omega
  have h2 : (most : Int) ≤ 64 := by omega
  have hb := below_new (w := w) (.cells #[.int .i64 most, .slice none 0 0] 64)
  have hst : St (w.alloc (.cells #[.int .i64 most, .slice none 0 0] 64)) w.heap.size most (.slice none 0 0) [] [] := by
    refine ⟨alloc_at w _, RowIs.nil _ _, rfl, ?_, ?_, List.Pairwise.nil, ?_⟩
    · intro i a p ha; simp at ha
    · intro a ha; cases ha
    · intro e; cases e
  have HE : Hid (Calls Tryz.prog 14 #[.int .i64 most] w fun e w' => e = .returned (.tuple #[.pointer (some ⟨w.heap.size, 0, none⟩), .nilIface]) ∧ w' = w.alloc (.cells #[.int .i64 most, .slice none 0 0] 64)) := Lib.hid (by
    clear hst hb hG
    go_enter Tryz.func14, Tryz.ntmps14
    go_wp2_with fail
    refine bodyPost_ret (v := .tuple #[.pointer (some ⟨w.heap.size, 0, none⟩), .nilIface]) (by simp [results, Tryz.results14, go_sem]) rfl ?_
    exact ⟨rfl, rfl⟩)
  have HCD := Lib.hid (fun W (hb2 : Below w.heap.size w W) => code_any (c := []) (v := .nilIface) hG rfl (fun e h => by cases h) (by simp) hb2)
  have HST := Lib.hid hst
  have HB := Lib.hid hb
  clear hst hb hG
  go_enter Tryz.func5, Tryz.ntmps5
  go_wp2_with fail
  refine (HE.out).mono ?_
  rintro e w2 ⟨rfl, rfl⟩
  go_wp2_with fail
  refine (HCD.out _ HB.out).mono ?_
  rintro e w3 ⟨rfl, hb3⟩
  have HS3 := Lib.hid (HST.out.below hb3)
  have HB3 := Lib.hid (HB.out.trans (hb3.mono HB.out.size))
  clear hb3
  go_wp2_with fail
  refine bodyPost_ret (v := .tuple #[.pointer (some ⟨w.heap.size, 0, none⟩), .int .i64 0]) (by simp [results, Tryz.results5, go_sem, codeOf]) rfl ?_
  exact ⟨w.heap.size, rfl, HS3.out, HB3.out, Nat.le_refl _⟩
end Go.Proofs.YtkkembbeejlomaaGreatDoor
