/- Del. -/
import Derived.Test.YtkkfgdibficifaaDoorZPagU
set_option linter.unusedSimpArgs false
set_option linter.unusedVariables false
set_option linter.unnecessarySimpa false
namespace Go.Proofs.YtkkfgdibficifaaDoor
open Go.RowKit Go.Shelf Go.Sort Go.Lib

/-- What becomes of a page that lost a row. -/
def tidyP (most : Nat) (P : List (List Row)) (i : Nat) : List (List Row) :=
  if ((P[i]?).getD []).length = 0 then P.eraseIdx i
  else if most / 2 ≤ ((P[i]?).getD []).length then P
  else if joinsP most P (i : Int) = true then joinP P i
  else if joinsP most P ((i : Int) - 1) = true then joinP P (i - 1)
  else P
theorem joins_at {most : Nat} {P : List (List Row)} {i : Int} (h : joinsP most P i = true) : ∃ (j : Nat) (p q : List Row), i = (j : Int) ∧ P[j]? = some p ∧ P[j + 1]? = some q ∧ p.length + q.length ≤ most := by
  unfold joinsP at h
  simp only [Bool.and_eq_true, decide_eq_true_eq] at h
  obtain ⟨⟨h1, h2⟩, h3⟩ := h
  refine ⟨i.toNat, P[i.toNat]'(by omega), P[i.toNat + 1]'(by omega), by omega, List.getElem?_eq_getElem _, List.getElem?_eq_getElem _, ?_⟩
  rw [List.getElem?_eq_getElem (show i.toNat < P.length by omega), List.getElem?_eq_getElem (show i.toNat + 1 < P.length by omega)] at h3
  exact h3
set_option maxRecDepth 100000 in
set_option maxHeartbeats 4000000 in
theorem tidy_any {w : World} {s most i : Nat} {v : Value} {L : List Pl} {P : List (List Row)} {p : List Row} (h : St w s most v L P) (hp : P[i]? = some p) (hl : P.length ≤ 256) (hall : ∀ q ∈ P, q.length ≤ 64) (hne : ∀ (j : Nat) (q : List Row), P[j]? = some q → j ≠ i → 1 ≤ q.length) (hm : 2 ≤ most ∧ most ≤ 64) :
    Calls Tryd.prog 25 #[.pointer (some ⟨s, 0, none⟩), .int .i64 i] w fun e w' => e = .returned (.tuple #[]) ∧ StPost w s most v L (tidyP most P i) w' := by
  obtain ⟨a, g, c, ha, hv, hc1, hc2, kp, hA, hac⟩ := row_page h hp
  have ks : w.cell? ⟨s, 1, none⟩ = some v := cell_of h.head 1
  have km : w.cell? ⟨s, 0, none⟩ = some (.int .i64 most) := cell_of h.head 0
  rw [hv] at ks
  have hil := (List.getElem?_eq_some_iff.1 hp).1
  have hpl := hall p (List.mem_of_getElem? hp)
  have hmx := hA.max
  unfold maxLen at hc2 hmx
  have hT : tidyP most P i = if p.length = 0 then P.eraseIdx i else if most / 2 ≤ p.length then P else if joinsP most P (i : Int) = true then joinP P i else if joinsP most P ((i : Int) - 1) = true then joinP P (i - 1) else P := by
    unfold tidyP
    rw [hp]
    rfl
  have hi0 : (i : Int) < (P.length : Int) := by omega
  have hlP : (P.length : Int) ≤ 256 := by omega
  have hw1 : IntKind.i64.wrap ((i : Int) + 1) = (i : Int) + 1 := IntWalk.i64_in _ (by omega)
  have hw2 : IntKind.i64.wrap ((i : Int) - 1) = (i : Int) - 1 := IntWalk.i64_in _ (by omega)
  have hmI : (most : Int).tdiv 2 = ((most / 2 : Nat) : Int) := by rw [Int.tdiv_eq_ediv_of_nonneg (by omega)]; omega
  have hwm : IntKind.i64.wrap ((most / 2 : Nat) : Int) = ((most / 2 : Nat) : Int) := IntWalk.i64_in _ (by omega)
  have HJ := Lib.hid (fun (W : World) (hW : Below w.heap.size w W) (x : Int) (hx : -10 ≤ x ∧ x ≤ 1000) => joins_any (h.below hW) hl hx (fun q hq => by have := hall q hq; omega))
  have HJOIN : Hid (p.length ≠ 0 → ∀ W, Below w.heap.size w W → ∀ j : Nat, joinsP most P (j : Int) = true → Calls Tryd.prog 45 #[.pointer (some ⟨s, 0, none⟩), .int .i64 j] W fun e w' => e = .returned (.tuple #[]) ∧ StPost w s most v L (joinP P j) w') := Lib.hid (fun hpn W hW j hj => by
    obtain ⟨j', p', q', e, h1, h2, h3⟩ := joins_at hj
    obtain rfl : j = j' := by omega
    have hp0 : 1 ≤ p'.length := by
      by_cases hji : j = i
      · subst hji
        obtain rfl := Option.some.inj (hp.symm.trans h1)
        omega
      · exact hne j p' h1 hji
    refine (join_any (h.below hW) h1 h2 hp0 (by omega) hl).mono ?_
    rintro e w' ⟨rfl, hpo⟩
    exact ⟨rfl, .ahead hW hpo⟩)
  have HDEL : Hid (∀ W, Below w.heap.size w W → Calls Tryd.prog 43 #[.slice (some ⟨g, 0, none⟩) P.length c, .int .i64 i, .int .i64 ((i : Int) + 1)] W fun e W5 => e = .returned (.slice (some ⟨g, 0, none⟩) (P.length - 1) c) ∧ StPost w s most v L (P.eraseIdx i) (W5.setCell ⟨s, 1, none⟩ (.slice (some ⟨g, 0, none⟩) (P.length - 1) c)) ∧ (W5.cell? ⟨s, 1, none⟩).isSome = true ∧ W5.frozen? ⟨s, 1, none⟩ = false) := Lib.hid (fun W hW => by
    have h' := h.below hW
    have hr := h'.row
    rw [hv] at hr
    obtain ⟨hPA', hn1, hl1⟩ := hr.area (pgsV_one _ _)
    refine (deleteP hPA' (k := i) (n := P.length) (m := P.length - 1) (by omega) (by omega) (by omega) (by omega) (by omega)).mono ?_
    rintro e W5 ⟨rfl, hA5, hT5⟩
    rw [hv] at h'
    obtain ⟨_, h4, h5, h6⟩ := h'.erased (k := i) (by omega) (Below.refl _ _) hA5 hT5 (by omega)
    rw [hv]
    exact ⟨rfl, .ahead hW h4, h5, h6⟩)
  have HT := Lib.hid hT
  have H := Lib.hid h
  obtain ⟨n, hn⟩ : ∃ n, p.length = n := ⟨_, rfl⟩
  rw [hn] at kp hpl HT hac HJOIN
  clear h hp ha hv hA hall hne hT hn
  have hnI : (n : Int) ≤ 64 := by omega
  by_cases h0 : n = 0
  · subst h0
    have HE : Hid (tidyP most P i = P.eraseIdx i) := Lib.hid (by rw [HT.out, if_pos rfl])
    clear HJ HJOIN HT
    go_enter Tryd.func25, Tryd.ntmps25
    go_wp2_with fail
    refine (HDEL.out _ (Below.refl _ _)).mono ?_
    rintro e w5 ⟨rfl, hpost, q1, q2⟩
    obtain ⟨xx, q1⟩ := Option.isSome_iff_exists.1 q1
    have HF := Lib.hid hpost
    clear hpost HDEL
    go_wp2_with fail
    go_end0
    exact ⟨rfl, by rw [HE.out]; exact HF.out⟩
  · have h0b : ((n : Int) == 0) = false := by rw [beq_eq_false_iff_ne]; omega
    by_cases h1 : most / 2 ≤ n
    · have h1I : (most : Int) / 2 ≤ (n : Int) := by omega
      have HE : Hid (tidyP most P i = P) := Lib.hid (by rw [HT.out, if_neg h0, if_pos h1])
      clear HJ HJOIN HT HDEL
      go_enter Tryd.func25, Tryd.ntmps25
      go_wp2_with fail
      go_end0
      exact ⟨rfl, by rw [HE.out]; exact StPost.start H.out (Below.refl _ _)⟩
    · have h1I : ¬ (most : Int) / 2 ≤ (n : Int) := by omega
      have hjo := HJOIN.out (by omega)
      have HJO := Lib.hid hjo
      clear hjo HJOIN HDEL
      cases hj1 : joinsP most P (i : Int) with
      | true =>
        have HE : Hid (tidyP most P i = joinP P i) := Lib.hid (by rw [HT.out, if_neg h0, if_neg h1, if_pos hj1])
        have HJ1 := Lib.hid hj1
        clear HT hj1
        go_enter Tryd.func25, Tryd.ntmps25
        go_wp2_with fail
        refine (HJ.out _ (Below.refl _ _) _ (by omega)).mono ?_
        rintro e w2 ⟨rfl, hb2⟩
        have HB2 := Lib.hid hb2
        rw [HJ1.out]
        clear hb2
        go_wp2_with fail
        refine (HJO.out _ HB2.out i HJ1.out).mono ?_
        rintro e w3 ⟨rfl, hpost⟩
        have HF := Lib.hid hpost
        clear hpost HJO
        go_wp2_with fail
        go_end0
        exact ⟨rfl, by rw [HE.out]; exact HF.out⟩
      | false =>
        have HJ1 := Lib.hid hj1
        cases hj2 : joinsP most P ((i : Int) - 1) with
        | true =>
          have HE : Hid (tidyP most P i = joinP P (i - 1)) := Lib.hid (by rw [HT.out, if_neg h0, if_neg h1, if_neg (by rw [hj1]; simp), if_pos hj2])
          obtain ⟨j, p', q', e, _, _, _⟩ := joins_at hj2
          have hji : i - 1 = j := by omega
          rw [hji] at HE
          have HJ2 := Lib.hid hj2
          have hj3 : joinsP most P (j : Int) = true := by rw [← e]; exact hj2
          have HJ3 := Lib.hid hj3
          have HEQ := Lib.hid e
          clear HT hj1 hj2 hj3 e
          go_enter Tryd.func25, Tryd.ntmps25
          go_wp2_with fail
          refine (HJ.out _ (Below.refl _ _) _ (by omega)).mono ?_
          rintro e w2 ⟨rfl, hb2⟩
          have HB2 := Lib.hid hb2
          rw [HJ1.out]
          clear hb2
          go_wp2_with fail
          refine (HJ.out _ HB2.out _ (by omega)).mono ?_
          rintro e w3 ⟨rfl, hb3⟩
          have HB3 := Lib.hid (HB2.out.trans (hb3.mono HB2.out.size))
          rw [HJ2.out]
          clear hb3
          have heq := HEQ.out
          go_wp2_with fail
          refine (HJO.out _ HB3.out j HJ3.out).mono ?_
          rintro e w4 ⟨rfl, hpost⟩
          have HF := Lib.hid hpost
          clear hpost HJO
          go_wp2_with fail
          go_end0
          exact ⟨rfl, by rw [HE.out]; exact HF.out⟩
        | false =>
          have HE : Hid (tidyP most P i = P) := Lib.hid (by rw [HT.out, if_neg h0, if_neg h1, if_neg (by rw [hj1]; simp), if_neg (by rw [hj2]; simp)])
          have HJ2 := Lib.hid hj2
          clear HT hj1 hj2
          go_enter Tryd.func25, Tryd.ntmps25
          go_wp2_with fail
          refine (HJ.out _ (Below.refl _ _) _ (by omega)).mono ?_
          rintro e w2 ⟨rfl, hb2⟩
          have HB2 := Lib.hid hb2
          rw [HJ1.out]
          clear hb2
          go_wp2_with fail
          refine (HJ.out _ HB2.out _ (by omega)).mono ?_
          rintro e w3 ⟨rfl, hb3⟩
          have HB3 := Lib.hid (HB2.out.trans (hb3.mono HB2.out.size))
          rw [HJ2.out]
          clear hb3
          go_wp2_with fail
          go_end0
          exact ⟨rfl, by rw [HE.out]; exact StPost.start H.out HB3.out⟩
end Go.Proofs.YtkkfgdibficifaaDoor
