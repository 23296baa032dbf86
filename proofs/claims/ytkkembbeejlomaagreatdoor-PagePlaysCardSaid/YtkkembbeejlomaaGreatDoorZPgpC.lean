/- The document's own store: Del. (written by genpgpc.py) -/
import Derived.Test.YtkkembbeejlomaaGreatDoorZPgpA
set_option linter.unusedSimpArgs false
set_option linter.unusedVariables false
set_option linter.unnecessarySimpa false
namespace Go.Proofs.YtkkembbeejlomaaGreatDoor
open Go.RowKit Go.Shelf Go.Sort Go.Lib

theorem tidy_eq {most i : Nat} {P : List (List Row)} {p : List Row} (hp : P[i]? = some p) : tidyP most P i = if p.length = 0 then P.eraseIdx i else if most / 2 ≤ p.length then P else if joinsP most P (i : Int) = true then joinP P i else if joinsP most P ((i : Int) - 1) = true then joinP P (i - 1) else P := by
  unfold tidyP
  rw [hp]
  rfl
theorem joins_iff {most j : Nat} {P : List (List Row)} {a b : List Row} (ha : P[j]? = some a) (hb : P[j + 1]? = some b) : joinsP most P (j : Int) = decide (a.length + b.length ≤ most) := by
  have := (List.getElem?_eq_some_iff.1 hb).1
  unfold joinsP
  rw [Int.toNat_natCast, ha, hb]
  simp only [Option.getD_some]
  rw [decide_eq_true (by omega), decide_eq_true (show (j : Int) + 1 < (P.length : Int) by omega)]
  rfl
theorem joins_none {most : Nat} {j : Int} {P : List (List Row)} (h : j < 0 ∨ (P.length : Int) ≤ j + 1) : joinsP most P j = false := by
  unfold joinsP
  rcases h with h | h
  · rw [decide_eq_false (by omega)]; rfl
  · rw [decide_eq_false (show ¬ j + 1 < (P.length : Int) by omega)]; simp
theorem foldW_len (k : K) (n : Int) : ∀ (p : List Row) (s : List Row × Bool), (p.foldl (stepW k n) s).1.length ≤ s.1.length + 2 * p.length
  | [], s => by simp
  | r :: p, s => by
    rw [List.foldl_cons, List.length_cons]
    have h1 := foldW_len k n p (stepW k n s r)
    have h2 := stepW_len k n s r
    omega
theorem wout_len {p : List Row} (k : K) : (withS k 0 false p).length ≤ 2 * p.length + 1 := by
  unfold withS
  have h := foldW_len k 0 p ([], !false)
  simp only [List.length_nil, Nat.zero_add] at h
  rw [List.length_append]
  split
  · rw [List.length_nil]; omega
  · rw [List.length_singleton]; omega
/-- Two rows, one behind the other, in a block of its own. -/
theorem two_mem {wc : World} {ua ub : Value} {pa pb : List Row} (ha : Sl wc ua pa) (hb : Sl wc ub pb) (hl : pa.length + pb.length ≤ 1000) : ∃ va wa vb wb,
    (Builtin.append_ #[40, 40] 40 #[.slice (some ⟨wc.heap.size, 0, none⟩) 0 0, ua]).run Tryz.prog (wc.alloc (.cells #[] 42)).drew = .ok va wa ∧
    (Builtin.append_ #[40, 40] 40 #[va, ub]).run Tryz.prog wa = .ok vb wb ∧ Below wc.heap.size wc wa ∧ Below wc.heap.size wc wb ∧ RowsIs wb wc.heap.size vb (pa ++ pb) := by
  have hb1 : Below wc.heap.size wc (wc.alloc (.cells #[] 42)).drew := below_drew (below_new _)
  have hat : (wc.alloc (.cells #[] 42)).drew.heap[wc.heap.size]? = some (.cells #[] 42) := alloc_at wc (.cells #[] 42)
  have hrow0 : RowIs (wc.alloc (.cells #[] 42)).drew 2 (.slice (some ⟨wc.heap.size, 0, none⟩) 0 0) 0 [] := .inr ⟨wc.heap.size, 0, rfl, rfl, Nat.le_refl _, heap_lt hat, Nat.zero_le _, by unfold maxLen; omega, fun j u hj => by simp at hj, fun j hj => by omega⟩
  obtain ⟨va, wa, hra, hrowa, hga, hoa⟩ := run_append_row (wc.alloc (.cells #[] 42)).drew 40 42 40 40 Tryz.underlying40 infoR rfl (by omega) (by omega) _ 0 pa.length [] (pgC pa) _ hrow0 (ha.below hb1).src (by omega)
  rw [Nat.zero_add, List.nil_append] at hrowa
  have hsz : (wc.alloc (.cells #[] 42)).drew.heap.size = wc.heap.size + 1 := asz _ _
  have howna : ∀ k, va.ownBlock = some k → wc.heap.size ≤ k := fun k e => by
    rcases hoa with e2 | e2
    · rw [e2] at e
      have e : wc.heap.size = k := Option.some.inj e
      omega
    · rw [e] at e2
      have e2 := Option.some.inj e2
      omega
  have hBa : Below wc.heap.size wc wa := hb1.trans (push_below hga (fun k e => by have e : wc.heap.size = k := Option.some.inj e; omega) (by omega))
  obtain ⟨vb, wb, hrb, hrowb, hgb, hob⟩ := run_append_row wa 40 42 40 40 Tryz.underlying40 infoR rfl (by omega) (by omega) va pa.length pb.length (pgC pa) (pgC pb) _ hrowa (hb.below hBa).src (by omega)
  have hBb : Below wc.heap.size wc wb := hBa.trans (push_below hgb howna hBa.size)
  refine ⟨va, wa, vb, wb, hra, hrb, hBa, hBb, by rw [pgC_append, List.length_append]; exact hrowb, fun k e => ?_⟩
  rcases hob with e2 | e2
  · exact howna k (e2 ▸ e)
  · rw [e] at e2
    have e2 := Option.some.inj e2
    have := hBa.size
    omega
set_option maxRecDepth 100000 in
set_option maxHeartbeats 16000000 in
theorem RDel_any {w : World} {r most : Nat} {v : Value} {us : List Value} {P : List (List Row)} (h : RSt w r most v us P) (hF : Fine most P) (k : K) :
    Calls Tryz.prog 28 #[.pointer (some ⟨r, 0, none⟩), strV k] w fun e w' => e = .returned (.bool (delP most P k).2) ∧ RPost w r most v us (delP most P k).1 w' := by
  have hlP := hF.len
  have htot := hF.total
  have hmost := hF.most
  obtain ⟨A, c, hv, hc1, hc2, hAn, hAs, hcell⟩ := h.at_.row.form
  unfold maxLen at hc2
  have ks : w.cell? ⟨r, 1, none⟩ = some v := cell_of h.at_.head 1
  rw [hv] at ks
  have HRO : Hid (Calls Tryz.prog 21 #[.pointer (some ⟨r, 0, none⟩)] w fun e w' => ∃ v', e = .returned v' ∧ RowsIs w' w.heap.size v' P.flatten ∧ Below w.heap.size w w') := Lib.hid (rrows_any h.at_ (by omega) (by omega))
  have HRC : Hid (∀ W, Below w.heap.size w W → W.cell? ⟨r, 1, none⟩ = some (.slice A P.length c)) := Lib.hid (fun W hW => (hW.cell (p := ⟨r, 1, none⟩) (World.block_lt_of_cell? _ _ ks)).trans ks)
  have HGE : Hid (∀ W u, RowOf W u P.flatten → Calls Tryz.prog 29 #[u, strV k] W fun e w' => e = .returned (.tuple #[.int .i64 (getR P.flatten k).1, .bool (getR P.flatten k).2]) ∧ Below W.heap.size W w') := Lib.hid (fun W u hu => RGet_any hu (by omega) k)
  have H := Lib.hid h
  have HF := Lib.hid hF
  obtain ⟨F, hFl⟩ : ∃ F, P.flatten = F := ⟨_, rfl⟩
  obtain ⟨g, t, hgt⟩ : ∃ g t, getR F k = (g, t) := ⟨_, _, rfl⟩
  have hPne : t = true → P ≠ [] := fun e1 e => by
    subst e
    rw [← hFl, e1] at hgt
    cases hgt
  rw [hFl] at HRO HGE htot
  rw [hgt] at HGE
  have HFL := Lib.hid hFl
  have HGT := Lib.hid hgt
  have HCELL := Lib.hid hcell
  have HG0 : Hid (P ≠ [] → ∃ g0, A = some ⟨g0, 0, none⟩) := Lib.hid (fun hP => by
    cases A with
    | none => exact absurd (List.length_eq_zero_iff.1 (hAn rfl).1) hP
    | some x => obtain ⟨g0, e, _⟩ := hAs x rfl; exact ⟨g0, by rw [e]⟩)
  have hFI : (F.length : Int) ≤ 256 := by omega
  have hPI : (P.length : Int) ≤ 256 := by omega
  clear h hF hcell hAn hAs ks hv hFl hgt
  unfold strV at HGE ⊢
  go_enter Tryz.func28, Tryz.ntmps28
  go_wp2_with fail
  refine (HRO.out).mono ?_
  rintro e w1 ⟨v1, rfl, hr1, hb1⟩
  have HB1 := Lib.hid hb1
  have HR1 := Lib.hid hr1
  obtain ⟨A1, c1, rfl, _⟩ := hr1.1.form
  clear hr1 hb1
  go_wp2_with fail
  refine (HGE.out _ _ HR1.out.1).mono ?_
  rintro e w2 ⟨rfl, hb2⟩
  have HB2 := Lib.hid (HB1.out.trans (hb2.mono HB1.out.size))
  clear hb2 HRO HGE
  cases t with
  | false =>
    go_wp2_with fail
    go_ret
    have e := rdel_not HF.out (k := k) (by rw [HFL.out, HGT.out])
    rw [e]
    exact ⟨rfl, RPost.refl H.out HB2.out⟩
  | true =>
    have hP := hPne rfl
    clear hPne
    obtain ⟨g0, rfl⟩ := HG0.out hP
    have HPG := Lib.hid (fun W (hW : Below w.heap.size w W) => rpage_any (H.out.at_.below hW) HF.out hP k)
    obtain ⟨p, hp⟩ : ∃ p, P[pageP P k]? = some p := ⟨_, List.getElem?_eq_getElem (page_lt (List.length_pos_iff.2 hP))⟩
    obtain ⟨hrise, hp1, hp64⟩ := HF.out.page hp
    obtain ⟨u, hu, hsl⟩ := H.out.at_.each _ _ hp
    obtain ⟨m, hm⟩ : ∃ m, pageP P k = m := ⟨_, rfl⟩
    obtain ⟨A6, c6, rfl, _⟩ := hsl.form
    have HWI := Lib.hid (fun W (hW : Below w.heap.size w W) => SWith_any (hsl.below hW) (by omega) k 0 false)
    have hml := page_lt (k := k) (List.length_pos_iff.2 hP)
    have HKM := Lib.hid (HCELL.out _ _ hu)
    rw [hm] at hml HPG HKM
    have HKC : Hid (∀ W, Below w.heap.size w W → W.cell? ⟨g0, m, none⟩ = some (.slice A6 p.length c6)) := Lib.hid (fun W hW => by
      obtain ⟨g', e, k1⟩ := HKM.out
      injection e with e
      injection e with e
      subst e
      exact (hW.cell (p := ⟨g0, m, none⟩) (World.block_lt_of_cell? _ _ k1)).trans k1)
    have hmw : IntKind.i64.wrap ((m : Int) + 1) = ((m : Int) + 1) := IntWalk.i64_in _ (by omega)
    have hmI : (m : Int) < (P.length : Int) := by omega
    have hwl := wout_len (p := p) k
    have HEQ : Hid (delP most P k = _) := Lib.hid (rdel_eq HF.out (by rw [HFL.out, HGT.out]) hp)
    obtain ⟨q, hq⟩ : ∃ q, withS k 0 false p = q := ⟨_, rfl⟩
    rw [hq] at HWI HEQ hwl
    rw [hm] at HEQ hp
    have hqI : (q.length : Int) ≤ 129 := by omega
    have HSW : Hid (∀ (W : World) (Q : List (List Row)) (lv : Value) (ql : List Value), Below w.heap.size w W → PgIn W lv ql Q → Q.length ≤ 2 → (∀ u ∈ ql, ∀ k, blkOf u = some k → w.heap.size ≤ k) → Calls Tryz.prog 55 #[.pointer (some ⟨r, 0, none⟩), .int .i64 (m : Int), .int .i64 (m + 1 : Int), lv] W fun e w' => e = .returned (.tuple #[]) ∧ RPost w r most v us (swapP P m (m + 1) Q) w') := Lib.hid (fun W Q lv ql hW hQ hl hn => with_post (a := m) (b := m + 1) H.out hW hP hlP (by omega) (by omega) (by omega) hQ hl hn)
    have HS1 : Hid (swapP P m (m + 1) [q] = P.set m q ∧ (P.set m q)[m]? = some q ∧ (P.set m q).length = P.length) := Lib.hid ⟨swap_one hp, by rw [List.getElem?_set_self (by omega)], List.length_set⟩
    have hfull : ∀ (j : Nat) (x : List Row), (P.set m q)[j]? = some x → x.length ≤ 129 := fun j x hx => by
      by_cases hj : j = m
      · subst hj
        rw [HS1.out.2.1] at hx
        obtain rfl := Option.some.inj hx
        omega
      · rw [List.getElem?_set_ne (by omega)] at hx
        have := (HF.out.page hx).2.2
        omega
    have HFULL := Lib.hid hfull
    clear hu hsl hp hq hrise HKM HCELL hfull
    have ks := HRC.out _ HB2.out
    go_wp2_with fail
    refine (HPG.out _ HB2.out).mono ?_
    rintro e w4 ⟨rfl, hb4⟩
    have HB4 := Lib.hid (HB2.out.trans (hb4.mono HB2.out.size))
    have ks4 := HRC.out _ HB4.out
    have kc := HKC.out _ HB4.out
    clear hb4
    go_wp2_with fail
    refine (HWI.out _ HB4.out).mono ?_
    rintro e w5 ⟨v5, rfl, hr5, hb5⟩
    have HB5 := Lib.hid (HB4.out.trans (hb5.mono HB4.out.size))
    have HR5 := Lib.hid hr5
    have HS4 := Lib.hid HB4.out.size
    obtain ⟨A5, c5, rfl, hc5, hc6, _⟩ := hr5.1.form
    unfold maxLen at hc6
    clear hr5 hb5 ks4 kc ks HKC HRC HG0 HWI HPG
    by_cases hz : q.length = 0
    · have hzI : (q.length : Int) = 0 := by omega
      go_wp2_with fail
      refine (HSW.out _ [] _ [] HB5.out ⟨RowIs.nil _ _, fun i q hq => by simp at hq⟩ (by simp) (fun u hu => by cases hu)).mono ?_
      rintro e w6 ⟨rfl, hpost⟩
      have HPO := Lib.hid hpost
      clear hpost
      go_wp2_with fail
      go_ret
      rw [HEQ.out, tidy_eq HS1.out.2.1, if_pos hz]
      refine ⟨rfl, ?_⟩
      have e : (P.set m q).eraseIdx m = swapP P m (m + 1) [] := by rw [swap_none, List.eraseIdx_set_eq]
      rw [e]
      exact HPO.out
    · have hzI : ¬ (q.length : Int) = 0 := by omega
      have hq1 := below_new (w := w5) (.cells #[.slice A5 q.length c5] 40)
      have HPI := Lib.hid (pgIn_new (n := 1) (ql := [.slice A5 q.length c5]) (Q := [q]) (alloc_at w5 (.cells #[.slice A5 q.length c5] 40)) rfl rfl (by omega) (fun i x hx => by
        cases i with
        | zero =>
          obtain rfl := Option.some.inj hx
          exact ⟨_, rfl, (RowOf.sl HR5.out.1).below hq1⟩
        | succ i => simp at hx))
      have HBA := Lib.hid (HB5.out.trans (hq1.mono HB5.out.size))
      clear hq1
      go_wp2_with fail
      refine (HSW.out _ _ _ _ HBA.out HPI.out (by simp) (fun u hu k hk => by
        obtain rfl := List.mem_singleton.1 hu
        exact Nat.le_trans HS4.out (HR5.out.blk k hk))).mono ?_
      rintro e w6 ⟨rfl, hpost⟩
      rw [HS1.out.1] at hpost
      have HMM := Lib.hid HS1.out.2.1
      have hlen1 := HS1.out.2.2
      obtain ⟨P1, hP1⟩ : ∃ P1, P.set m q = P1 := ⟨_, rfl⟩
      rw [hP1] at hpost HEQ HMM hlen1 HFULL
      obtain ⟨v6, us6, h6, ht6, ho6⟩ := hpost
      have HT6 := Lib.hid (And.intro ht6 ho6)
      have H6 := Lib.hid h6
      obtain ⟨A7, c7, hv7, hc71, hc72, hAn7, hAs7, hcell7⟩ := h6.at_.row.form
      unfold maxLen at hc72
      obtain ⟨g7, rfl⟩ : ∃ g7, A7 = some ⟨g7, 0, none⟩ := by
        cases A7 with
        | none => have := (hAn7 rfl).1; omega
        | some x => obtain ⟨g0, e, _⟩ := hAs7 x rfl; exact ⟨g0, by rw [e]⟩
      have kr : w6.cell? ⟨r, 1, none⟩ = some v6 := cell_of h6.at_.head 1
      have km : w6.cell? ⟨r, 0, none⟩ = some (.int .i64 most) := cell_of h6.at_.head 0
      rw [hv7] at kr
      have HR6 : Hid (∀ W, Below w6.heap.size w6 W → W.cell? ⟨r, 1, none⟩ = some (.slice (some ⟨g7, 0, none⟩) P1.length c7) ∧ W.cell? ⟨r, 0, none⟩ = some (.int .i64 most)) := Lib.hid (fun W hW => ⟨(hW.cell (p := ⟨r, 1, none⟩) (World.block_lt_of_cell? _ _ kr)).trans kr, (hW.cell (p := ⟨r, 0, none⟩) (World.block_lt_of_cell? _ _ km)).trans km⟩)
      have HPJ : Hid (∀ (j : Nat) (x : List Row), P1[j]? = some x → ∃ Aj cj, Sl w6 (.slice Aj x.length cj) x ∧ ∀ W, Below w6.heap.size w6 W → W.cell? ⟨g7, j, none⟩ = some (.slice Aj x.length cj)) := Lib.hid (fun j x hx => by
        obtain ⟨u, hu, hsl⟩ := h6.at_.each j x hx
        obtain ⟨g', e, k1⟩ := hcell7 j u hu
        injection e with e
        injection e with e
        subst e
        obtain ⟨Aj, cj, rfl, _⟩ := hsl.form
        exact ⟨Aj, cj, hsl, fun W hW => (hW.cell (p := ⟨g7, j, none⟩) (World.block_lt_of_cell? _ _ k1)).trans k1⟩)
      have hlI1 : (P1.length : Int) ≤ 256 := by omega
      have hmI1 : (m : Int) < (P1.length : Int) := by omega
      have hm1 : m < P1.length := by omega
      have hl1 : P1.length ≤ 256 := by omega
      clear h6 ht6 ho6 hv7 hAn7 hAs7 hcell7 HSW HPI HBA HB5 HR5 HS4 HB1 HB2 HB4 HR1 kr hlen1
      obtain ⟨mh, hmh⟩ : ∃ mh, most / 2 = mh := ⟨_, rfl⟩
      have hmhI : (most : Int).tdiv 2 = (mh : Int) := by rw [Int.tdiv_eq_ediv_of_nonneg (by omega)]; omega
      have hmhw : IntKind.i64.wrap (mh : Int) = (mh : Int) := IntWalk.i64_in _ (by omega)
      have HMH := Lib.hid hmh
      clear hmh
      by_cases hhalf : mh ≤ q.length
      · have hhI : (mh : Int) ≤ (q.length : Int) := by omega
        go_wp2_with fail
        go_ret
        rw [HEQ.out, tidy_eq HMM.out, if_neg hz, HMH.out, if_pos hhalf]
        exact ⟨rfl, v6, us6, H6.out, HT6.out.1, HT6.out.2⟩
      · have hhI : ¬ (mh : Int) ≤ (q.length : Int) := by omega
        go_upto_region 13 with fail
        obtain ⟨b13, hb13⟩ : ∃ b, joinsP most P1 (m : Int) = b := ⟨_, rfl⟩
        have HJ13 := Lib.hid hb13
        clear hb13
        go_cut [82] from 56 to 82 (fun bv wx => bv = .bool b13 ∧ Below w6.heap.size w6 wx)
        case first =>
          obtain ⟨kr, km⟩ := HR6.out _ (Below.refl _ _)
          by_cases h1 : m + 1 < P1.length
          · obtain ⟨p2, hp2⟩ : ∃ x, P1[m + 1]? = some x := ⟨_, List.getElem?_eq_getElem h1⟩
            obtain ⟨Aj, cj, hslj, hcj⟩ := HPJ.out _ _ hp2
            have kj := hcj _ (Below.refl _ _)
            have HJ := Lib.hid (joins_iff (most := most) HMM.out hp2)
            have h129 := HFULL.out _ _ hp2
            have d1 : decide ((m : Int) + 1 < (P1.length : Int)) = true := decide_eq_true (by omega)
            have h1I : (m : Int) + 1 < (P1.length : Int) := by omega
            have dw : IntKind.i64.wrap ((q.length : Int) + (p2.length : Int)) = (q.length : Int) + (p2.length : Int) := IntWalk.i64_in _ (by omega)
            clear hslj hcj hp2
            by_cases h2 : q.length + p2.length ≤ most
            · have d2 : decide ((q.length : Int) + (p2.length : Int) ≤ (most : Int)) = true := decide_eq_true (by omega)
              have h2I : (q.length : Int) + (p2.length : Int) ≤ (most : Int) := by omega
              go_quiet (fail)
              go_wp2
              go_meet
              exact ⟨by rw [← HJ13.out, HJ.out, decide_eq_true h2], below_drewN (Below.refl _ _) _⟩
            · have d2 : decide ((q.length : Int) + (p2.length : Int) ≤ (most : Int)) = false := decide_eq_false (by omega)
              go_quiet (fail)
              go_wp2
              go_meet
              exact ⟨by rw [← HJ13.out, HJ.out, decide_eq_false h2], below_drewN (Below.refl _ _) _⟩
          · have d1 : decide ((m : Int) + 1 < (P1.length : Int)) = false := decide_eq_false (by omega)
            have HJ := Lib.hid (joins_none (most := most) (P := P1) (j := (m : Int)) (.inr (by omega)))
            go_quiet (fail)
            go_wp2
            go_meet
            exact ⟨by rw [← HJ13.out, HJ.out], below_drewN (Below.refl _ _) _⟩
        case rest =>
          obtain ⟨rfl, hbc⟩ := hcut
          have HBC := Lib.hid hbc
          clear hbc
          cases b13 with
          | true =>
            obtain ⟨a, pa, pb, ea, hpa, hpb, hsum⟩ := joins_at HJ13.out
            obtain rfl : m = a := by omega
            have HB := HBC
            have HTI : Hid (tidyP most P1 m = joinP P1 m) := Lib.hid (by rw [tidy_eq HMM.out, if_neg hz, HMH.out, if_neg hhalf, if_pos HJ13.out])
            obtain ⟨Aa, ca, hsa, hca⟩ := HPJ.out _ _ hpa
            obtain ⟨Ab, cb, hsb, hcb⟩ := HPJ.out _ _ hpb
            obtain ⟨va, wa, vb, wb, hra, hrb, hBa, hBb, hrb2⟩ := two_mem (hsa.below HB.out) (hsb.below HB.out) (by omega)
            have HK : Hid (∀ W', Below wc.heap.size wc W' → W'.cell? ⟨r, 1, none⟩ = some (.slice (some ⟨g7, 0, none⟩) P1.length c7) ∧ W'.cell? ⟨g7, m, none⟩ = some (.slice Aa pa.length ca) ∧ W'.cell? ⟨g7, m + 1, none⟩ = some (.slice Ab pb.length cb)) := Lib.hid (fun W' hW => ⟨(HR6.out _ (HB.out.trans (hW.mono HB.out.size))).1, hca _ (HB.out.trans (hW.mono HB.out.size)), hcb _ (HB.out.trans (hW.mono HB.out.size))⟩)
            have hpl := (List.getElem?_eq_some_iff.1 hpb).1
            obtain ⟨nab, hnab⟩ : ∃ n, (pa ++ pb).length = n := ⟨_, rfl⟩
            obtain ⟨Av, cv, hvb, _⟩ := hrb2.1.form
            rw [hnab] at hvb
            subst hvb
            have HRA := Lib.hid hra
            have HRB := Lib.hid hrb
            have HBA := Lib.hid hBa
            have HBB := Lib.hid hBb
            have HRO := Lib.hid hrb2
            have HPA := Lib.hid (And.intro hpa hpb)
            have HNAB := Lib.hid hnab
            have ha0 : (0 : Int) ≤ (m : Int) := by omega
            have ha01 : (0 : Int) ≤ (m : Int) + 1 := by omega
            have haI : (m : Int) < (P1.length : Int) := by omega
            have haI2 : (m : Int) + 1 < (P1.length : Int) := by omega
            have ha1w : IntKind.i64.wrap ((m : Int) + 1) = (m : Int) + 1 := IntWalk.i64_in _ (by omega)
            have ha2w : IntKind.i64.wrap ((m : Int) + 2) = (m : Int) + 2 := IntWalk.i64_in _ (by omega)
            clear hsa hsb hca hcb hra hrb hBa hBb hrb2 hpa hpb hnab
            go_wp2_with fail
            refine wp_only ?_
            refine wp_region_held_drew (S := fun W' => W'.cell? ⟨r, 1, none⟩ = some (.slice (some ⟨g7, 0, none⟩) P1.length c7) ∧ W'.cell? ⟨g7, m, none⟩ = some (.slice Aa pa.length ca) ∧ W'.cell? ⟨g7, m + 1, none⟩ = some (.slice Ab pb.length cb)) (by kernel_rfl) (HK.out _ (below_drew (Below.refl _ _))) (fun hHeld => ?_)
            refine wpAnyH_take (i := 1) (oi := { dst := some 110, op := Op.move (Operand.tmp 0), type := 28, pos := "ref.go:88", after := #[], guard := none }) (v := ?vv1) rfl (by kernel_rfl) (by kernel_rfl) (by kernel_rfl) (fun _ _ _ h => h) ?hy1 (by assumption) ?rest1
            case hy1 => (refine Or.inl ⟨by rfl, ?_⟩; intro W hSw; (try dsimp only at hSw); go_simp; (try with_reducible rfl))
            try simp only [Act.put, List.setIfInBounds_toArray, List.set_cons_zero, List.set_cons_succ]
            refine wpAnyH_take (i := 2) (oi := { dst := some 111, op := Op.nilCheck (Operand.tmp 110), type := 0, pos := "ref.go:88", after := #[{ on := 1, ground := Ground.data }], guard := none }) (v := ?vv2) rfl (by kernel_rfl) (by kernel_rfl) (by kernel_rfl) (fun _ _ _ h => h) ?hy2 (by assumption) ?rest2
            case hy2 => (refine Or.inl ⟨by rfl, ?_⟩; intro W hSw; (try dsimp only at hSw); go_simp; (try with_reducible rfl))
            try simp only [Act.put, List.setIfInBounds_toArray, List.set_cons_zero, List.set_cons_succ]
            refine wpAnyH_take (i := 3) (oi := { dst := some 112, op := Op.fieldAddr 31 (Operand.tmp 111) 1, type := 0, pos := "ref.go:88", after := #[{ on := 2, ground := Ground.data }], guard := none }) (v := ?vv3) rfl (by kernel_rfl) (by kernel_rfl) (by kernel_rfl) (fun _ _ _ h => h) ?hy3 (by assumption) ?rest3
            case hy3 => (refine Or.inl ⟨by rfl, ?_⟩; intro W hSw; (try dsimp only at hSw); go_simp; (try with_reducible rfl))
            try simp only [Act.put, List.setIfInBounds_toArray, List.set_cons_zero, List.set_cons_succ]
            refine wpAnyH_take (i := 4) (oi := { dst := some 113, op := Op.load 29 (Operand.tmp 112), type := 29, pos := "ref.go:88", after := #[{ on := 3, ground := Ground.data }], guard := none }) (v := ?vv4) rfl (by kernel_rfl) (by kernel_rfl) (by kernel_rfl) (fun _ _ _ h => h) ?hy4 (by assumption) ?rest4
            case hy4 => (refine Or.inl ⟨by rfl, ?_⟩; intro W hSw; (try dsimp only at hSw); go_simp; (try with_reducible rfl))
            try simp only [Act.put, List.setIfInBounds_toArray, List.set_cons_zero, List.set_cons_succ]
            refine wpAnyH_take (i := 5) (oi := { dst := some 114, op := Op.move (Operand.tmp 9), type := 3, pos := "ref.go:88", after := #[], guard := none }) (v := ?vv5) rfl (by kernel_rfl) (by kernel_rfl) (by kernel_rfl) (fun _ _ _ h => h) ?hy5 (by assumption) ?rest5
            case hy5 => (refine Or.inl ⟨by rfl, ?_⟩; intro W hSw; (try dsimp only at hSw); go_simp; (try with_reducible rfl))
            try simp only [Act.put, List.setIfInBounds_toArray, List.set_cons_zero, List.set_cons_succ]
            refine wpAnyH_take (i := 6) (oi := { dst := some 115, op := Op.indexAddr 29 (Operand.tmp 113) (Operand.tmp 114), type := 0, pos := "ref.go:88", after := #[{ on := 4, ground := Ground.data }, { on := 5, ground := Ground.data }], guard := none }) (v := ?vv6) rfl (by kernel_rfl) (by kernel_rfl) (by kernel_rfl) (fun _ _ _ h => h) ?hy6 (by assumption) ?rest6
            case hy6 => (refine Or.inl ⟨by rfl, ?_⟩; intro W hSw; (try dsimp only at hSw); go_simp; (try with_reducible rfl))
            try simp only [Act.put, List.setIfInBounds_toArray, List.set_cons_zero, List.set_cons_succ]
            refine wpAnyH_take (i := 7) (oi := { dst := some 116, op := Op.load 40 (Operand.tmp 115), type := 40, pos := "ref.go:88", after := #[{ on := 6, ground := Ground.data }], guard := none }) (v := ?vv7) rfl (by kernel_rfl) (by kernel_rfl) (by kernel_rfl) (fun _ _ _ h => h) ?hy7 (by assumption) ?rest7
            case hy7 => (refine Or.inl ⟨by rfl, ?_⟩; intro W hSw; (try dsimp only at hSw); go_simp; (try with_reducible rfl))
            try simp only [Act.put, List.setIfInBounds_toArray, List.set_cons_zero, List.set_cons_succ]
            refine wpAnyH_take (i := 9) (oi := { dst := some 118, op := Op.move (Operand.tmp 0), type := 28, pos := "ref.go:88", after := #[], guard := none }) (v := ?vv8) rfl (by kernel_rfl) (by kernel_rfl) (by kernel_rfl) (fun _ _ _ h => h) ?hy8 (by assumption) ?rest8
            case hy8 => (refine Or.inl ⟨by rfl, ?_⟩; intro W hSw; (try dsimp only at hSw); go_simp; (try with_reducible rfl))
            try simp only [Act.put, List.setIfInBounds_toArray, List.set_cons_zero, List.set_cons_succ]
            refine wpAnyH_take (i := 10) (oi := { dst := some 119, op := Op.nilCheck (Operand.tmp 118), type := 0, pos := "ref.go:88", after := #[{ on := 9, ground := Ground.data }], guard := none }) (v := ?vv9) rfl (by kernel_rfl) (by kernel_rfl) (by kernel_rfl) (fun _ _ _ h => h) ?hy9 (by assumption) ?rest9
            case hy9 => (refine Or.inl ⟨by rfl, ?_⟩; intro W hSw; (try dsimp only at hSw); go_simp; (try with_reducible rfl))
            try simp only [Act.put, List.setIfInBounds_toArray, List.set_cons_zero, List.set_cons_succ]
            refine wpAnyH_take (i := 11) (oi := { dst := some 120, op := Op.fieldAddr 31 (Operand.tmp 119) 1, type := 0, pos := "ref.go:88", after := #[{ on := 10, ground := Ground.data }], guard := none }) (v := ?vv10) rfl (by kernel_rfl) (by kernel_rfl) (by kernel_rfl) (fun _ _ _ h => h) ?hy10 (by assumption) ?rest10
            case hy10 => (refine Or.inl ⟨by rfl, ?_⟩; intro W hSw; (try dsimp only at hSw); go_simp; (try with_reducible rfl))
            try simp only [Act.put, List.setIfInBounds_toArray, List.set_cons_zero, List.set_cons_succ]
            refine wpAnyH_take (i := 12) (oi := { dst := some 121, op := Op.load 29 (Operand.tmp 120), type := 29, pos := "ref.go:88", after := #[{ on := 11, ground := Ground.data }], guard := none }) (v := ?vv11) rfl (by kernel_rfl) (by kernel_rfl) (by kernel_rfl) (fun _ _ _ h => h) ?hy11 (by assumption) ?rest11
            case hy11 => (refine Or.inl ⟨by rfl, ?_⟩; intro W hSw; (try dsimp only at hSw); go_simp; (try with_reducible rfl))
            try simp only [Act.put, List.setIfInBounds_toArray, List.set_cons_zero, List.set_cons_succ]
            refine wpAnyH_take (i := 13) (oi := { dst := some 122, op := Op.move (Operand.tmp 9), type := 3, pos := "ref.go:88", after := #[], guard := none }) (v := ?vv12) rfl (by kernel_rfl) (by kernel_rfl) (by kernel_rfl) (fun _ _ _ h => h) ?hy12 (by assumption) ?rest12
            case hy12 => (refine Or.inl ⟨by rfl, ?_⟩; intro W hSw; (try dsimp only at hSw); go_simp; (try with_reducible rfl))
            try simp only [Act.put, List.setIfInBounds_toArray, List.set_cons_zero, List.set_cons_succ]
            refine wpAnyH_take (i := 14) (oi := { dst := some 123, op := Op.binOp BinOp.add 3 (Operand.tmp 122) (Operand.const (Value.int IntKind.i64 1)) 3, type := 3, pos := "ref.go:88", after := #[{ on := 13, ground := Ground.data }], guard := none }) (v := ?vv13) rfl (by kernel_rfl) (by kernel_rfl) (by kernel_rfl) (fun _ _ _ h => h) ?hy13 (by assumption) ?rest13
            case hy13 => (refine Or.inl ⟨by rfl, ?_⟩; intro W hSw; (try dsimp only at hSw); go_simp; (try with_reducible rfl))
            try simp only [Act.put, List.setIfInBounds_toArray, List.set_cons_zero, List.set_cons_succ]
            refine wpAnyH_take (i := 15) (oi := { dst := some 124, op := Op.indexAddr 29 (Operand.tmp 121) (Operand.tmp 123), type := 0, pos := "ref.go:88", after := #[{ on := 12, ground := Ground.data }, { on := 14, ground := Ground.data }], guard := none }) (v := ?vv14) rfl (by kernel_rfl) (by kernel_rfl) (by kernel_rfl) (fun _ _ _ h => h) ?hy14 (by assumption) ?rest14
            case hy14 => (refine Or.inl ⟨by rfl, ?_⟩; intro W hSw; (try dsimp only at hSw); go_simp; (try with_reducible rfl))
            try simp only [Act.put, List.setIfInBounds_toArray, List.set_cons_zero, List.set_cons_succ]
            refine wpAnyH_take (i := 16) (oi := { dst := some 125, op := Op.load 40 (Operand.tmp 124), type := 40, pos := "ref.go:88", after := #[{ on := 15, ground := Ground.data }], guard := none }) (v := ?vv15) rfl (by kernel_rfl) (by kernel_rfl) (by kernel_rfl) (fun _ _ _ h => h) ?hy15 (by assumption) ?rest15
            case hy15 => (refine Or.inl ⟨by rfl, ?_⟩; intro W hSw; (try dsimp only at hSw); go_simp; (try with_reducible rfl))
            try simp only [Act.put, List.setIfInBounds_toArray, List.set_cons_zero, List.set_cons_succ]
            refine wpAnyH_ready (rs := [0]) (by kernel_rfl) (by simp) ?_
            refine AllReadyH.cons (o := { dst := some 109, op := Op.buildSlice 40 0 #[], type := 40, pos := "ref.go:88", after := #[], guard := none }) rfl (fun K hK => ?step16) ?more16
            case more16 => exact AllReadyH.nil
            ((go_simp))
            refine hK.out _ _ ?hS16 (fun hHeld => ?rr16)
            case hS16 => (exact HK.out _ (below_drew (below_new _)))
            clear hK K
            try simp only [Act.put, List.setIfInBounds_toArray, List.set_cons_zero, List.set_cons_succ]
            refine wpAnyH_ready (rs := [8]) (by kernel_rfl) (by simp) ?_
            refine AllReadyH.cons (o := { dst := some 117, op := Op.call { callee := Callee.builtin Builtin.append, args := #[Operand.tmp 109, Operand.tmp 116], argTypes := #[40, 40] }, type := 40, pos := "ref.go:88", after := #[{ on := 0, ground := Ground.data }, { on := 7, ground := Ground.data }], guard := none }) rfl (fun K hK => ?step17) ?more17
            case more17 => exact AllReadyH.nil
            (refine step_app_run HRA.out rfl (.tmp 109) (.tmp 116) rfl rfl rfl ?_)
            refine hK.out _ _ ?hS17 (fun hHeld => ?rr17)
            case hS17 => (exact HK.out _ HBA.out)
            clear hK K
            try simp only [Act.put, List.setIfInBounds_toArray, List.set_cons_zero, List.set_cons_succ]
            refine wpAnyH_ready (rs := [17]) (by kernel_rfl) (by simp) ?_
            refine AllReadyH.cons (o := { dst := some 126, op := Op.call { callee := Callee.builtin Builtin.append, args := #[Operand.tmp 117, Operand.tmp 125], argTypes := #[40, 40] }, type := 40, pos := "ref.go:88", after := #[{ on := 8, ground := Ground.data }, { on := 16, ground := Ground.data }, { on := 8, ground := Ground.chain }], guard := none }) rfl (fun K hK => ?step18) ?more18
            case more18 => exact AllReadyH.nil
            (refine step_app_run HRB.out rfl (.tmp 117) (.tmp 125) rfl rfl rfl ?_)
            refine hK.out _ _ ?hS18 (fun hHeld => ?rr18)
            case hS18 => (exact HK.out _ HBB.out)
            clear hK K
            try simp only [Act.put, List.setIfInBounds_toArray, List.set_cons_zero, List.set_cons_succ]
            refine wpAnyH_take (i := 18) (oi := { dst := some 10, op := Op.assign (Operand.tmp 126), type := 40, pos := "ref.go:88", after := #[{ on := 17, ground := Ground.data }, { on := 17, ground := Ground.chain }, { on := 0, ground := Ground.phase }, { on := 1, ground := Ground.phase }, { on := 2, ground := Ground.phase }, { on := 3, ground := Ground.phase }, { on := 4, ground := Ground.phase }, { on := 5, ground := Ground.phase }, { on := 6, ground := Ground.phase }, { on := 7, ground := Ground.phase }, { on := 8, ground := Ground.phase }, { on := 9, ground := Ground.phase }, { on := 10, ground := Ground.phase }, { on := 11, ground := Ground.phase }, { on := 12, ground := Ground.phase }, { on := 13, ground := Ground.phase }, { on := 14, ground := Ground.phase }, { on := 15, ground := Ground.phase }, { on := 16, ground := Ground.phase }, { on := 17, ground := Ground.phase }], guard := none }) (v := ?vv19) rfl (by kernel_rfl) (by kernel_rfl) (by kernel_rfl) (fun _ _ _ h => h) ?hy19 (by assumption) ?rest19
            case hy19 => (refine Or.inl ⟨by rfl, ?_⟩; intro W hSw; (try dsimp only at hSw); go_simp; (try with_reducible rfl))
            try simp only [Act.put, List.setIfInBounds_toArray, List.set_cons_zero, List.set_cons_succ]
            refine wpAnyH_done (by kernel_rfl) ?_ _
            dsimp only [onlyN]
            clear hHeld
            have hq1 := below_new (w := wb) (.cells #[.slice Av nab cv] 40)
            have HPI := Lib.hid (pgIn_new (n := 1) (ql := [.slice Av nab cv]) (Q := [pa ++ pb]) (alloc_at wb (.cells #[.slice Av nab cv] 40)) rfl rfl (by omega) (fun i x hx => by
              cases i with
              | zero =>
                obtain rfl := Option.some.inj hx
                exact ⟨_, rfl, (RowOf.sl HRO.out.1).below hq1⟩
              | succ i => simp at hx))
            have HBQ := Lib.hid (HB.out.trans ((HBB.out.trans (hq1.mono HBB.out.size)).mono HB.out.size))
            clear hq1
            go_wp2_with fail
            refine (with_post (a := m) (b := m + 2) H6.out HBQ.out (fun e => by rw [e] at hpl; simp at hpl) hl1 (by omega) (by omega) (by omega) HPI.out (by simp) (fun u hu k hk => by
              obtain rfl := List.mem_singleton.1 hu
              exact Nat.le_trans HB.out.size (HRO.out.blk k hk))).mono ?_
            rintro e w7 ⟨rfl, hpost⟩
            have HPO := Lib.hid (RPost.trans HT6.out.1 HT6.out.2 hpost)
            clear hpost
            go_wp2_with fail
            go_ret
            rw [HEQ.out, HTI.out, ← swap_join HPA.out.1 HPA.out.2]
            exact ⟨rfl, HPO.out⟩
          | false =>
            obtain ⟨b15, hb15⟩ : ∃ b, joinsP most P1 ((m : Int) - 1) = b := ⟨_, rfl⟩
            have HJ15 := Lib.hid hb15
            clear hb15
            go_upto_region 15 with fail
            go_cut [104] from 84 to 104 (fun bv wx => bv = .bool b15 ∧ Below w6.heap.size w6 wx)
            case first =>
              obtain ⟨kr, km⟩ := HR6.out _ HBC.out
              by_cases h1 : 0 < m
              · obtain ⟨m', hm'⟩ : ∃ m', m = m' + 1 := ⟨m - 1, by omega⟩
                obtain ⟨p0, hp0⟩ : ∃ x, P1[m']? = some x := ⟨_, List.getElem?_eq_getElem (by omega)⟩
                obtain ⟨Aj, cj, hslj, hcj⟩ := HPJ.out _ _ hp0
                have kj := hcj _ HBC.out
                have HJ : Hid (joinsP most P1 ((m : Int) - 1) = decide (p0.length + q.length ≤ most)) := Lib.hid (by
                  have := joins_iff (most := most) hp0 (b := q) (by rw [← hm']; exact HMM.out)
                  rw [← this]
                  congr 1
                  omega)
                have h129 := HFULL.out _ _ hp0
                have d1 : decide ((0 : Int) < (m : Int)) = true := decide_eq_true (by omega)
                have dm : IntKind.i64.wrap ((m : Int) - 1) = (m' : Int) := by rw [IntWalk.i64_in _ (by omega)]; omega
                have h1I : (m' : Int) < (P1.length : Int) := by omega
                have dw : IntKind.i64.wrap ((q.length : Int) + (p0.length : Int)) = (q.length : Int) + (p0.length : Int) := IntWalk.i64_in _ (by omega)
                have HM' := Lib.hid hm'
                clear hslj hcj hp0 hm'
                by_cases h2 : p0.length + q.length ≤ most
                · have d2 : decide ((q.length : Int) + (p0.length : Int) ≤ (most : Int)) = true := decide_eq_true (by omega)
                  have h2I : (q.length : Int) + (p0.length : Int) ≤ (most : Int) := by omega
                  go_quiet (fail)
                  go_wp2
                  go_meet
                  exact ⟨by rw [← HJ15.out, HJ.out, decide_eq_true h2], below_drewN HBC.out _⟩
                · have d2 : decide ((q.length : Int) + (p0.length : Int) ≤ (most : Int)) = false := decide_eq_false (by omega)
                  go_quiet (fail)
                  go_wp2
                  go_meet
                  exact ⟨by rw [← HJ15.out, HJ.out, decide_eq_false h2], below_drewN HBC.out _⟩
              · have d1 : decide ((0 : Int) < (m : Int)) = false := decide_eq_false (by omega)
                have HJ := Lib.hid (joins_none (most := most) (P := P1) (j := (m : Int) - 1) (.inl (by omega)))
                go_quiet (fail)
                go_wp2
                go_meet
                exact ⟨by rw [← HJ15.out, HJ.out], below_drewN HBC.out _⟩
            case rest =>
              rename_i wc1
              obtain ⟨rfl, hbd⟩ := hcut
              have HBD := Lib.hid hbd
              clear hbd
              cases b15 with
              | true =>
                obtain ⟨a, pa, pb, ea, hpa, hpb, hsum⟩ := joins_at HJ15.out
                have dm : IntKind.i64.wrap ((m : Int) - 1) = (a : Int) := by rw [IntWalk.i64_in _ (by omega)]; omega
                have HB := HBD
                have HTI : Hid (tidyP most P1 m = joinP P1 a) := Lib.hid (by rw [tidy_eq HMM.out, if_neg hz, HMH.out, if_neg hhalf, HJ13.out, if_neg (by decide), if_pos HJ15.out]; congr 1; omega)
                obtain ⟨Aa, ca, hsa, hca⟩ := HPJ.out _ _ hpa
                obtain ⟨Ab, cb, hsb, hcb⟩ := HPJ.out _ _ hpb
                obtain ⟨va, wa, vb, wb, hra, hrb, hBa, hBb, hrb2⟩ := two_mem (hsa.below HB.out) (hsb.below HB.out) (by omega)
                have HK : Hid (∀ W', Below wc.heap.size wc W' → W'.cell? ⟨r, 1, none⟩ = some (.slice (some ⟨g7, 0, none⟩) P1.length c7) ∧ W'.cell? ⟨g7, a, none⟩ = some (.slice Aa pa.length ca) ∧ W'.cell? ⟨g7, a + 1, none⟩ = some (.slice Ab pb.length cb)) := Lib.hid (fun W' hW => ⟨(HR6.out _ (HB.out.trans (hW.mono HB.out.size))).1, hca _ (HB.out.trans (hW.mono HB.out.size)), hcb _ (HB.out.trans (hW.mono HB.out.size))⟩)
                have hpl := (List.getElem?_eq_some_iff.1 hpb).1
                obtain ⟨nab, hnab⟩ : ∃ n, (pa ++ pb).length = n := ⟨_, rfl⟩
                obtain ⟨Av, cv, hvb, _⟩ := hrb2.1.form
                rw [hnab] at hvb
                subst hvb
                have HRA := Lib.hid hra
                have HRB := Lib.hid hrb
                have HBA := Lib.hid hBa
                have HBB := Lib.hid hBb
                have HRO := Lib.hid hrb2
                have HPA := Lib.hid (And.intro hpa hpb)
                have HNAB := Lib.hid hnab
                have ha0 : (0 : Int) ≤ (a : Int) := by omega
                have ha01 : (0 : Int) ≤ (a : Int) + 1 := by omega
                have haI : (a : Int) < (P1.length : Int) := by omega
                have haI2 : (a : Int) + 1 < (P1.length : Int) := by omega
                have ha1w : IntKind.i64.wrap ((a : Int) + 1) = (a : Int) + 1 := IntWalk.i64_in _ (by omega)
                have ha2w : IntKind.i64.wrap ((a : Int) + 2) = (a : Int) + 2 := IntWalk.i64_in _ (by omega)
                clear hsa hsb hca hcb hra hrb hBa hBb hrb2 hpa hpb hnab
                go_wp2_with fail
                refine wp_only ?_
                refine wp_region_held_drew (S := fun W' => W'.cell? ⟨r, 1, none⟩ = some (.slice (some ⟨g7, 0, none⟩) P1.length c7) ∧ W'.cell? ⟨g7, a, none⟩ = some (.slice Aa pa.length ca) ∧ W'.cell? ⟨g7, a + 1, none⟩ = some (.slice Ab pb.length cb)) (by kernel_rfl) (HK.out _ (below_drew (Below.refl _ _))) (fun hHeld => ?_)
                refine wpAnyH_take (i := 1) (oi := { dst := some 110, op := Op.move (Operand.tmp 0), type := 28, pos := "ref.go:88", after := #[], guard := none }) (v := ?vv20) rfl (by kernel_rfl) (by kernel_rfl) (by kernel_rfl) (fun _ _ _ h => h) ?hy20 (by assumption) ?rest20
                case hy20 => (refine Or.inl ⟨by rfl, ?_⟩; intro W hSw; (try dsimp only at hSw); go_simp; (try with_reducible rfl))
                try simp only [Act.put, List.setIfInBounds_toArray, List.set_cons_zero, List.set_cons_succ]
                refine wpAnyH_take (i := 2) (oi := { dst := some 111, op := Op.nilCheck (Operand.tmp 110), type := 0, pos := "ref.go:88", after := #[{ on := 1, ground := Ground.data }], guard := none }) (v := ?vv21) rfl (by kernel_rfl) (by kernel_rfl) (by kernel_rfl) (fun _ _ _ h => h) ?hy21 (by assumption) ?rest21
                case hy21 => (refine Or.inl ⟨by rfl, ?_⟩; intro W hSw; (try dsimp only at hSw); go_simp; (try with_reducible rfl))
                try simp only [Act.put, List.setIfInBounds_toArray, List.set_cons_zero, List.set_cons_succ]
                refine wpAnyH_take (i := 3) (oi := { dst := some 112, op := Op.fieldAddr 31 (Operand.tmp 111) 1, type := 0, pos := "ref.go:88", after := #[{ on := 2, ground := Ground.data }], guard := none }) (v := ?vv22) rfl (by kernel_rfl) (by kernel_rfl) (by kernel_rfl) (fun _ _ _ h => h) ?hy22 (by assumption) ?rest22
                case hy22 => (refine Or.inl ⟨by rfl, ?_⟩; intro W hSw; (try dsimp only at hSw); go_simp; (try with_reducible rfl))
                try simp only [Act.put, List.setIfInBounds_toArray, List.set_cons_zero, List.set_cons_succ]
                refine wpAnyH_take (i := 4) (oi := { dst := some 113, op := Op.load 29 (Operand.tmp 112), type := 29, pos := "ref.go:88", after := #[{ on := 3, ground := Ground.data }], guard := none }) (v := ?vv23) rfl (by kernel_rfl) (by kernel_rfl) (by kernel_rfl) (fun _ _ _ h => h) ?hy23 (by assumption) ?rest23
                case hy23 => (refine Or.inl ⟨by rfl, ?_⟩; intro W hSw; (try dsimp only at hSw); go_simp; (try with_reducible rfl))
                try simp only [Act.put, List.setIfInBounds_toArray, List.set_cons_zero, List.set_cons_succ]
                refine wpAnyH_take (i := 5) (oi := { dst := some 114, op := Op.move (Operand.tmp 9), type := 3, pos := "ref.go:88", after := #[], guard := none }) (v := ?vv24) rfl (by kernel_rfl) (by kernel_rfl) (by kernel_rfl) (fun _ _ _ h => h) ?hy24 (by assumption) ?rest24
                case hy24 => (refine Or.inl ⟨by rfl, ?_⟩; intro W hSw; (try dsimp only at hSw); go_simp; (try with_reducible rfl))
                try simp only [Act.put, List.setIfInBounds_toArray, List.set_cons_zero, List.set_cons_succ]
                refine wpAnyH_take (i := 6) (oi := { dst := some 115, op := Op.indexAddr 29 (Operand.tmp 113) (Operand.tmp 114), type := 0, pos := "ref.go:88", after := #[{ on := 4, ground := Ground.data }, { on := 5, ground := Ground.data }], guard := none }) (v := ?vv25) rfl (by kernel_rfl) (by kernel_rfl) (by kernel_rfl) (fun _ _ _ h => h) ?hy25 (by assumption) ?rest25
                case hy25 => (refine Or.inl ⟨by rfl, ?_⟩; intro W hSw; (try dsimp only at hSw); go_simp; (try with_reducible rfl))
                try simp only [Act.put, List.setIfInBounds_toArray, List.set_cons_zero, List.set_cons_succ]
                refine wpAnyH_take (i := 7) (oi := { dst := some 116, op := Op.load 40 (Operand.tmp 115), type := 40, pos := "ref.go:88", after := #[{ on := 6, ground := Ground.data }], guard := none }) (v := ?vv26) rfl (by kernel_rfl) (by kernel_rfl) (by kernel_rfl) (fun _ _ _ h => h) ?hy26 (by assumption) ?rest26
                case hy26 => (refine Or.inl ⟨by rfl, ?_⟩; intro W hSw; (try dsimp only at hSw); go_simp; (try with_reducible rfl))
                try simp only [Act.put, List.setIfInBounds_toArray, List.set_cons_zero, List.set_cons_succ]
                refine wpAnyH_take (i := 9) (oi := { dst := some 118, op := Op.move (Operand.tmp 0), type := 28, pos := "ref.go:88", after := #[], guard := none }) (v := ?vv27) rfl (by kernel_rfl) (by kernel_rfl) (by kernel_rfl) (fun _ _ _ h => h) ?hy27 (by assumption) ?rest27
                case hy27 => (refine Or.inl ⟨by rfl, ?_⟩; intro W hSw; (try dsimp only at hSw); go_simp; (try with_reducible rfl))
                try simp only [Act.put, List.setIfInBounds_toArray, List.set_cons_zero, List.set_cons_succ]
                refine wpAnyH_take (i := 10) (oi := { dst := some 119, op := Op.nilCheck (Operand.tmp 118), type := 0, pos := "ref.go:88", after := #[{ on := 9, ground := Ground.data }], guard := none }) (v := ?vv28) rfl (by kernel_rfl) (by kernel_rfl) (by kernel_rfl) (fun _ _ _ h => h) ?hy28 (by assumption) ?rest28
                case hy28 => (refine Or.inl ⟨by rfl, ?_⟩; intro W hSw; (try dsimp only at hSw); go_simp; (try with_reducible rfl))
                try simp only [Act.put, List.setIfInBounds_toArray, List.set_cons_zero, List.set_cons_succ]
                refine wpAnyH_take (i := 11) (oi := { dst := some 120, op := Op.fieldAddr 31 (Operand.tmp 119) 1, type := 0, pos := "ref.go:88", after := #[{ on := 10, ground := Ground.data }], guard := none }) (v := ?vv29) rfl (by kernel_rfl) (by kernel_rfl) (by kernel_rfl) (fun _ _ _ h => h) ?hy29 (by assumption) ?rest29
                case hy29 => (refine Or.inl ⟨by rfl, ?_⟩; intro W hSw; (try dsimp only at hSw); go_simp; (try with_reducible rfl))
                try simp only [Act.put, List.setIfInBounds_toArray, List.set_cons_zero, List.set_cons_succ]
                refine wpAnyH_take (i := 12) (oi := { dst := some 121, op := Op.load 29 (Operand.tmp 120), type := 29, pos := "ref.go:88", after := #[{ on := 11, ground := Ground.data }], guard := none }) (v := ?vv30) rfl (by kernel_rfl) (by kernel_rfl) (by kernel_rfl) (fun _ _ _ h => h) ?hy30 (by assumption) ?rest30
                case hy30 => (refine Or.inl ⟨by rfl, ?_⟩; intro W hSw; (try dsimp only at hSw); go_simp; (try with_reducible rfl))
                try simp only [Act.put, List.setIfInBounds_toArray, List.set_cons_zero, List.set_cons_succ]
                refine wpAnyH_take (i := 13) (oi := { dst := some 122, op := Op.move (Operand.tmp 9), type := 3, pos := "ref.go:88", after := #[], guard := none }) (v := ?vv31) rfl (by kernel_rfl) (by kernel_rfl) (by kernel_rfl) (fun _ _ _ h => h) ?hy31 (by assumption) ?rest31
                case hy31 => (refine Or.inl ⟨by rfl, ?_⟩; intro W hSw; (try dsimp only at hSw); go_simp; (try with_reducible rfl))
                try simp only [Act.put, List.setIfInBounds_toArray, List.set_cons_zero, List.set_cons_succ]
                refine wpAnyH_take (i := 14) (oi := { dst := some 123, op := Op.binOp BinOp.add 3 (Operand.tmp 122) (Operand.const (Value.int IntKind.i64 1)) 3, type := 3, pos := "ref.go:88", after := #[{ on := 13, ground := Ground.data }], guard := none }) (v := ?vv32) rfl (by kernel_rfl) (by kernel_rfl) (by kernel_rfl) (fun _ _ _ h => h) ?hy32 (by assumption) ?rest32
                case hy32 => (refine Or.inl ⟨by rfl, ?_⟩; intro W hSw; (try dsimp only at hSw); go_simp; (try with_reducible rfl))
                try simp only [Act.put, List.setIfInBounds_toArray, List.set_cons_zero, List.set_cons_succ]
                refine wpAnyH_take (i := 15) (oi := { dst := some 124, op := Op.indexAddr 29 (Operand.tmp 121) (Operand.tmp 123), type := 0, pos := "ref.go:88", after := #[{ on := 12, ground := Ground.data }, { on := 14, ground := Ground.data }], guard := none }) (v := ?vv33) rfl (by kernel_rfl) (by kernel_rfl) (by kernel_rfl) (fun _ _ _ h => h) ?hy33 (by assumption) ?rest33
                case hy33 => (refine Or.inl ⟨by rfl, ?_⟩; intro W hSw; (try dsimp only at hSw); go_simp; (try with_reducible rfl))
                try simp only [Act.put, List.setIfInBounds_toArray, List.set_cons_zero, List.set_cons_succ]
                refine wpAnyH_take (i := 16) (oi := { dst := some 125, op := Op.load 40 (Operand.tmp 124), type := 40, pos := "ref.go:88", after := #[{ on := 15, ground := Ground.data }], guard := none }) (v := ?vv34) rfl (by kernel_rfl) (by kernel_rfl) (by kernel_rfl) (fun _ _ _ h => h) ?hy34 (by assumption) ?rest34
                case hy34 => (refine Or.inl ⟨by rfl, ?_⟩; intro W hSw; (try dsimp only at hSw); go_simp; (try with_reducible rfl))
                try simp only [Act.put, List.setIfInBounds_toArray, List.set_cons_zero, List.set_cons_succ]
                refine wpAnyH_ready (rs := [0]) (by kernel_rfl) (by simp) ?_
                refine AllReadyH.cons (o := { dst := some 109, op := Op.buildSlice 40 0 #[], type := 40, pos := "ref.go:88", after := #[], guard := none }) rfl (fun K hK => ?step35) ?more35
                case more35 => exact AllReadyH.nil
                ((go_simp))
                refine hK.out _ _ ?hS35 (fun hHeld => ?rr35)
                case hS35 => (exact HK.out _ (below_drew (below_new _)))
                clear hK K
                try simp only [Act.put, List.setIfInBounds_toArray, List.set_cons_zero, List.set_cons_succ]
                refine wpAnyH_ready (rs := [8]) (by kernel_rfl) (by simp) ?_
                refine AllReadyH.cons (o := { dst := some 117, op := Op.call { callee := Callee.builtin Builtin.append, args := #[Operand.tmp 109, Operand.tmp 116], argTypes := #[40, 40] }, type := 40, pos := "ref.go:88", after := #[{ on := 0, ground := Ground.data }, { on := 7, ground := Ground.data }], guard := none }) rfl (fun K hK => ?step36) ?more36
                case more36 => exact AllReadyH.nil
                (refine step_app_run HRA.out rfl (.tmp 109) (.tmp 116) rfl rfl rfl ?_)
                refine hK.out _ _ ?hS36 (fun hHeld => ?rr36)
                case hS36 => (exact HK.out _ HBA.out)
                clear hK K
                try simp only [Act.put, List.setIfInBounds_toArray, List.set_cons_zero, List.set_cons_succ]
                refine wpAnyH_ready (rs := [17]) (by kernel_rfl) (by simp) ?_
                refine AllReadyH.cons (o := { dst := some 126, op := Op.call { callee := Callee.builtin Builtin.append, args := #[Operand.tmp 117, Operand.tmp 125], argTypes := #[40, 40] }, type := 40, pos := "ref.go:88", after := #[{ on := 8, ground := Ground.data }, { on := 16, ground := Ground.data }, { on := 8, ground := Ground.chain }], guard := none }) rfl (fun K hK => ?step37) ?more37
                case more37 => exact AllReadyH.nil
                (refine step_app_run HRB.out rfl (.tmp 117) (.tmp 125) rfl rfl rfl ?_)
                refine hK.out _ _ ?hS37 (fun hHeld => ?rr37)
                case hS37 => (exact HK.out _ HBB.out)
                clear hK K
                try simp only [Act.put, List.setIfInBounds_toArray, List.set_cons_zero, List.set_cons_succ]
                refine wpAnyH_take (i := 18) (oi := { dst := some 10, op := Op.assign (Operand.tmp 126), type := 40, pos := "ref.go:88", after := #[{ on := 17, ground := Ground.data }, { on := 17, ground := Ground.chain }, { on := 0, ground := Ground.phase }, { on := 1, ground := Ground.phase }, { on := 2, ground := Ground.phase }, { on := 3, ground := Ground.phase }, { on := 4, ground := Ground.phase }, { on := 5, ground := Ground.phase }, { on := 6, ground := Ground.phase }, { on := 7, ground := Ground.phase }, { on := 8, ground := Ground.phase }, { on := 9, ground := Ground.phase }, { on := 10, ground := Ground.phase }, { on := 11, ground := Ground.phase }, { on := 12, ground := Ground.phase }, { on := 13, ground := Ground.phase }, { on := 14, ground := Ground.phase }, { on := 15, ground := Ground.phase }, { on := 16, ground := Ground.phase }, { on := 17, ground := Ground.phase }], guard := none }) (v := ?vv38) rfl (by kernel_rfl) (by kernel_rfl) (by kernel_rfl) (fun _ _ _ h => h) ?hy38 (by assumption) ?rest38
                case hy38 => (refine Or.inl ⟨by rfl, ?_⟩; intro W hSw; (try dsimp only at hSw); go_simp; (try with_reducible rfl))
                try simp only [Act.put, List.setIfInBounds_toArray, List.set_cons_zero, List.set_cons_succ]
                refine wpAnyH_done (by kernel_rfl) ?_ _
                dsimp only [onlyN]
                clear hHeld
                have hq1 := below_new (w := wb) (.cells #[.slice Av nab cv] 40)
                have HPI := Lib.hid (pgIn_new (n := 1) (ql := [.slice Av nab cv]) (Q := [pa ++ pb]) (alloc_at wb (.cells #[.slice Av nab cv] 40)) rfl rfl (by omega) (fun i x hx => by
                  cases i with
                  | zero =>
                    obtain rfl := Option.some.inj hx
                    exact ⟨_, rfl, (RowOf.sl HRO.out.1).below hq1⟩
                  | succ i => simp at hx))
                have HBQ := Lib.hid (HB.out.trans ((HBB.out.trans (hq1.mono HBB.out.size)).mono HB.out.size))
                clear hq1
                go_wp2_with fail
                refine (with_post (a := a) (b := a + 2) H6.out HBQ.out (fun e => by rw [e] at hpl; simp at hpl) hl1 (by omega) (by omega) (by omega) HPI.out (by simp) (fun u hu k hk => by
                  obtain rfl := List.mem_singleton.1 hu
                  exact Nat.le_trans HB.out.size (HRO.out.blk k hk))).mono ?_
                rintro e w7 ⟨rfl, hpost⟩
                have HPO := Lib.hid (RPost.trans HT6.out.1 HT6.out.2 hpost)
                clear hpost
                go_wp2_with fail
                go_ret
                rw [HEQ.out, HTI.out, ← swap_join HPA.out.1 HPA.out.2]
                exact ⟨rfl, HPO.out⟩
              | false =>
                have HTI : Hid (tidyP most P1 m = P1) := Lib.hid (by rw [tidy_eq HMM.out, if_neg hz, HMH.out, if_neg hhalf, HJ13.out, if_neg (by decide), HJ15.out, if_neg (by decide)])
                go_wp2_with fail
                go_ret
                rw [HEQ.out, HTI.out]
                exact ⟨rfl, v6, us6, H6.out.below HBD.out, HT6.out.1.trans (Touch.of_below HBD.out) (fun i _ e => e), HT6.out.2⟩
end Go.Proofs.YtkkembbeejlomaaGreatDoor
