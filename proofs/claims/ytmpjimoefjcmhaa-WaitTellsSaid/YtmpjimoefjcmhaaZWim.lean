/- WaitTells: circles, victims, whom one waits for, and orders are as the chapter says; there is an order just if nobody stands in a circle. -/
import Derived.Test.YtmpjimoefjcmhaaZWir
set_option linter.unusedSimpArgs false
set_option linter.unusedVariables false
set_option linter.unnecessarySimpa false
namespace Go.Proofs.Ytmpjimoefjcmhaa
open Go.RowKit

/-- Where each of some has one to which it leads among them, one stands in a circle. -/
theorem circ_of {E : Int → Int → Prop} {U ns : List Int} (hns : ns.Nodup) (hU : ∀ u ∈ U, u ∈ ns) (hn : ∀ u ∈ U, ∃ v ∈ U, E u v) {u : Int} (hu : u ∈ U) : ∃ y, Circ E y := by
  classical
  have key : ∀ (n : Nat) (u : Int), u ∈ U → (ns.filter fun y => decide (Rch E u y)).length ≤ n → ∃ y, Circ E y := by
    intro n
    induction n with
    | zero =>
      intro u hu hle
      have : u ∈ ns.filter fun y => decide (Rch E u y) := List.mem_filter.2 ⟨hU u hu, by simp [Rch.refl]⟩
      rw [List.eq_nil_of_length_eq_zero (Nat.le_zero.1 hle)] at this
      cases this
    | succ n ih =>
      intro u hu hle
      obtain ⟨v, hv, he⟩ := hn u hu
      by_cases hlt : (ns.filter fun y => decide (Rch E v y)).length ≤ n
      · exact ih v hv hlt
      · refine ⟨u, v, he, ?_⟩
        by_cases hvu : Rch E v u
        · exact hvu
        · exfalso
          have h1 := nodup_le (r := u :: ns.filter fun y => decide (Rch E v y)) (m := ns.filter fun y => decide (Rch E u y)) (List.nodup_cons.2 ⟨fun e => hvu (by simpa using (List.mem_filter.1 e).2), hns.filter _⟩) (fun z hz => by
            rcases List.mem_cons.1 hz with rfl | e
            · exact List.mem_filter.2 ⟨hU z hu, by simp [Rch.refl]⟩
            · obtain ⟨e1, e2⟩ := List.mem_filter.1 e
              have e2 : Rch E v z := by simpa using e2
              exact List.mem_filter.2 ⟨e1, by simpa using e2.head he⟩)
          rw [List.length_cons] at h1
          omega
  exact key _ u hu (Nat.le_refl _)
theorem ord_stuck {G : Gr} {ks : List Int} (hG : ∀ x, (at_ G x).Nodup) : ∀ (n : Nat) (o : List Int), OrdI G ks o → n = ks.length - o.length → ordP G ks n o = none → ∃ o', OrdI G ks o' ∧ o'.length < ks.length ∧ freeP G ks o' = []
  | 0, o, _, _, h => by cases h
  | n + 1, o, hI, hn, h => by
    cases hf : freeP G ks o with
    | nil => exact ⟨o, hI, by omega, hf⟩
    | cons w F =>
      rw [ord_some hf] at h
      have hlt := hI.few hf
      exact ord_stuck hG n (o ++ [w]) (hI.snoc hG hf) (by rw [List.length_append, List.length_singleton]; omega) h
/-- There is an order just if nobody stands in a circle. -/
theorem order_circ {l : List (Int × Int)} {c o : List Int} {b : Bool} (hc : CircP l c) (h : ordP (graphR l) (allP l) (allP l).length [] = (if b then some o else none)) (hb : b = true → OrdI (graphR l) (allP l) o ∧ o.length = (allP l).length) : b = decide (c.length = 0) := by
  obtain ⟨h1, h2, _⟩ := allP_holds l
  have hk : KeysP l (allP l) := ⟨(lt_le h1).1, (lt_le h1).2, h2⟩
  cases b with
  | true =>
    obtain ⟨hI, hl⟩ := hb rfl
    have hno : c = [] := by
      cases c with
      | nil => rfl
      | cons y c =>
        exfalso
        obtain ⟨z, hz, hr⟩ := (hc.mem y).1 (by simp)
        obtain ⟨i, j, hi, hj, hji⟩ := order_at hI hk hl hz
        have key : ∀ a, Rch (fun x z => (x, z) ∈ l) z a → ∃ k, o[k]? = some a ∧ k ≤ j := by
          intro a ha
          induction ha with
          | refl => exact ⟨j, hj, Nat.le_refl _⟩
          | tail _ he ih =>
            obtain ⟨k, hk1, hk2⟩ := ih
            obtain ⟨i2, j2, hi2, hj2, hlt⟩ := order_at hI hk hl he
            have := nodup_at hI.one hi2 hk1
            exact ⟨j2, hj2, by omega⟩
        obtain ⟨k, hk1, hk2⟩ := key y hr
        have := nodup_at hI.one hk1 hi
        omega
    rw [hno]
    rfl
  | false =>
    obtain ⟨o', hI, hlt, hf⟩ := ord_stuck (fun x => at_nodup l x) _ [] (OrdI.nil _ _) (by simp) h
    have hU : ∃ u ∈ allP l, u ∉ o' := by
      by_cases e : ∃ u ∈ allP l, u ∉ o'
      · exact e
      · have := nodup_le hk.one (fun y hy => by
          by_cases e2 : y ∈ o'
          · exact e2
          · exact (e ⟨y, hy, e2⟩).elim)
        omega
    obtain ⟨u, hu1, hu2⟩ := hU
    obtain ⟨y, hy⟩ := circ_of (E := fun x z => (x, z) ∈ l) (U := (allP l).filter fun y => !o'.contains y) hk.one (fun a ha => (List.mem_filter.1 ha).1) (fun a ha => by
      obtain ⟨ha1, ha2⟩ := List.mem_filter.1 ha
      have ha3 : a ∉ o' := by simpa using ha2
      have hne : owes (graphR l) o' a ≠ 0 := fun e => by
        have : a ∈ freeP (graphR l) (allP l) o' := mem_free.2 ⟨ha1, ha3, e⟩
        rw [hf] at this
        cases this
      have hex : ∃ z ∈ at_ (graphR l) a, z ∉ o' := by
        by_cases e : ∃ z ∈ at_ (graphR l) a, z ∉ o'
        · exact e
        · exact (hne (owes_zero.2 (fun z hz => by
            by_cases e2 : z ∈ o'
            · exact e2
            · exact (e ⟨z, hz, e2⟩).elim))).elim
      obtain ⟨z, hz, hzo⟩ := hex
      have hz' := (mem_at l a z).1 hz
      exact ⟨z, List.mem_filter.2 ⟨(hk.mem z).2 ⟨_, hz', .inr rfl⟩, by simpa using hzo⟩, hz'⟩) (u := u) (List.mem_filter.2 ⟨hu1, by simpa using hu2⟩)
    have hyc := (hc.mem y).2 hy
    cases c with
    | nil => cases hyc
    | cons a c => simp
set_option maxRecDepth 100000 in
set_option maxHeartbeats 8000000 in
theorem law_tells {w : World} {v : Value} {l0 : List (Int × Int)} {x : Int} (h : EIs w v l0) (hr : ∀ e ∈ l0, InR64 e.1 ∧ InR64 e.2) (hx : InR64 x) :
    Calls Try.prog 3 #[v, .int .i64 x] w fun e w' => e = .returned (.bool true) ∧ Below w.heap.size w w' := by
  have HC := Lib.hid (cut_any h)
  have HR : Hid (∀ e ∈ l0.take 24, InR64 e.1 ∧ InR64 e.2) := Lib.hid (fun e he => hr e (List.mem_of_mem_take he))
  have hl : (l0.take 24).length ≤ 24 := by rw [List.length_take]; omega
  generalize l0.take 24 = l at HC HR hl
  have HX := Lib.hid hx
  have HL := Lib.hid hl
  clear h hr hx hl
  go_enter Try.func3, Try.ntmps3
  go_wp2_with fail
  refine (HC.out).mono ?_
  rintro e w1 ⟨v1, rfl, he1, rfl⟩
  have HE := Lib.hid he1
  have HO := Lib.hid (ours_any he1 (by have := HL.out; omega))
  clear he1 HC
  go_wp2_with fail
  refine (HO.out).mono ?_
  rintro e w2 ⟨xv, rfl, hx2, hb2⟩
  have HB2 := Lib.hid hb2
  have HXV := Lib.hid hx2
  have HE2 := Lib.hid (HE.out.below hb2)
  have HCR := Lib.hid (circ_ref HE2.out (by have := HL.out; omega))
  clear hx2 hb2 HO
  go_wp2_with fail
  refine (HCR.out).mono ?_
  rintro e w3 ⟨cv, c, rfl, hcp, hcv, _, hb3⟩
  have HB3 := Lib.hid (HB2.out.trans (hb3.mono HB2.out.size))
  have HCP := Lib.hid hcp
  have HCV3 := Lib.hid hcv
  have HXV3 := Lib.hid (HXV.out.below hb3)
  have HE3 := Lib.hid (HE2.out.below hb3)
  have HCF := Lib.hid hcp.few
  have HVI := Lib.hid (victim_any HXV3.out HR.out (by have := HL.out; omega))
  clear hcp hcv hb3 HCR
  go_wp2_with fail
  refine (HVI.out).mono ?_
  rintro e w4 ⟨n, b, rfl, hvp, hb4⟩
  have HB4 := Lib.hid (HB3.out.trans (hb4.mono HB3.out.size))
  have HVP := Lib.hid hvp
  have HCV4 := Lib.hid (HCV3.out.below hb4)
  have HXV4 := Lib.hid (HXV3.out.below hb4)
  have HE4 := Lib.hid (HE3.out.below hb4)
  have HOR := Lib.hid (order_any HXV4.out HR.out (by have := HL.out; omega))
  clear hvp hb4 HVI
  go_wp2_with fail
  refine (HOR.out).mono ?_
  rintro e w5 ⟨ov, o, bo, ns, rfl, hks, hop, hof, hot, hov, _, hb5⟩
  have hna := hks.all
  subst hna
  have hfo : o.length ≤ 48 := by
    cases bo with
    | false => rw [hof rfl]; simp
    | true => have h1 := (hot rfl).2; have h2 := hks.few; have := HL.out; omega
  have HFO := Lib.hid hfo
  have HBO := Lib.hid (order_circ HCP.out hop hot)
  have HB5 := Lib.hid (HB4.out.trans (hb5.mono HB4.out.size))
  have HOP := Lib.hid hop
  have HOF := Lib.hid hof
  have HOV5 := Lib.hid hov
  have HCV5 := Lib.hid (HCV4.out.below hb5)
  have HXV5 := Lib.hid (HXV4.out.below hb5)
  have HE5 := Lib.hid (HE4.out.below hb5)
  have HRO := Lib.hid (ord_ref HE5.out (by have := HL.out; omega))
  clear hks hop hof hot hov hb5 hfo HOR
  go_wp2_with fail
  refine (HRO.out).mono ?_
  rintro e w6 ⟨rv, ro, br, rfl, hrp, hrf, hrv, hb6⟩
  have heq : bo = br ∧ o = ro := by
    have h1 := HOP.out
    rw [hrp] at h1
    cases bo <;> cases br
    · exact ⟨rfl, by rw [HOF.out rfl, hrf rfl]⟩
    · cases h1
    · cases h1
    · refine ⟨rfl, ?_⟩
      injection h1 with h1
      exact h1.symm
  obtain ⟨rfl, rfl⟩ := heq
  have HB6 := Lib.hid (HB5.out.trans (hb6.mono HB5.out.size))
  have HRV6 := Lib.hid hrv
  have HOV6 := Lib.hid (HOV5.out.below hb6)
  have HCV6 := Lib.hid (HCV5.out.below hb6)
  have HXV6 := Lib.hid (HXV5.out.below hb6)
  have HE6 := Lib.hid (HE5.out.below hb6)
  have HCI := Lib.hid (circles_any HXV6.out HR.out (by have := HL.out; omega))
  clear hrp hrf hrv hb6 HRO
  go_wp2_with fail
  refine (HCI.out).mono ?_
  rintro e w7 ⟨dv, d, rfl, hdp, hdv, _, hb7⟩
  have := hdp.uniq HCP.out (fun _ => Iff.rfl)
  subst this
  have HB7 := Lib.hid (HB6.out.trans (hb7.mono HB6.out.size))
  have HRV7 := Lib.hid (HRV6.out.below hb7)
  have HOV7 := Lib.hid (HOV6.out.below hb7)
  have HCV7 := Lib.hid (HCV6.out.below hb7)
  have HXV7 := Lib.hid (HXV6.out.below hb7)
  have HE7 := Lib.hid (HE6.out.below hb7)
  have HIS := Lib.hid (ints_same hdv HCV7.out (by have := HCF.out; have := HL.out; omega))
  clear hdp hdv hb7 HCI
  go_wp2_with fail
  refine (HIS.out).mono ?_
  rintro e w8 ⟨rfl, hb8⟩
  have HB8 := Lib.hid (HB7.out.trans (hb8.mono HB7.out.size))
  have HRV8 := Lib.hid (HRV7.out.below hb8)
  have HOV8 := Lib.hid (HOV7.out.below hb8)
  have HCV8 := Lib.hid (HCV7.out.below hb8)
  have HXV8 := Lib.hid (HXV7.out.below hb8)
  have HE8 := Lib.hid (HE7.out.below hb8)
  clear hb8 HIS
  -- the circles and the victim
  obtain ⟨A8, c8, e8, hc81, hc82, _, _, hc83⟩ := HCV8.out.form
  subst e8
  unfold maxLen at hc82
  have HRA := Lib.hid (reach_any3 HXV8.out HR.out (by have := HL.out; omega) HX.out)
  have hcase : (d = [] ∧ n = 0 ∧ b = false) ∨ ∃ d0, d = d0 ++ [n] ∧ b = true := by
    obtain ⟨d', hd', h1⟩ := HVP.out
    have := hd'.uniq HCP.out (fun _ => Iff.rfl)
    subst this
    exact h1
  rcases hcase with ⟨hd, rfl, rfl⟩ | ⟨d0, hd, rfl⟩
  · have hdl : d.length = 0 := by rw [hd]; rfl
    have hbo : bo = true := by rw [HBO.out, hdl]; rfl
    subst hbo
    rw [hdl] at hc81 ⊢
    clear hd hdl hc83
    go_wp2_with fail
    refine (HRA.out).mono ?_
    rintro e w9 ⟨v9, r9, rfl, hrp9, hri9, hv9, _, hb9⟩
    have HB9 := Lib.hid (HB8.out.trans (hb9.mono HB8.out.size))
    have HRV9 := Lib.hid (HRV8.out.below hb9)
    have HOV9 := Lib.hid (HOV8.out.below hb9)
    have HRP := Lib.hid hrp9
    have HRI := Lib.hid hri9
    have HV9 := Lib.hid hv9
    have HRB := Lib.hid (reach_ref (x := x) (HE8.out.below hb9) (by have := HL.out; omega))
    clear hrp9 hri9 hv9 hb9 HRA
    go_wp2_with fail
    refine (HRB.out).mono ?_
    rintro e w10 ⟨v10, r10, rfl, hrp10, hri10, hv10, _, hb10⟩
    have := hrp10.uniq HRP.out hri10 HRI.out (fun _ => Iff.rfl)
    subst this
    have HB10 := Lib.hid (HB9.out.trans (hb10.mono HB9.out.size))
    have HRV10 := Lib.hid (HRV9.out.below hb10)
    have HOV10 := Lib.hid (HOV9.out.below hb10)
    have HI10 := Lib.hid (ints_same (HV9.out.below hb10) hv10 (by have := hrp10.few; have := HL.out; omega))
    clear hrp10 hri10 hv10 hb10 HRB
    go_wp2_with fail
    refine (HI10.out).mono ?_
    rintro e w11 ⟨rfl, hb11⟩
    have HB11 := Lib.hid (HB10.out.trans (hb11.mono HB10.out.size))
    have HI11 := Lib.hid (ints_same (HOV10.out.below hb11) (HRV10.out.below hb11) (by have := HFO.out; omega))
    clear hb11 HI10
    go_wp2_with fail
    refine (HI11.out).mono ?_
    rintro e w12 ⟨rfl, hb12⟩
    have HB12 := Lib.hid (HB11.out.trans (hb12.mono HB11.out.size))
    have HAW := Lib.hid (awake_any w12)
    clear hb12 HI11
    go_wp2_with fail
    refine (HAW.out).mono ?_
    rintro e w13 ⟨rfl, hb13⟩
    have HB13 := Lib.hid (HB12.out.trans (hb13.mono HB12.out.size))
    clear hb13 HAW
    go_wp2_with fail
    go_ret
    first | exact HB13.out | exact ⟨rfl, HB13.out⟩
  · obtain ⟨k, hk⟩ : ∃ k, d0.length = k := ⟨_, rfl⟩
    have hdl : d.length = k + 1 := by rw [hd, List.length_append, List.length_singleton, hk]
    have hbo : bo = false := by rw [HBO.out, hdl]; simp
    subst hbo
    obtain ⟨g, rfl, kc⟩ := hc83 k (.int .i64 n) (by unfold ints; rw [List.getElem?_map, hd, List.getElem?_append_right (by omega), hk]; simp)
    rw [hdl] at hc81 ⊢
    have q0 : ((k : Int) + 1 == 0) = false := by rw [beq_eq_false_iff_ne]; omega
    have q1 : ((0 : Int) < (k : Int) + 1) = True := eq_true (by omega)
    have q2 : (k : Int) + 1 ≤ 9223372036854775807 := by omega
    have HQ0 := Lib.hid q0
    clear hd hdl hk hc83
    go_wp2_with fail
    refine (HRA.out).mono ?_
    rintro e w9 ⟨v9, r9, rfl, hrp9, hri9, hv9, _, hb9⟩
    have HB9 := Lib.hid (HB8.out.trans (hb9.mono HB8.out.size))
    have HRV9 := Lib.hid (HRV8.out.below hb9)
    have HOV9 := Lib.hid (HOV8.out.below hb9)
    have HRP := Lib.hid hrp9
    have HRI := Lib.hid hri9
    have HV9 := Lib.hid hv9
    have HRB := Lib.hid (reach_ref (x := x) (HE8.out.below hb9) (by have := HL.out; omega))
    clear hrp9 hri9 hv9 hb9 HRA kc
    go_wp2_with fail
    refine (HRB.out).mono ?_
    rintro e w10 ⟨v10, r10, rfl, hrp10, hri10, hv10, _, hb10⟩
    have := hrp10.uniq HRP.out hri10 HRI.out (fun _ => Iff.rfl)
    subst this
    have HB10 := Lib.hid (HB9.out.trans (hb10.mono HB9.out.size))
    have HRV10 := Lib.hid (HRV9.out.below hb10)
    have HOV10 := Lib.hid (HOV9.out.below hb10)
    have HI10 := Lib.hid (ints_same (HV9.out.below hb10) hv10 (by have := hrp10.few; have := HL.out; omega))
    clear hrp10 hri10 hv10 hb10 HRB
    go_wp2_with fail
    refine (HI10.out).mono ?_
    rintro e w11 ⟨rfl, hb11⟩
    have HB11 := Lib.hid (HB10.out.trans (hb11.mono HB10.out.size))
    have HI11 := Lib.hid (ints_same (HOV10.out.below hb11) (HRV10.out.below hb11) (by have := HFO.out; omega))
    clear hb11 HI10
    go_wp2_with fail
    refine (HI11.out).mono ?_
    rintro e w12 ⟨rfl, hb12⟩
    have HB12 := Lib.hid (HB11.out.trans (hb12.mono HB11.out.size))
    have HAW := Lib.hid (awake_any w12)
    clear hb12 HI11
    go_wp2_with fail
    refine (HAW.out).mono ?_
    rintro e w13 ⟨rfl, hb13⟩
    have HB13 := Lib.hid (HB12.out.trans (hb13.mono HB12.out.size))
    clear hb13 HAW
    go_wp2_with fail
    go_ret
    first | exact HB13.out | exact ⟨rfl, HB13.out⟩
end Go.Proofs.Ytmpjimoefjcmhaa
