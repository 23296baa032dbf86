/- NetPlays: its walk. For any bound and all calls, the law NetPlays answers true, and its arguments read as they did. No condition but the row's own: the listed variable is tied to the program's text. -/
import Derived.Test.YtmbonngjkgcijaaGreatDoorZNetAF
import Derived.Test.YtmbonngjkgcijaaGreatDoorZMefD
import Derived.Test.YtmbonngjkgcijaaGreatDoorZNetM
import Derived.Test.YtmbonngjkgcijaaGreatDoorZPosB
import Derived.Test.YtmbonngjkgcijaaGreatDoorZMegA
import Derived.Test.YtmbonngjkgcijaaGreatDoorCards
import Derived.Test.YtmbonngjkgcijaaGreatDoorTie
import Derived.SevenTiedAt
set_option linter.unusedSimpArgs false
set_option linter.unusedVariables false
set_option linter.unnecessarySimpa false
namespace Go.Proofs.YtmbonngjkgcijaaGreatDoor
open Go.RowKit Go.Shelf
set_option maxRecDepth 100000 in
theorem nnew_no {w : World} (hG : Glob w) {most : Int} (h : ¬ (1 ≤ most ∧ most ≤ 1024)) : Calls Tryz.prog 11 #[.int .i64 most] w fun e w' => e = .returned (.tuple #[.pointer none, .int .i64 2]) ∧ Below w.heap.size w w' := by
  have HN := Lib.hid (nwithin_no (w := w) h)
  have HG := Lib.hid hG; clear h hG; go_enter Tryz.func11, Tryz.ntmps11
  go_wp2_with fail
  refine (HN.out).mono ?_
  rintro e w1 ⟨v1, rfl, ⟨t, u, rfl⟩, ⟨ch, h1, h2, h3, h4⟩, hb⟩
  have HB := Lib.hid hb; have HC := Lib.hid (code_any (w := w1) (W := w1) (HG.out.below hb) h1 h2 (by omega) (Below.refl _ _))
  have H4 := Lib.hid h4; clear h1 h2 h3 h4 hb; go_wp2_with fail
  refine (HC.out).mono ?_
  rintro e w2 ⟨rfl, hb2⟩
  have HB2 := Lib.hid (HB.out.trans (hb2.mono HB.out.size))
  clear hb2; go_wp2_with fail
  refine bodyPost_ret (v := .tuple #[.pointer none, .int .i64 (codeOf ch)]) (by simp [results, Tryz.results11, go_sem]) rfl ?_
  exact ⟨by rw [H4.out], HB2.out⟩
theorem Alike.more {w0 w W : World} {b r n m : Nat} {most : Int} (h : Alike w0 w b r most n) (hb : Below w.heap.size w W) (hm : n ≤ m) : Alike w0 W b r most m := by
  obtain ⟨v, F, Q, C, ct, h1, h2, h3, h4⟩ := h
  exact ⟨v, _, Q, C, ct, h1.more hb, h2, h3, Nat.le_trans h4 hm⟩
theorem alike_new {w w1 : World} {b : Nat} {most : Int} (h : NC w w1 b most [] [] (fun _ => False)) :
    Alike w (w1.alloc (.cells #[.int .i64 most, .slice none 0 0, .bool false, .bool false, .bool false, .bool false] 32)) b w1.heap.size most 0 := by
  refine ⟨.slice none 0 0, _, [], [], fun _ => false, ⟨h.add (below_new _), ⟨alloc_at _ _, RowIs.nil _ _, fun e => (by cases e)⟩, ⟨.inr ⟨Nat.le_refl _, heap_lt (alloc_at _ _)⟩, h.bel.size⟩, fun k hk => (by cases hk), fun x hx => (by cases hx)⟩, ⟨fun s => ⟨fun e => (by cases e), fun e => (by cases e.2.2)⟩, fun s e => (by cases e), List.nodup_nil, rfl⟩, fun x hx => (by cases hx), Nat.le_refl _⟩
set_option maxRecDepth 100000 in
set_option maxHeartbeats 16000000 in
theorem law_plays20 {w : World} (hG : Glob w) (hM : Mov w) {most : Int} {v : Value} {l : List OpN} (hv : OpnsAt w v l) (hin : ∀ o ∈ l, (MsgIn o.m ∧ (-9223372036854775808 ≤ o.i ∧ o.i ≤ 9223372036854775807) ∧ (-9223372036854775808 ≤ o.k ∧ o.k ≤ 9223372036854775807)) ∧ o.m.ti ≤ 9223372036854775807) :
    Calls Tryz.prog 3 #[.int .i64 most, v] w fun e w' => e = .returned (.bool true) ∧ Below w.heap.size w w' := by
  have qE : ∀ (w : World) (p : Addr), (binOp .eql 23 (.pointer (some p)) (.pointer none)).run Tryz.prog w = .ok (.bool false) w := fun w p => by kernel_rfl
  have HG := Lib.hid (And.intro hG hM)
  by_cases hm : ¬ (1 ≤ most ∧ most ≤ 1024)
  · have HNE := Lib.hid (nnew_no hG hm)
    obtain ⟨q1, hq1⟩ : ∃ q, decide (most < 1) = q := ⟨_, rfl⟩
    obtain ⟨A, cap, rfl, hc1, hc2, hel⟩ := hv
    cases q1 with
    | true =>
      clear hG hM hel hin hm hc1 hc2; go_enter Tryz.func3, Tryz.ntmps3
      go_wp2_with fail
      refine (HNE.out).mono ?_
      rintro e w1 ⟨rfl, hb1⟩
      have HB1 := Lib.hid hb1; have HAW := Lib.hid (nawake (HG.out.1.below hb1) (HG.out.2.below hb1))
      clear hb1; go_wp2_with fail
      refine (HAW.out).mono ?_
      rintro e w3 ⟨rfl, hb3⟩
      have HB3 := Lib.hid (HB1.out.trans (hb3.mono HB1.out.size))
      clear hb3; go_wp2_with fail
      go_ret
      exact ⟨rfl, HB3.out⟩
    | false =>
      have q2 : decide (most > 1024) = true := by have := of_decide_eq_false hq1; simp; omega
      clear hG hM hel hin hm hc1 hc2; go_enter Tryz.func3, Tryz.ntmps3
      go_wp2_with fail
      refine (HNE.out).mono ?_
      rintro e w1 ⟨rfl, hb1⟩
      have HB1 := Lib.hid hb1; have HAW := Lib.hid (nawake (HG.out.1.below hb1) (HG.out.2.below hb1))
      clear hb1; go_wp2_with fail
      refine (HAW.out).mono ?_
      rintro e w3 ⟨rfl, hb3⟩
      have HB3 := Lib.hid (HB1.out.trans (hb3.mono HB1.out.size))
      clear hb3; go_wp2_with fail
      go_ret
      exact ⟨rfl, HB3.out⟩
  · have hm := Decidable.not_not.1 hm
    have q1 : decide (most < 1) = false := by simp; omega
    have q2 : decide (most > 1024) = false := by simp; omega
    have HMO := Lib.hid hm; obtain ⟨A, cap, rfl, hc1, hc2, hel⟩ := hv
    unfold maxLen at hc2; obtain ⟨n, hn⟩ : ∃ n, l.length = n := ⟨_, rfl⟩
    rw [hn] at hc1 ⊢; have HEL := Lib.hid hel; have HN := Lib.hid hn; have HIN := Lib.hid hin; have HNE := Lib.hid (nc_new (w := w) hm.1 hm.2)
    clear hG hM hel hn hin hm; go_enter Tryz.func3, Tryz.ntmps3
    go_wp2_with fail
    refine (HNE.out).mono ?_
    rintro e w1 ⟨b, rfl, hn1⟩
    obtain ⟨W2, hW2⟩ : ∃ W, W = w1.alloc (.cells #[.int .i64 most, .slice none 0 0, .bool false, .bool false, .bool false, .bool false] 32) := ⟨_, rfl⟩
    have hal := alike_new hn1
    rw [← hW2] at hal; obtain ⟨v0, F0, Q0, C0, ct0, h1, h2, h3, h4⟩ := id hal
    have HSA := Lib.hid (lsame_any h1 h2 (by omega))
    have HST := Lib.hid hal; have HW2 := Lib.hid hW2; clear hn1 HNE h1 h2 h3 h4 hW2 hal; go_upto_region 5 with fail
    rw [← HW2.out]; go_wp2_with fail
    refine (HSA.out).mono ?_
    rintro e w3 ⟨rfl, hb3⟩
    have HS3 := Lib.hid (HST.out.more hb3 (Nat.le_refl 0))
    clear hb3; go_wp2_with fail
    go_loopw [8, 43] (fun okv iv wr => ∃ i : Nat, i ≤ n ∧ i ≤ 60 ∧ iv = .int .i64 i ∧ okv = .bool true ∧ Alike w wr b w1.heap.size most i) (fun _ iv _ => n - (intOf iv).toNat)
    case atStart => exact ⟨0, Nat.zero_le _, Nat.zero_le _, rfl, rfl, HS3.out⟩
    case round =>
      obtain ⟨i, hi, hi60, rfl, rfl, v5, F, Q, C, ct, hP, hC, hQ, hQl⟩ := hrel
      by_cases hlt : i < n
      · obtain ⟨o, ho⟩ : ∃ o, l[i]? = some o := ⟨_, List.getElem?_eq_getElem (by rw [HN.out]; exact hlt)⟩
        obtain ⟨⟨hom, hoi, hok⟩, hti⟩ := HIN.out o (List.mem_of_getElem? ho)
        obtain ⟨a, tA, tc, oA, oc, rfl, q1', hM, hnm, hops⟩ := HEL.out i o ho
        have hM' := hM.below (by rw [add_block]; exact q1') hP.net.bel
        unfold N15 at hM'; obtain ⟨m0, m1, m2, m3, m4, m5, m6, m7, m8, m9, m10, m11, m12, m13, m14⟩ := hM'
        obtain ⟨W4, hW4⟩ : ∃ W, W = wr.alloc (.cells (cellN o tA tc oA oc) 39) := ⟨_, rfl⟩
        have hb4 : Below wr.heap.size wr W4 := by rw [hW4]; exact below_new _
        have hat4 : W4.heap[wr.heap.size]? = some (.cells (cellN o tA tc oA oc) 39 (0, 0)) := by rw [hW4]; exact alloc_at _ _
        have hP4 := hP.more hb4
        have HA4 := Lib.hid hat4; have HW4 := Lib.hid hW4; have hiI : (i : Int) < (n : Int) := by omega
        by_cases h60 : i < 60
        · have hq60 : decide ((i : Int) ≥ 60) = false := by simp; omega
          have H60 := Lib.hid h60; have HL := Lib.hid (And.intro hlt hQl)
          have HSP := Lib.hid (lstep_any HG.out.1 HG.out.2 hP4 hC hQ (by omega) HMO.out.2 (o := o) hnm hops hom hti hoi hok)
          clear hM hnm hops hom hoi hok hti ho hP hC hQ hQl hlt hi60 h60 hb4 hat4 hP4 hW4 q1'; go_upto_region 9 with fail
          rw [← HW4.out]; clear m0 m1 m2 m3 m4 m5 m6 m7 m8 m9 m10 m11 m12 m13 m14; have c0 := cell_of HA4.out 0; have c1 := cell_of HA4.out 1; have c2 := cell_of HA4.out 2; have c3 := cell_of HA4.out 3; have c4 := cell_of HA4.out 4; have c5 := cell_of HA4.out 5; have c6 := cell_of HA4.out 6; have c7 := cell_of HA4.out 7; have c8 := cell_of HA4.out 8; have c9 := cell_of HA4.out 9; have c10 := cell_of HA4.out 10; have c11 := cell_of HA4.out 11; have c12 := cell_of HA4.out 12; have c13 := cell_of HA4.out 13; have c14 := cell_of HA4.out 14
          simp at c0 c1 c2 c3 c4 c5 c6 c7 c8 c9 c10 c11 c12 c13 c14
          go_wp2_with fail
          refine (HSP.out).mono ?_
          rintro e w5 ⟨rfl, hal⟩
          clear c0 c1 c2 c3 c4 c5 c6 c7 c8 c9 c10 c11 c12 c13 c14; obtain ⟨v6, F6, Q6, C6, ct6, h1, h2, h3, h4⟩ := id hal
          have HSM := Lib.hid (lsame_any h1 h2 (by have := HL.out.2; have := H60.out; omega))
          have HAL := Lib.hid hal; clear h1 h2 h3 h4 hal; go_wp2_with fail
          refine (HSM.out).mono ?_
          rintro e w6 ⟨rfl, hb6⟩
          have HF := Lib.hid (HAL.out.more hb6 (Nat.succ_le_succ HL.out.2))
          clear hb6; go_wp2_with fail
          go_roundw
          case rel => exact ⟨i + 1, HL.out.1, H60.out, by go_num, rfl, HF.out⟩
          case measure => have := HL.out.1; simp [intOf]; omega
        · have hq60 : decide ((i : Int) ≥ 60) = true := by simp; omega
          have HB4 := Lib.hid hP4.net.bel; have HAW := Lib.hid (nawake (HG.out.1.below hP4.net.bel) (HG.out.2.below hP4.net.bel))
          clear hM hnm hops hom hoi hok hti ho hP hC hQ hQl hlt hi60 h60 hb4 hat4 hP4 hW4 q1'; go_upto_region 12 with fail
          rw [← HW4.out]; clear m0 m1 m2 m3 m4 m5 m6 m7 m8 m9 m10 m11 m12 m13 m14; go_wp2_with fail
          refine (HAW.out).mono ?_
          rintro e w5 ⟨rfl, hb5⟩
          have HB5 := Lib.hid (HB4.out.trans (hb5.mono HB4.out.size))
          clear hb5; go_wp2_with fail
          go_ret
          exact ⟨rfl, HB5.out⟩
      · obtain rfl : i = n := by omega
        have HB := Lib.hid hP.net.bel; have HAW := Lib.hid (nawake (HG.out.1.below hP.net.bel) (HG.out.2.below hP.net.bel))
        clear hP hC hQ hQl; go_wp2_with fail
        refine (HAW.out).mono ?_
        rintro e w5 ⟨rfl, hb5⟩
        have HB5 := Lib.hid (HB.out.trans (hb5.mono HB.out.size))
        clear hb5; go_wp2_with fail
        go_ret
        exact ⟨rfl, HB5.out⟩
end Go.Proofs.YtmbonngjkgcijaaGreatDoor

namespace Go.Proofs.YtmbonngjkgcijaaGreatDoor
open Go.ChangeShapes Go.WideShapes Go.RowKit Go.Deep

set_option maxRecDepth 100000 in
theorem netPlays_lifted (os : Os) (started : os.Started) (H : Type) (enc : TypeId × Value → H) :
    ReturnsInHanded {} Tryz.checked os 3 .any (fun w args => (Rows.netPlaysSpec.pre enc Tryz.prog Tryz.f3 [] false w args ∧ laidMetH Tryz.prog laidJ w) ∧ sizedMet enc Tryz.prog Tryz.f3 (OpenSpec.ofChange Rows.netPlaysSpec) false w args)
      (Rows.netPlaysSpec.post enc Tryz.prog Tryz.f3 false true false false) := by
  refine returnsInHanded_of_change_and (C := Tryz.checked) (X := fun w _ => laidMetH Tryz.prog laidJ w) (fun _ _ _ hh h => h.of_heap hh) Tryz.own started (by kernel_rfl) Tryz.func3
    (ChangeSpec.witness_at (enc := enc) (C := Tryz.checked) (os := os) (X := fun w _ => laidMetH Tryz.prog laidJ w) false (laidWorldJ os) #[.int .i64 0, .slice none 0 0] 8 rfl (by kernel_rfl) (by kernel_rfl) (by kernel_rfl) (by kernel_rfl) (by kernel_rfl) (laidWorldJ_met os _)) ?_
  intro W base args ds gs before hval0 hW _ _ hL _; have hval : ∀ (j : Nat) t v, Tryz.f3.params[j]? = some t → args[j]? = some v → Value.okWide Tryz.prog W .any base t v := hval0
  have hW' := hW
  have hlt : ∀ p ∈ before, p.block < W.heap.size := fun p hp => hW.lt p hp
  obtain ⟨p, q, hA0, hV0, rfl, hfz, hnd⟩ := hW
  have hA : DataW.TrodAll enc Tryz.prog W 0 (fun _ => true) true Tryz.f3.params.toList args.toList ds p := hA0
  have hV : DataW.TrodVars enc Tryz.prog W (fun _ => true) [] gs q := hV0
  rw [Tryz.params3] at hA hval; obtain ⟨v0, v1, d0, d1, p0, p1, rfl, rfl, rfl, h0, h1⟩ := trodAll_two hA
  obtain ⟨n0, rfl, rfl, rfl, hw0⟩ := open_int Tryz.underlying3 (hval 0 3 v0 rfl rfl) h0
  have hm0 := bnd_i64 hw0
  have hlt1 : ∀ x ∈ p1, x.block < W.heap.size := fun x hx => hlt x (by simp [hx])
  obtain ⟨l1, hB1⟩ := nopw_open (hval 1 22 v1 rfl rfl) h1 hlt1
  have hg := And.intro (glob_of_laidJ hL) (mov_of_laidJ hL)
  obtain ⟨rfl, rfl⟩ : gs = [] ∧ q = [] := by
    cases gs with
    | nil => exact ⟨rfl, hV⟩
    | cons g r => exact absurd hV (by intro h; cases h)
  have e1 : Rows.netPlaysSpec.fn H ([.lit (.int .i64 n0), d1] ++ []) = { results := [.lit (.bool true)], args := [.lit (.int .i64 n0), d1] } := by simp [Rows.netPlaysSpec]
  refine (law_plays20 hg.1 hg.2 hB1.1 hB1.2).mono fun e W' ⟨he, hb⟩ => ?_
  subst he; refine ⟨_, rfl, _, _, _, [], [] ++ (p1), [], hW', ?_, ?_, ?_, World.keptBut_mono (fun x hx => hx.elim) (hb.frame fun _ => False), fun h => by cases h⟩
  · rw [e1]; exact trodAll_mk1 (shut_bool Tryz.underlying4 true)
  · rw [e1]; exact trodAll_mk2 (shut_int Tryz.underlying3 hw0) (Below.trod Tryz.laidOut (by kernel_rfl) (of_decide_eq_true (by kernel_rfl)) h1 hb hlt1)
  · rw [e1]; rfl

theorem netPlays_holds : Rows.NetPlaysSaid :=
  OpenClaim.holds_of_wide 3 Tryz.f3 rfl rfl rfl rfl rfl rfl rfl ⟨rfl, rfl, rfl, rfl, rfl⟩ rfl rfl rfl rfl rfl (by kernel_rfl) Tryz.func3 (by kernel_rfl)
    (of_decide_eq_true (by kernel_rfl)) (by unfold Func.isWrapper; rw [if_neg (of_decide_eq_false (by kernel_rfl))]; exact ⟨rfl, rfl⟩)
    (fun os started H enc _ => netPlays_lifted os started H enc)

theorem netPlays_card : Rows.NetPlaysCardSaid :=
  Claim7.holds_tied_plain_at .later [] [.handle, .data] true (true, "870f95efb384b9def3955a7332d9ba4eb62f5863b1dbe6e0a781cad40031b143") true
    netPlays_holds (fun _ h => by cases h) (by kernel_rfl) (fun _ h => by cases h) netPlays_row_tie rfl ⟨rfl, rfl⟩ (by kernel_rfl) rfl
    (fun f fn hf hfn => by
      obtain rfl : f = 3 := Option.some.inj ((show Tryz.prog.funcNamed "byroad/byroadlaw20.NetPlays" = some 3 by kernel_rfl).symm.trans hf) |>.symm
      obtain rfl : fn = Tryz.f3 := (Option.some.inj (Tryz.func3.symm.trans hfn)).symm
      exact ⟨by kernel_rfl, fun j t ht => by
        rw [Tryz.params3] at ht; have hm : t ∈ [3, 22] := List.mem_of_getElem? (by simpa using ht)
        have hall : ([3, 22].all fun u => !Tryz.prog.wantsStandIn u) = true := by kernel_rfl
        exact (show Tryz.prog.wantsStandIn t = false by simpa using List.all_eq_true.1 hall t hm)⟩)
    (by kernel_rfl)
#print axioms netPlays_card
end Go.Proofs.YtmbonngjkgcijaaGreatDoor
