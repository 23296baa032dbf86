/- The law's same: a store and the document's, of the same pages. -/
import Derived.Test.YtkkembbeejlomaaGreatDoorZPgeK
set_option linter.unusedSimpArgs false
set_option linter.unusedVariables false
set_option linter.unnecessarySimpa false
namespace Go.Proofs.YtkkembbeejlomaaGreatDoor
open Go.RowKit Go.Shelf Go.Sort Go.Lib

set_option maxRecDepth 100000 in
set_option maxHeartbeats 16000000 in
theorem same_any {w0 w : World} {s most r : Nat} {mr : Int} {vr : Value} {us : List Value} {P : List (List Row)} (hS : Sr w0 w s most P) (hR : RAt w r mr vr us P) (hok : RowsOk P) :
    Calls Tryz.prog 7 #[.pointer (some ⟨s, 0, none⟩), .pointer (some ⟨r, 0, none⟩)] w fun e w' => e = .returned (.bool true) ∧ Below w.heap.size w w' := by
  obtain ⟨A, c, hv, hc1, hc2, _, _, _⟩ := hR.row.form
  have ks0 : w.cell? ⟨r, 1, none⟩ = some vr := cell_of hR.head 1
  unfold maxLen at hc2
  have hPl := hS.fine.len
  have htot := hS.fine.total
  have h64 : ∀ p ∈ P, p.length ≤ 64 := fun p hp => by
    obtain ⟨i, hi⟩ := List.getElem?_of_mem hp
    exact (hS.fine.page hi).2.2
  have HRC : Hid (∀ W, Below w.heap.size w W → W.cell? ⟨r, 1, none⟩ = some (.slice A P.length c)) := Lib.hid (fun W hW => by rw [← hv]; exact (hW.cell (p := ⟨r, 1, none⟩) (World.block_lt_of_cell? _ _ ks0)).trans ks0)
  have HLEN := Lib.hid hS.len
  have HRO : Hid (∀ W, Below w.heap.size w W → Calls Tryz.prog 21 #[.pointer (some ⟨r, 0, none⟩)] W fun e w' => ∃ v', e = .returned v' ∧ RowsIs w' W.heap.size v' P.flatten ∧ Below W.heap.size W w') := Lib.hid (fun W hW => rrows_any (hR.below hW) (by omega) (by omega))
  have HSC : Hid (∀ W, Below w.heap.size w W → Calls Tryz.prog 24 #[.pointer (some ⟨s, 0, none⟩), .string ⟨#[]⟩, .string ⟨#[]⟩] W fun e w' => ∃ v', e = .returned v' ∧ RowsIs w' W.heap.size v' P.flatten ∧ Below W.heap.size W w') := Lib.hid (fun W hW => (hS.keep hW).scan)
  have HBY : Hid (∀ W, Below w.heap.size w W → Calls Tryz.prog 25 #[.pointer (some ⟨s, 0, none⟩)] W fun e w' => ∃ v', e = .returned v' ∧ OwnBy w' W.heap.size v' (bytesP P) ∧ Below W.heap.size W w') := Lib.hid (fun W hW => (hS.keep hW).bytes hok)
  have HRB : Hid (∀ W, Below w.heap.size w W → Calls Tryz.prog 11 #[.pointer (some ⟨r, 0, none⟩)] W fun e w' => ∃ v', e = .returned v' ∧ OwnBy w' W.heap.size v' (bytesP P) ∧ Below W.heap.size W w') := Lib.hid (fun W hW => RBytes_any (hR.below hW) hPl h64 (fun p hp x hx => (hok p hp x hx).w))
  have HPG : Hid (∀ W, Below w.heap.size w W → Calls Tryz.prog 17 #[.pointer (some ⟨s, 0, none⟩)] W fun e w' => ∃ v' L', e = .returned v' ∧ PgsL w' W.heap.size v' L' P ∧ Below W.heap.size W w') := Lib.hid (fun W hW => (hS.keep hW).pagesL)
  have HSM : Hid (∀ W pv, Below w.heap.size w W → PgS W pv P → Calls Tryz.prog 22 #[pv, .slice A P.length c] W fun e w' => e = .returned (.bool true) ∧ Below W.heap.size W w') := Lib.hid (fun W pv hW hp => by
    have h2 := (hR.below hW).pgs
    rw [hv] at h2
    have := RSame_any hp h2 (by omega) (by omega) (fun p hp => Nat.le_trans (h64 p hp) (by omega)) (fun p hp => Nat.le_trans (h64 p hp) (by omega))
    rw [decide_eq_true rfl] at this
    exact this)
  obtain ⟨F, hF⟩ : ∃ F, P.flatten = F := ⟨_, rfl⟩
  rw [hF] at HRO HSC HLEN htot
  have HCR : Hid (∀ (W : World) a b, RowOf W a F → RowOf W b F → Calls Tryz.prog 23 #[a, b] W fun e w' => e = .returned (.bool true) ∧ Below W.heap.size W w') := Lib.hid (fun W a b ha hb => by
    have := RRows_any ha hb (by omega) (by omega)
    rw [decide_eq_true rfl] at this
    exact this)
  obtain ⟨X, hX⟩ : ∃ X, bytesP P = X := ⟨_, rfl⟩
  rw [hX] at HBY HRB
  have HP64 := Lib.hid h64
  have hPI : (P.length : Int) ≤ 256 := by omega
  have hFI : (F.length : Int) ≤ 256 := by omega
  clear hS hR hok hv ks0 hF hX h64
  go_enter Tryz.func7, Tryz.ntmps7
  go_wp2_with fail
  refine (HLEN.out).mono ?_
  rintro e w1 ⟨rfl, hb1⟩
  have HB1 := Lib.hid hb1
  clear hb1
  go_wp2_with fail
  refine (HRO.out _ HB1.out).mono ?_
  rintro e w2 ⟨v2, rfl, hr2, hb2⟩
  have HB2 := Lib.hid (HB1.out.trans (hb2.mono HB1.out.size))
  obtain ⟨A2, c2, rfl, _⟩ := hr2.1.form
  clear hr2 hb2
  go_wp2_with fail
  refine (HPG.out _ HB2.out).mono ?_
  rintro e w3 ⟨v3, L3, rfl, hpg, hb3⟩
  have HB3 := Lib.hid (HB2.out.trans (hb3.mono HB2.out.size))
  have HP3 := Lib.hid hpg
  have HB23 := Lib.hid hb3
  obtain ⟨A3, c3, rfl, hd1, hd2, _⟩ := RowIs.form hpg.row
  unfold maxLen at hd2
  clear hpg hb3
  go_upto_region 4 with fail
  go_cut [43] from 20 to 43 (fun cv wx => cv = .bool false ∧ Below w3.heap.size w3 wx)
  case first =>
    refine wp_only ?_
    refine wp_region_held_drew (S := fun W => Below w.heap.size w W) (by kernel_rfl) (below_drew HB3.out) (fun hHeld => ?_)
    refine wpAnyH_take (i := 0) (oi := { dst := some 20, op := Op.move (Operand.tmp 5), type := 29, pos := "law.go:56", after := #[], guard := none }) (v := ?vv1) rfl (by kernel_rfl) (by kernel_rfl) (by kernel_rfl) (fun _ _ _ h => h) ?hy1 (by assumption) ?rest1
    case hy1 => (refine Or.inl ⟨by rfl, ?_⟩; intro W hSw; (try dsimp only at hSw); go_simp; (try with_reducible rfl))
    try simp only [Act.put, List.setIfInBounds_toArray, List.set_cons_zero, List.set_cons_succ]
    refine wpAnyH_take (i := 1) (oi := { dst := some 21, op := Op.move (Operand.tmp 1), type := 28, pos := "law.go:56", after := #[], guard := none }) (v := ?vv2) rfl (by kernel_rfl) (by kernel_rfl) (by kernel_rfl) (fun _ _ _ h => h) ?hy2 (by assumption) ?rest2
    case hy2 => (refine Or.inl ⟨by rfl, ?_⟩; intro W hSw; (try dsimp only at hSw); go_simp; (try with_reducible rfl))
    try simp only [Act.put, List.setIfInBounds_toArray, List.set_cons_zero, List.set_cons_succ]
    refine wpAnyH_take (i := 2) (oi := { dst := some 22, op := Op.nilCheck (Operand.tmp 21), type := 0, pos := "law.go:56", after := #[{ on := 1, ground := Ground.data }], guard := none }) (v := ?vv3) rfl (by kernel_rfl) (by kernel_rfl) (by kernel_rfl) (fun _ _ _ h => h) ?hy3 (by assumption) ?rest3
    case hy3 => (refine Or.inl ⟨by rfl, ?_⟩; intro W hSw; (try dsimp only at hSw); go_simp; (try with_reducible rfl))
    try simp only [Act.put, List.setIfInBounds_toArray, List.set_cons_zero, List.set_cons_succ]
    refine wpAnyH_take (i := 3) (oi := { dst := some 23, op := Op.fieldAddr 31 (Operand.tmp 22) 1, type := 0, pos := "law.go:56", after := #[{ on := 2, ground := Ground.data }], guard := none }) (v := ?vv4) rfl (by kernel_rfl) (by kernel_rfl) (by kernel_rfl) (fun _ _ _ h => h) ?hy4 (by assumption) ?rest4
    case hy4 => (refine Or.inl ⟨by rfl, ?_⟩; intro W hSw; (try dsimp only at hSw); go_simp; (try with_reducible rfl))
    try simp only [Act.put, List.setIfInBounds_toArray, List.set_cons_zero, List.set_cons_succ]
    refine wpAnyH_take (i := 4) (oi := { dst := some 24, op := Op.load 29 (Operand.tmp 23), type := 29, pos := "law.go:56", after := #[{ on := 3, ground := Ground.data }], guard := none }) (v := (.slice A P.length c)) rfl (by kernel_rfl) (by kernel_rfl) (by kernel_rfl) (fun _ _ _ h => h) ?hy5 (by assumption) ?rest5
    case hy5 => ((refine Or.inl ⟨by rfl, ?_⟩; intro W hSw; (try dsimp only at hSw); have hrc := HRC.out W hSw; go_simp; (try with_reducible rfl)))
    try simp only [Act.put, List.setIfInBounds_toArray, List.set_cons_zero, List.set_cons_succ]
    refine wpAnyH_ready (rs := [5]) (by kernel_rfl) (by simp) ?_
    refine AllReadyH.cons (o := { dst := some 25, op := Op.call { callee := Callee.value (Operand.func 22), args := #[Operand.tmp 20, Operand.tmp 24], argTypes := #[29, 29] }, type := 4, pos := "law.go:56", after := #[{ on := 0, ground := Ground.data }, { on := 4, ground := Ground.data }], guard := none }) rfl (fun K hK => ?step6) ?more6
    case more6 => exact AllReadyH.nil
    ((go_simp; go_at_call 22; refine (HSM.out _ _ (below_drew HB3.out) ((HP3.out.below (below_drew (Below.refl _ _))).pgs)).mono ?_; rintro e w4 ⟨rfl, hb4⟩; have HB4 := Lib.hid (below_of_drew hb4); have HW4 := Lib.hid (HB3.out.trans ((below_of_drew hb4).mono HB3.out.size)); clear hb4; go_wp2_with fail))
    refine hK.out _ _ ?hS6 (fun hHeld => ?rr6)
    case hS6 => (exact HW4.out)
    clear hK K
    try simp only [Act.put, List.setIfInBounds_toArray, List.set_cons_zero, List.set_cons_succ]
    refine wpAnyH_take (i := 6) (oi := { dst := some 26, op := Op.unOp UnOp.not 4 (Operand.tmp 25), type := 4, pos := "law.go:56", after := #[{ on := 5, ground := Ground.data }], guard := none }) (v := ?vv7) rfl (by kernel_rfl) (by kernel_rfl) (by kernel_rfl) (fun _ _ _ h => h) ?hy7 (by assumption) ?rest7
    case hy7 => (refine Or.inl ⟨by rfl, ?_⟩; intro W hSw; (try dsimp only at hSw); go_simp; (try with_reducible rfl))
    try simp only [Act.put, List.setIfInBounds_toArray, List.set_cons_zero, List.set_cons_succ]
    refine wpAnyH_take (i := 7) (oi := { dst := some 27, op := Op.move (Operand.tmp 26), type := 4, pos := "law.go:56", after := #[{ on := 6, ground := Ground.data }, { on := 5, ground := Ground.chain }], guard := none }) (v := ?vv8) rfl (by kernel_rfl) (by kernel_rfl) (by kernel_rfl) (fun _ _ _ h => h) ?hy8 (by assumption) ?rest8
    case hy8 => (refine Or.inl ⟨by rfl, ?_⟩; intro W hSw; (try dsimp only at hSw); go_simp; (try with_reducible rfl))
    try simp only [Act.put, List.setIfInBounds_toArray, List.set_cons_zero, List.set_cons_succ]
    refine wpAnyH_take (i := 8) (oi := { dst := some 28, op := Op.move (Operand.tmp 0), type := 23, pos := "law.go:56", after := #[{ on := 7, ground := Ground.guard }], guard := some (7, false) }) (v := ?vv9) rfl (by kernel_rfl) (by kernel_rfl) (by kernel_rfl) (fun _ _ _ h => h) ?hy9 (by assumption) ?rest9
    case hy9 => (refine Or.inl ⟨by rfl, ?_⟩; intro W hSw; (try dsimp only at hSw); go_simp; (try with_reducible rfl))
    try simp only [Act.put, List.setIfInBounds_toArray, List.set_cons_zero, List.set_cons_succ]
    refine wpAnyH_take (i := 10) (oi := { dst := some 30, op := Op.move (Operand.tmp 1), type := 28, pos := "law.go:56", after := #[{ on := 7, ground := Ground.guard }], guard := some (7, false) }) (v := ?vv10) rfl (by kernel_rfl) (by kernel_rfl) (by kernel_rfl) (fun _ _ _ h => h) ?hy10 (by assumption) ?rest10
    case hy10 => (refine Or.inl ⟨by rfl, ?_⟩; intro W hSw; (try dsimp only at hSw); go_simp; (try with_reducible rfl))
    try simp only [Act.put, List.setIfInBounds_toArray, List.set_cons_zero, List.set_cons_succ]
    refine wpAnyH_ready (rs := [9]) (by kernel_rfl) (by simp) ?_
    refine AllReadyH.cons (o := { dst := some 29, op := Op.call { callee := Callee.value (Operand.func 24), args := #[Operand.tmp 28, Operand.const (Value.string { data := #[] }), Operand.const (Value.string { data := #[] })], argTypes := #[23, 9, 9] }, type := 40, pos := "law.go:56", after := #[{ on := 8, ground := Ground.data }, { on := 7, ground := Ground.chain }, { on := 7, ground := Ground.guard }], guard := some (7, false) }) rfl (fun K hK => ?step11) ?more11
    case more11 => exact AllReadyH.nil
    ((go_simp; go_at_call 24; refine (HSC.out _ HW4.out).mono ?_; rintro e w5 ⟨vs, rfl, hrs, hbs⟩; have HRS := Lib.hid hrs; have HW5 := Lib.hid (HW4.out.trans (hbs.mono HW4.out.size)); have HBS := Lib.hid hbs; obtain ⟨As, cs, rfl, _⟩ := hrs.1.form; clear hrs hbs; go_wp2_with fail))
    refine hK.out _ _ ?hS11 (fun hHeld => ?rr11)
    case hS11 => (exact HW5.out)
    clear hK K
    try simp only [Act.put, List.setIfInBounds_toArray, List.set_cons_zero, List.set_cons_succ]
    refine wpAnyH_ready (rs := [11]) (by kernel_rfl) (by simp) ?_
    refine AllReadyH.cons (o := { dst := some 31, op := Op.call { callee := Callee.value (Operand.func 21), args := #[Operand.tmp 30], argTypes := #[28] }, type := 40, pos := "law.go:56", after := #[{ on := 10, ground := Ground.data }, { on := 9, ground := Ground.chain }, { on := 7, ground := Ground.guard }], guard := some (7, false) }) rfl (fun K hK => ?step12) ?more12
    case more12 => exact AllReadyH.nil
    ((go_simp; go_at_call 21; refine (HRO.out _ HW5.out).mono ?_; rintro e w6 ⟨vo, rfl, hro, hbo⟩; have HRW := Lib.hid hro; have HW6 := Lib.hid (HW5.out.trans (hbo.mono HW5.out.size)); have HBO := Lib.hid hbo; obtain ⟨Ao, co, rfl, _⟩ := hro.1.form; clear hro hbo; go_wp2_with fail))
    refine hK.out _ _ ?hS12 (fun hHeld => ?rr12)
    case hS12 => (exact HW6.out)
    clear hK K
    try simp only [Act.put, List.setIfInBounds_toArray, List.set_cons_zero, List.set_cons_succ]
    have HB6 := Lib.hid ((HB4.out.trans (HBS.out.mono HB4.out.size)).trans (HBO.out.mono (Nat.le_trans HB4.out.size HBS.out.size)))
    refine wpAnyH_ready (rs := [12]) (by kernel_rfl) (by simp) ?_
    refine AllReadyH.cons (o := { dst := some 32, op := Op.call { callee := Callee.value (Operand.func 23), args := #[Operand.tmp 29, Operand.tmp 31], argTypes := #[40, 40] }, type := 4, pos := "law.go:56", after := #[{ on := 9, ground := Ground.data }, { on := 11, ground := Ground.data }, { on := 11, ground := Ground.chain }, { on := 7, ground := Ground.guard }], guard := some (7, false) }) rfl (fun K hK => ?step13) ?more13
    case more13 => exact AllReadyH.nil
    ((go_simp; go_at_call 23; refine (HCR.out _ _ _ (HRS.out.1.below HBO.out) HRW.out.1).mono ?_; rintro e w7 ⟨rfl, hb7⟩; have HW7 := Lib.hid (HW6.out.trans (hb7.mono HW6.out.size)); have HB7 := Lib.hid (HB6.out.trans (hb7.mono HB6.out.size)); clear hb7; go_wp2_with fail))
    refine hK.out _ _ ?hS13 (fun hHeld => ?rr13)
    case hS13 => (exact HW7.out)
    clear hK K
    try simp only [Act.put, List.setIfInBounds_toArray, List.set_cons_zero, List.set_cons_succ]
    refine wpAnyH_take (i := 13) (oi := { dst := some 33, op := Op.unOp UnOp.not 4 (Operand.tmp 32), type := 4, pos := "law.go:56", after := #[{ on := 12, ground := Ground.data }, { on := 7, ground := Ground.guard }], guard := some (7, false) }) (v := ?vv14) rfl (by kernel_rfl) (by kernel_rfl) (by kernel_rfl) (fun _ _ _ h => h) ?hy14 (by assumption) ?rest14
    case hy14 => (refine Or.inl ⟨by rfl, ?_⟩; intro W hSw; (try dsimp only at hSw); go_simp; (try with_reducible rfl))
    try simp only [Act.put, List.setIfInBounds_toArray, List.set_cons_zero, List.set_cons_succ]
    refine wpAnyH_take (i := 14) (oi := { dst := some 34, op := Op.pick (Operand.tmp 27) (Operand.const (Value.bool true)) (Operand.tmp 33), type := 4, pos := "law.go:56", after := #[{ on := 7, ground := Ground.data }, { on := 13, ground := Ground.data }], guard := none }) (v := ?vv15) rfl (by kernel_rfl) (by kernel_rfl) (by kernel_rfl) (fun _ _ _ h => h) ?hy15 (by assumption) ?rest15
    case hy15 => (refine Or.inl ⟨by rfl, ?_⟩; intro W hSw; (try dsimp only at hSw); go_simp; (try with_reducible rfl))
    try simp only [Act.put, List.setIfInBounds_toArray, List.set_cons_zero, List.set_cons_succ]
    refine wpAnyH_take (i := 15) (oi := { dst := some 35, op := Op.move (Operand.tmp 34), type := 4, pos := "law.go:56", after := #[{ on := 14, ground := Ground.data }, { on := 12, ground := Ground.chain }], guard := none }) (v := ?vv16) rfl (by kernel_rfl) (by kernel_rfl) (by kernel_rfl) (fun _ _ _ h => h) ?hy16 (by assumption) ?rest16
    case hy16 => (refine Or.inl ⟨by rfl, ?_⟩; intro W hSw; (try dsimp only at hSw); go_simp; (try with_reducible rfl))
    try simp only [Act.put, List.setIfInBounds_toArray, List.set_cons_zero, List.set_cons_succ]
    refine wpAnyH_take (i := 16) (oi := { dst := some 36, op := Op.move (Operand.tmp 0), type := 23, pos := "law.go:56", after := #[{ on := 15, ground := Ground.guard }], guard := some (15, false) }) (v := ?vv17) rfl (by kernel_rfl) (by kernel_rfl) (by kernel_rfl) (fun _ _ _ h => h) ?hy17 (by assumption) ?rest17
    case hy17 => (refine Or.inl ⟨by rfl, ?_⟩; intro W hSw; (try dsimp only at hSw); go_simp; (try with_reducible rfl))
    try simp only [Act.put, List.setIfInBounds_toArray, List.set_cons_zero, List.set_cons_succ]
    refine wpAnyH_take (i := 19) (oi := { dst := some 39, op := Op.move (Operand.tmp 1), type := 28, pos := "law.go:56", after := #[{ on := 15, ground := Ground.guard }], guard := some (15, false) }) (v := ?vv18) rfl (by kernel_rfl) (by kernel_rfl) (by kernel_rfl) (fun _ _ _ h => h) ?hy18 (by assumption) ?rest18
    case hy18 => (refine Or.inl ⟨by rfl, ?_⟩; intro W hSw; (try dsimp only at hSw); go_simp; (try with_reducible rfl))
    try simp only [Act.put, List.setIfInBounds_toArray, List.set_cons_zero, List.set_cons_succ]
    refine wpAnyH_ready (rs := [17]) (by kernel_rfl) (by simp) ?_
    refine AllReadyH.cons (o := { dst := some 37, op := Op.call { callee := Callee.value (Operand.func 25), args := #[Operand.tmp 36], argTypes := #[23] }, type := 39, pos := "law.go:56", after := #[{ on := 16, ground := Ground.data }, { on := 15, ground := Ground.chain }, { on := 15, ground := Ground.guard }], guard := some (15, false) }) rfl (fun K hK => ?step19) ?more19
    case more19 => exact AllReadyH.nil
    ((go_simp; go_at_call 25; refine (HBY.out _ HW7.out).mono ?_; rintro e w8 ⟨vp, rfl, hop, hbp⟩; have HOP := Lib.hid hop.bis; have HW8 := Lib.hid (HW7.out.trans (hbp.mono HW7.out.size)); have HBP := Lib.hid hbp; obtain ⟨Ap, cp, rfl⟩ := hop.len; clear hop hbp; go_wp2_with fail))
    refine hK.out _ _ ?hS19 (fun hHeld => ?rr19)
    case hS19 => (exact HW8.out)
    clear hK K
    try simp only [Act.put, List.setIfInBounds_toArray, List.set_cons_zero, List.set_cons_succ]
    refine wpAnyH_into (T := fun W => Below w8.heap.size w8 W) (fun W hW => HW8.out.trans (hW.mono HW8.out.size)) _ _ _ _ ?_
    have hHeld : Below w8.heap.size w8 w8 := Below.refl _ _
    refine wpAnyH_take (i := 18) (oi := { dst := some 38, op := Op.convert 39 9 (Operand.tmp 37), type := 9, pos := "law.go:56", after := #[{ on := 17, ground := Ground.data }, { on := 15, ground := Ground.guard }], guard := some (15, false) }) (v := (.string ⟨X.toArray⟩)) rfl (by kernel_rfl) (by kernel_rfl) (by kernel_rfl) (fun _ _ _ h => h) ?hy20 (by assumption) ?rest20
    case hy20 => ((refine Or.inl ⟨by rfl, ?_⟩; intro W hSw; (try dsimp only at hSw); have hcv := bis_string (HOP.out.below hSw); go_simp; (try with_reducible rfl)))
    try simp only [Act.put, List.setIfInBounds_toArray, List.set_cons_zero, List.set_cons_succ]
    refine wpAnyH_ready (rs := [20]) (by kernel_rfl) (by simp) ?_
    refine AllReadyH.cons (o := { dst := some 40, op := Op.call { callee := Callee.value (Operand.func 11), args := #[Operand.tmp 39], argTypes := #[28] }, type := 39, pos := "law.go:56", after := #[{ on := 19, ground := Ground.data }, { on := 17, ground := Ground.chain }, { on := 15, ground := Ground.guard }], guard := some (15, false) }) rfl (fun K hK => ?step21) ?more21
    case more21 => exact AllReadyH.nil
    ((go_simp; go_at_call 11; refine (HRB.out _ HW8.out).mono ?_; rintro e w9 ⟨vq, rfl, hoq, hbq⟩; have HOQ := Lib.hid hoq.bis; have HW9 := Lib.hid (HW8.out.trans (hbq.mono HW8.out.size)); have HBQ := Lib.hid hbq; obtain ⟨Aq, cq, rfl⟩ := hoq.len; clear hoq hbq; go_wp2_with fail))
    refine hK.out _ _ ?hS21 (fun hHeld => ?rr21)
    case hS21 => (exact HBQ.out)
    clear hK K
    try simp only [Act.put, List.setIfInBounds_toArray, List.set_cons_zero, List.set_cons_succ]
    refine wpAnyH_into (T := fun W => Below w9.heap.size w9 W) (fun W hW => HBQ.out.trans (hW.mono HBQ.out.size)) _ _ _ _ ?_
    have hHeld : Below w9.heap.size w9 w9 := Below.refl _ _
    refine wpAnyH_take (i := 21) (oi := { dst := some 41, op := Op.convert 39 9 (Operand.tmp 40), type := 9, pos := "law.go:56", after := #[{ on := 20, ground := Ground.data }, { on := 15, ground := Ground.guard }], guard := some (15, false) }) (v := (.string ⟨X.toArray⟩)) rfl (by kernel_rfl) (by kernel_rfl) (by kernel_rfl) (fun _ _ _ h => h) ?hy22 (by assumption) ?rest22
    case hy22 => ((refine Or.inl ⟨by rfl, ?_⟩; intro W hSw; (try dsimp only at hSw); have hcv := bis_string (HOQ.out.below hSw); go_simp; (try with_reducible rfl)))
    try simp only [Act.put, List.setIfInBounds_toArray, List.set_cons_zero, List.set_cons_succ]
    refine wpAnyH_take (i := 22) (oi := { dst := some 42, op := Op.binOp BinOp.neq 9 (Operand.tmp 38) (Operand.tmp 41) 9, type := 4, pos := "law.go:56", after := #[{ on := 18, ground := Ground.data }, { on := 21, ground := Ground.data }, { on := 15, ground := Ground.guard }], guard := some (15, false) }) (v := (.bool false)) rfl (by kernel_rfl) (by kernel_rfl) (by kernel_rfl) (fun _ _ _ h => h) ?hy23 (by assumption) ?rest23
    case hy23 => ((refine Or.inl ⟨by rfl, ?_⟩; intro W hSw; (try dsimp only at hSw); go_simp; (try simp)))
    try simp only [Act.put, List.setIfInBounds_toArray, List.set_cons_zero, List.set_cons_succ]
    refine wpAnyH_take (i := 23) (oi := { dst := some 43, op := Op.pick (Operand.tmp 35) (Operand.const (Value.bool true)) (Operand.tmp 42), type := 4, pos := "law.go:56", after := #[{ on := 15, ground := Ground.data }, { on := 22, ground := Ground.data }], guard := none }) (v := ?vv24) rfl (by kernel_rfl) (by kernel_rfl) (by kernel_rfl) (fun _ _ _ h => h) ?hy24 (by assumption) ?rest24
    case hy24 => (refine Or.inl ⟨by rfl, ?_⟩; intro W hSw; (try dsimp only at hSw); go_simp; (try with_reducible rfl))
    try simp only [Act.put, List.setIfInBounds_toArray, List.set_cons_zero, List.set_cons_succ]
    refine wpAnyH_done (by kernel_rfl) ?_ _
    dsimp only [onlyN]
    clear hHeld
    go_wp2_with fail
    go_meet
    exact ⟨rfl, (HB7.out.trans (HBP.out.mono HB7.out.size)).trans (HBQ.out.mono (Nat.le_trans HB7.out.size HBP.out.size))⟩
  case rest =>
    obtain ⟨rfl, hbc⟩ := hcut
    have HBC := Lib.hid (HB3.out.trans (hbc.mono HB3.out.size))
    have HPC := Lib.hid (HP3.out.below hbc)
    have HB2C : Hid (Below w2.heap.size w2 wc) := Lib.hid (HB23.out.trans (hbc.mono HB23.out.size))
    clear hbc
    go_wp2_with fail
    go_loopw [46] (fun iv wr => ∃ (i : Nat) (P' : List (List Row)), i ≤ P.length ∧ iv = .int .i64 i ∧ PgsL wr w2.heap.size (.slice A3 P.length c3) L3 P' ∧ P'.length = P.length ∧ (∀ p ∈ P', p.length ≤ 64) ∧ Below w2.heap.size w2 wr) (fun iv _ => P.length - (intOf iv).toNat)
    case atStart => exact ⟨0, P, Nat.zero_le _, rfl, HPC.out, rfl, HP64.out, HB2C.out⟩
    case round =>
      obtain ⟨i, P', hi, rfl, hpg, hPP, h64, hbw⟩ := hrel
      by_cases hlt : i < P.length
      · have hiI : (i : Int) < (P.length : Int) := by omega
        obtain ⟨p, hp⟩ : ∃ p, P'[i]? = some p := ⟨_, List.getElem?_eq_getElem (by rw [hPP]; exact hlt)⟩
        obtain ⟨a, ha⟩ : ∃ a, L3[i]? = some a := ⟨_, List.getElem?_eq_getElem (by rw [hpg.len, hPP]; exact hlt)⟩
        obtain ⟨A9, c9, e9, _, _, _, _, hcell⟩ := RowIs.form hpg.row
        obtain ⟨g9, e8, kc⟩ := hcell i _ (pgsV_at ha hp)
        injection e9 with e91 e92 e93
        subst e91 e8 e93
        clear e92
        have hp64 := h64 p (List.mem_of_getElem? hp)
        have hpI : (p.length : Int) ≤ 64 := by omega
        obtain ⟨np, hnp⟩ : ∃ np, p.length = np := ⟨_, rfl⟩
        have HA := Lib.hid ha
        have HLT := Lib.hid hlt
        have HPG := Lib.hid (And.intro hpg (And.intro hPP (And.intro h64 hbw)))
        have HPN := Lib.hid (And.intro hp hnp)
        have HG9 : Hid (∀ W P2 q, PgsL W w2.heap.size (.slice (some ⟨g9, 0, none⟩) P.length c3) L3 P2 → P2[i]? = some q → W.cell? ⟨g9, i, none⟩ = some (.slice (some ⟨a.g, a.o, none⟩) q.length a.cap) ∧ (∀ (k : Nat) (x : Row), q[k]? = some x → W.cell? ⟨a.g, a.o + (k * 2 + 1), none⟩ = some (.int .i64 x.n) ∧ W.frozen? ⟨a.g, a.o + (k * 2 + 1), none⟩ = false)) := Lib.hid (fun W P2 q h2 hq => by
          obtain ⟨A9, c9, e9, _, _, _, _, hcell⟩ := RowIs.form h2.row
          obtain ⟨g8, e8, kc⟩ := hcell i _ (pgsV_at HA.out hq)
          injection e9 with e91 e92 e93
          subst e8
          injection e91 with e91
          injection e91 with e91
          subst e91
          refine ⟨kc, fun k x hx => ?_⟩
          obtain ⟨hA, hql⟩ := h2.each i a q HA.out hq
          have hkl := (List.getElem?_eq_some_iff.1 hx).1
          exact ⟨hA.holds _ _ (pgC_at hx).2, (hA.there (k * 2 + 1) (by omega)).2⟩)
        rw [hnp] at hpI
        have kc2 : wr.cell? ⟨g9, i, none⟩ = some (.slice (some ⟨a.g, a.o, none⟩) np a.cap) := by rw [← hnp]; exact kc
        clear hp ha kc hpg hPP h64 hbw hlt hcell hnp hp64
        go_wp2_with fail
        clear kc2
        go_loopw [54] (fun jv wx => ∃ (j : Nat) (P2 : List (List Row)) (q : List Row), j ≤ np ∧ jv = .int .i64 j ∧ PgsL wx w2.heap.size (.slice (some ⟨g9, 0, none⟩) P.length c3) L3 P2 ∧ P2.length = P.length ∧ (∀ p ∈ P2, p.length ≤ 64) ∧ P2[i]? = some q ∧ q.length = np ∧ Below w2.heap.size w2 wx) (fun jv _ => np - (intOf jv).toNat)
        case atStart => exact ⟨0, _, p, Nat.zero_le _, rfl, HPG.out.1, HPG.out.2.1, HPG.out.2.2.1, HPN.out.1, HPN.out.2, HPG.out.2.2.2⟩
        case round =>
          obtain ⟨wx, rfl⟩ : ∃ wx, wx = wr := ⟨_, rfl⟩
          obtain ⟨j, P2, q, hj, rfl, hpg, hPP, h64, hq, hqn, hbw⟩ := hrel
          by_cases hjt : j < np
          · obtain ⟨x, hx⟩ : ∃ x, q[j]? = some x := ⟨_, List.getElem?_eq_getElem (by omega)⟩
            obtain ⟨k1, k2⟩ := HG9.out wx P2 q hpg hq
            obtain ⟨k3, f3⟩ := k2 j x hx
            rw [hqn] at k1
            rw [← Nat.add_assoc] at k3 f3
            have hmx := (hpg.each i a q HA.out hq).1.max
            have hac := (hpg.each i a q HA.out hq).2
            rw [hqn] at hac
            unfold maxLen at hmx
            have hjI : (j : Int) < (np : Int) := by omega
            have hpk := fun m => hpg.poke (x := ⟨x.k, m⟩) HA.out hq hx rfl (by have := hbw.size; omega)
            have HPK := Lib.hid hpk
            have HQ := Lib.hid (And.intro hq (And.intro hqn (And.intro hPP (And.intro h64 hbw))))
            have HJT := Lib.hid hjt
            have hiI2 : (i : Int) < (P.length : Int) := by omega
            clear hpg hq hqn hPP h64 hbw hjt hx k2 hpk
            go_wp2_with fail
            go_roundw
            case rel =>
              obtain ⟨h1, h2, h3, h4, h5⟩ := HQ.out
              obtain ⟨p1, p2⟩ := HPK.out (wrap64 (x.n + 1))
              rw [← Nat.add_assoc] at p1 p2
              have hil := (List.getElem?_eq_some_iff.1 h1).1
              refine ⟨j + 1, _, q.set j ⟨x.k, wrap64 (x.n + 1)⟩, HJT.out, by go_num, p1, by rw [List.length_set]; exact h3, fun y hy => ?_, List.getElem?_set_self hil, by rw [List.length_set]; exact h2, h5.trans p2⟩
              rcases List.mem_or_eq_of_mem_set hy with hy | rfl
              · exact h4 y hy
              · rw [List.length_set]
                exact h4 q (List.mem_of_getElem? h1)
            case measure => have := HJT.out; simp [intOf]; omega
          · have HFIN := Lib.hid (And.intro hpg (And.intro hPP (And.intro h64 hbw)))
            obtain rfl : j = np := by omega
            clear hpg hPP h64 hq hqn hbw hjt
            go_wp2_with fail
            go_roundw
            case rel => exact ⟨i + 1, P2, HLT.out, by go_num, HFIN.out.1, HFIN.out.2.1, HFIN.out.2.2.1, HFIN.out.2.2.2⟩
            case measure => have := HLT.out; simp [intOf]; omega
      · obtain rfl : i = P.length := by omega
        have HWR := Lib.hid (HB2.out.trans (hbw.mono HB2.out.size))
        clear hpg hPP h64 hbw hlt
        go_wp2_with fail
        refine wp_only ?_
        refine wp_region_held_drew (S := fun W => Below w.heap.size w W) (by kernel_rfl) (below_drew HWR.out) (fun hHeld => ?_)
        refine wpAnyH_take (i := 0) (oi := { dst := some 70, op := Op.move (Operand.tmp 0), type := 23, pos := "law.go:64", after := #[], guard := none }) (v := ?vv25) rfl (by kernel_rfl) (by kernel_rfl) (by kernel_rfl) (fun _ _ _ h => h) ?hy25 (by assumption) ?rest25
        case hy25 => (refine Or.inl ⟨by rfl, ?_⟩; intro W hSw; (try dsimp only at hSw); go_simp; (try with_reducible rfl))
        try simp only [Act.put, List.setIfInBounds_toArray, List.set_cons_zero, List.set_cons_succ]
        refine wpAnyH_take (i := 2) (oi := { dst := some 72, op := Op.move (Operand.tmp 1), type := 28, pos := "law.go:64", after := #[], guard := none }) (v := ?vv26) rfl (by kernel_rfl) (by kernel_rfl) (by kernel_rfl) (fun _ _ _ h => h) ?hy26 (by assumption) ?rest26
        case hy26 => (refine Or.inl ⟨by rfl, ?_⟩; intro W hSw; (try dsimp only at hSw); go_simp; (try with_reducible rfl))
        try simp only [Act.put, List.setIfInBounds_toArray, List.set_cons_zero, List.set_cons_succ]
        refine wpAnyH_take (i := 3) (oi := { dst := some 73, op := Op.nilCheck (Operand.tmp 72), type := 0, pos := "law.go:64", after := #[{ on := 2, ground := Ground.data }], guard := none }) (v := ?vv27) rfl (by kernel_rfl) (by kernel_rfl) (by kernel_rfl) (fun _ _ _ h => h) ?hy27 (by assumption) ?rest27
        case hy27 => (refine Or.inl ⟨by rfl, ?_⟩; intro W hSw; (try dsimp only at hSw); go_simp; (try with_reducible rfl))
        try simp only [Act.put, List.setIfInBounds_toArray, List.set_cons_zero, List.set_cons_succ]
        refine wpAnyH_take (i := 4) (oi := { dst := some 74, op := Op.fieldAddr 31 (Operand.tmp 73) 1, type := 0, pos := "law.go:64", after := #[{ on := 3, ground := Ground.data }], guard := none }) (v := ?vv28) rfl (by kernel_rfl) (by kernel_rfl) (by kernel_rfl) (fun _ _ _ h => h) ?hy28 (by assumption) ?rest28
        case hy28 => (refine Or.inl ⟨by rfl, ?_⟩; intro W hSw; (try dsimp only at hSw); go_simp; (try with_reducible rfl))
        try simp only [Act.put, List.setIfInBounds_toArray, List.set_cons_zero, List.set_cons_succ]
        refine wpAnyH_take (i := 5) (oi := { dst := some 75, op := Op.load 29 (Operand.tmp 74), type := 29, pos := "law.go:64", after := #[{ on := 4, ground := Ground.data }], guard := none }) (v := (.slice A P.length c)) rfl (by kernel_rfl) (by kernel_rfl) (by kernel_rfl) (fun _ _ _ h => h) ?hy29 (by assumption) ?rest29
        case hy29 => ((refine Or.inl ⟨by rfl, ?_⟩; intro W hSw; (try dsimp only at hSw); have hrc := HRC.out W hSw; go_simp; (try with_reducible rfl)))
        try simp only [Act.put, List.setIfInBounds_toArray, List.set_cons_zero, List.set_cons_succ]
        refine wpAnyH_ready (rs := [1]) (by kernel_rfl) (by simp) ?_
        refine AllReadyH.cons (o := { dst := some 71, op := Op.call { callee := Callee.value (Operand.func 17), args := #[Operand.tmp 70], argTypes := #[23] }, type := 29, pos := "law.go:64", after := #[{ on := 0, ground := Ground.data }], guard := none }) rfl (fun K hK => ?step30) ?more30
        case more30 => exact AllReadyH.nil
        ((go_simp; go_at_call 17; refine (HPG.out _ (below_drew HWR.out)).mono ?_; rintro e w5 ⟨v5, L5, rfl, hpg5, hb5⟩; have HP5 := Lib.hid hpg5; have HW5 := Lib.hid (HWR.out.trans ((below_of_drew hb5).mono HWR.out.size)); obtain ⟨A5, c5, rfl, _⟩ := RowIs.form hpg5.row; clear hpg5 hb5; go_wp2_with fail))
        refine hK.out _ _ ?hS30 (fun hHeld => ?rr30)
        case hS30 => (exact HW5.out)
        clear hK K
        try simp only [Act.put, List.setIfInBounds_toArray, List.set_cons_zero, List.set_cons_succ]
        refine wpAnyH_ready (rs := [6]) (by kernel_rfl) (by simp) ?_
        refine AllReadyH.cons (o := { dst := some 76, op := Op.call { callee := Callee.value (Operand.func 22), args := #[Operand.tmp 71, Operand.tmp 75], argTypes := #[29, 29] }, type := 4, pos := "law.go:64", after := #[{ on := 1, ground := Ground.data }, { on := 5, ground := Ground.data }, { on := 1, ground := Ground.chain }], guard := none }) rfl (fun K hK => ?step31) ?more31
        case more31 => exact AllReadyH.nil
        ((go_simp; go_at_call 22; refine (HSM.out _ _ HW5.out HP5.out.pgs).mono ?_; rintro e w6 ⟨rfl, hb6⟩; have HW6 := Lib.hid (HW5.out.trans (hb6.mono HW5.out.size)); clear hb6; go_wp2_with fail))
        refine hK.out _ _ ?hS31 (fun hHeld => ?rr31)
        case hS31 => (exact HW6.out)
        clear hK K
        try simp only [Act.put, List.setIfInBounds_toArray, List.set_cons_zero, List.set_cons_succ]
        refine wpAnyH_take (i := 7) (oi := { dst := some 4, op := Op.assign (Operand.tmp 76), type := 4, pos := "law.go:64", after := #[{ on := 6, ground := Ground.data }, { on := 6, ground := Ground.chain }, { on := 0, ground := Ground.phase }, { on := 1, ground := Ground.phase }, { on := 2, ground := Ground.phase }, { on := 3, ground := Ground.phase }, { on := 4, ground := Ground.phase }, { on := 5, ground := Ground.phase }, { on := 6, ground := Ground.phase }], guard := none }) (v := ?vv32) rfl (by kernel_rfl) (by kernel_rfl) (by kernel_rfl) (fun _ _ _ h => h) ?hy32 (by assumption) ?rest32
        case hy32 => (refine Or.inl ⟨by rfl, ?_⟩; intro W hSw; (try dsimp only at hSw); go_simp; (try with_reducible rfl))
        try simp only [Act.put, List.setIfInBounds_toArray, List.set_cons_zero, List.set_cons_succ]
        refine wpAnyH_done (by kernel_rfl) ?_ _
        dsimp only [onlyN]
        clear hHeld
        go_wp2_with fail
        go_ret
        exact ⟨rfl, HW6.out⟩
end Go.Proofs.YtkkembbeejlomaaGreatDoor
