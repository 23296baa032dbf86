/- The document's own store: are two lists of pages the same? -/
import Derived.Test.YtkkembbeejlomaaGreatDoorZPgdD
import Derived.Test.YtkkembbeejlomaaGreatDoorZPgcA
import Derived.Test.YtkkembbeejlomaaGreatDoorZTak
set_option linter.unusedSimpArgs false
set_option linter.unusedVariables false
set_option linter.unnecessarySimpa false
namespace Go.Proofs.YtkkembbeejlomaaGreatDoor
open Go.RowKit Go.Shelf Go.Sort Go.Lib

/-- Pages that read so, wherever they lie. -/
def PgS (w : World) (v : Value) (P : List (List Row)) : Prop := ∃ us, RowIs w 1 v P.length us ∧ ∀ (i : Nat) (p : List Row), P[i]? = some p → ∃ u, us[i]? = some u ∧ Sl w u p
theorem PgS.below {w w' : World} {v : Value} {P : List (List Row)} (h : PgS w v P) (hb : Below w.heap.size w w') : PgS w' v P := by
  obtain ⟨us, h1, h2⟩ := h
  refine ⟨us, RowIs.below h1 hb, fun i p hp => ?_⟩
  obtain ⟨u, h3, h4⟩ := h2 i p hp
  exact ⟨u, h3, h4.below hb⟩
theorem Area.sl {w : World} {g o cap : Nat} {p : List Row} (h : Area w 2 g o cap (pgC p)) (hl : p.length ≤ cap) : Sl w (.slice (some ⟨g, o, none⟩) p.length cap) p :=
  .inr ⟨g, o, cap, rfl, h.lt, hl, h.max, fun j x hj => h.holds j x hj⟩
theorem PgsL.pgs {w : World} {B : Nat} {v : Value} {L : List Pl} {P : List (List Row)} (h : PgsL w B v L P) : PgS w v P :=
  ⟨_, h.row, fun i p hp => by
    have hil := (List.getElem?_eq_some_iff.1 hp).1
    obtain ⟨a, ha⟩ : ∃ a, L[i]? = some a := ⟨_, List.getElem?_eq_getElem (by rw [h.len]; exact hil)⟩
    obtain ⟨h1, h2⟩ := h.each i a p ha hp
    exact ⟨plV a p, pgsV_at ha hp, h1.sl h2⟩⟩
theorem RAt.pgs {w : World} {r : Nat} {most : Int} {v : Value} {us : List Value} {P : List (List Row)} (h : RAt w r most v us P) : PgS w v P := ⟨us, h.row, h.each⟩
theorem PgS.cell {w : World} {v : Value} {P : List (List Row)} (h : PgS w v P) {i : Nat} {p : List Row} (hp : P[i]? = some p) : ∃ g c A c', v = .slice (some ⟨g, 0, none⟩) P.length c ∧ w.cell? ⟨g, i, none⟩ = some (.slice A p.length c') ∧ Sl w (.slice A p.length c') p := by
  obtain ⟨us, h1, h2⟩ := h
  obtain ⟨u, h3, h4⟩ := h2 i p hp
  obtain ⟨A, c, rfl, _, _, _, _, h5⟩ := RowIs.form h1
  obtain ⟨g, rfl, k⟩ := h5 i u h3
  obtain ⟨A', c', rfl, _⟩ := h4.form
  exact ⟨g, c, A', c', rfl, k, h4⟩
set_option maxRecDepth 100000 in
set_option maxHeartbeats 4000000 in
theorem RSame_any {w : World} {v u : Value} {P Q : List (List Row)} (h : PgS w v P) (h2 : PgS w u Q) (hl : P.length ≤ 1000) (hl2 : Q.length ≤ 1000) (hp : ∀ p ∈ P, p.length ≤ 1000) (hq : ∀ p ∈ Q, p.length ≤ 1000) :
    Calls Tryz.prog 22 #[v, u] w fun e w' => e = .returned (.bool (decide (P = Q))) ∧ Below w.heap.size w w' := by
  obtain ⟨us, hr1, _⟩ := id h
  obtain ⟨us2, hr2, _⟩ := id h2
  obtain ⟨A, c, rfl, hc1, hc2, _⟩ := RowIs.form hr1
  obtain ⟨A2, c2, rfl, hd1, hd2, _⟩ := RowIs.form hr2
  unfold maxLen at hc2 hd2
  have hlI : (P.length : Int) ≤ 1000 := by omega
  have hlI2 : (Q.length : Int) ≤ 1000 := by omega
  have H := Lib.hid h
  have H2 := Lib.hid h2
  have HPL := Lib.hid hp
  have HQL := Lib.hid hq
  clear h h2 hr1 hr2 hp hq
  by_cases hne : P.length = Q.length
  · obtain ⟨m, hm⟩ : ∃ m, P.length = m := ⟨_, rfl⟩
    have hm2 : Q.length = m := hne.symm.trans hm
    rw [hm] at H hc1 hlI hl ⊢
    rw [hm2] at H2 hd1 ⊢
    have HM := Lib.hid hm
    have HM2 := Lib.hid hm2
    clear hm hm2 hne hl2 hlI2
    go_enter Tryz.func22, Tryz.ntmps22
    go_wp2_with fail
    go_loopw [13] (fun iv wr => ∃ i : Nat, i ≤ m ∧ iv = .int .i64 i ∧ (∀ j < i, P[j]? = Q[j]?) ∧ Below w.heap.size w wr) (fun iv _ => m - (intOf iv).toNat)
    case atStart => exact ⟨0, Nat.zero_le _, rfl, fun j hj => by omega, Below.refl _ _⟩
    case round =>
      obtain ⟨i, hi, rfl, hsame, hbw⟩ := hrel
      have HB := Lib.hid hbw
      by_cases hlt : i < m
      · obtain ⟨p, hp⟩ : ∃ r, P[i]? = some r := ⟨_, List.getElem?_eq_getElem (by rw [HM.out]; exact hlt)⟩
        obtain ⟨q, hq⟩ : ∃ r, Q[i]? = some r := ⟨_, List.getElem?_eq_getElem (by rw [HM2.out]; exact hlt)⟩
        obtain ⟨g, c', Ap, cp, e, k1, hs1⟩ := H.out.cell hp
        injection e with e1 e2 e3
        subst e1 e3
        clear e2
        obtain ⟨g2, c2', Aq, cq, e, l1, hs2⟩ := H2.out.cell hq
        injection e with e1 e2 e3
        subst e1 e3
        clear e2
        have HR := Lib.hid (SRows_any (hs1.below (below_drew hbw)) (hs2.below (below_drew hbw)) (HPL.out p (List.mem_of_getElem? hp)) (HQL.out q (List.mem_of_getElem? hq)))
        obtain ⟨bq, hbq⟩ : ∃ bq, decide (p = q) = bq := ⟨_, rfl⟩
        rw [hbq] at HR
        have HBQ := Lib.hid hbq
        clear hbq
        replace k1 := (hbw.cell (World.block_lt_of_cell? _ _ k1)).trans k1
        replace l1 := (hbw.cell (World.block_lt_of_cell? _ _ l1)).trans l1
        obtain ⟨_, _, ep, hcp1, hcp2⟩ := hs1.form
        injection ep with e1 e2 e3
        subst e1 e3
        clear e2
        obtain ⟨_, _, eq, hcq1, hcq2⟩ := hs2.form
        injection eq with e1 e2 e3
        subst e1 e3
        clear e2
        unfold maxLen at hcp2 hcq2
        have hiI : (i : Int) < (m : Int) := by omega
        have HLT := Lib.hid hlt
        have HSA := Lib.hid hsame
        have HPQ := Lib.hid (And.intro hp hq)
        clear hbw hs1 hs2 hp hq hlt hsame
        have HC : Hid (∀ W, Below wr.heap.size wr W → W.cell? ⟨g, i, none⟩ = some (.slice Ap p.length cp) ∧ W.cell? ⟨g2, i, none⟩ = some (.slice Aq q.length cq)) := Lib.hid (fun W hW => ⟨(hW.cell (World.block_lt_of_cell? _ _ k1)).trans k1, (hW.cell (World.block_lt_of_cell? _ _ l1)).trans l1⟩)
        go_wp2_with fail
        refine wp_only ?_
        refine wp_region_held_drew (S := fun W => W.cell? ⟨g, i, none⟩ = some (.slice Ap p.length cp) ∧ W.cell? ⟨g2, i, none⟩ = some (.slice Aq q.length cq)) (by kernel_rfl) (HC.out _ (below_drew (Below.refl _ _))) (fun hHeld => ?_)
        refine wpAnyH_take (i := 0) (oi := { dst := some 16, op := Op.move (Operand.tmp 0), type := 29, pos := "ref.go:153", after := #[], guard := none }) (v := ?vv1) rfl (by kernel_rfl) (by kernel_rfl) (by kernel_rfl) (fun _ _ _ h => h) ?hy1 (by assumption) ?rest1
        case hy1 => (refine Or.inl ⟨by rfl, ?_⟩; intro W hSw; (try dsimp only at hSw); go_simp; (try with_reducible rfl))
        try simp only [Act.put, List.setIfInBounds_toArray, List.set_cons_zero, List.set_cons_succ]
        refine wpAnyH_take (i := 1) (oi := { dst := some 17, op := Op.move (Operand.tmp 5), type := 3, pos := "ref.go:153", after := #[], guard := none }) (v := ?vv2) rfl (by kernel_rfl) (by kernel_rfl) (by kernel_rfl) (fun _ _ _ h => h) ?hy2 (by assumption) ?rest2
        case hy2 => (refine Or.inl ⟨by rfl, ?_⟩; intro W hSw; (try dsimp only at hSw); go_simp; (try with_reducible rfl))
        try simp only [Act.put, List.setIfInBounds_toArray, List.set_cons_zero, List.set_cons_succ]
        refine wpAnyH_take (i := 2) (oi := { dst := some 18, op := Op.indexAddr 29 (Operand.tmp 16) (Operand.tmp 17), type := 0, pos := "ref.go:153", after := #[{ on := 0, ground := Ground.data }, { on := 1, ground := Ground.data }], guard := none }) (v := ?vv3) rfl (by kernel_rfl) (by kernel_rfl) (by kernel_rfl) (fun _ _ _ h => h) ?hy3 (by assumption) ?rest3
        case hy3 => (refine Or.inl ⟨by rfl, ?_⟩; intro W hSw; (try dsimp only at hSw); go_simp; (try with_reducible rfl))
        try simp only [Act.put, List.setIfInBounds_toArray, List.set_cons_zero, List.set_cons_succ]
        refine wpAnyH_take (i := 3) (oi := { dst := some 19, op := Op.load 40 (Operand.tmp 18), type := 40, pos := "ref.go:153", after := #[{ on := 2, ground := Ground.data }], guard := none }) (v := ?vv4) rfl (by kernel_rfl) (by kernel_rfl) (by kernel_rfl) (fun _ _ _ h => h) ?hy4 (by assumption) ?rest4
        case hy4 => (refine Or.inl ⟨by rfl, ?_⟩; intro W hSw; (try dsimp only at hSw); go_simp; (try with_reducible rfl))
        try simp only [Act.put, List.setIfInBounds_toArray, List.set_cons_zero, List.set_cons_succ]
        refine wpAnyH_take (i := 4) (oi := { dst := some 20, op := Op.move (Operand.tmp 1), type := 29, pos := "ref.go:153", after := #[], guard := none }) (v := ?vv5) rfl (by kernel_rfl) (by kernel_rfl) (by kernel_rfl) (fun _ _ _ h => h) ?hy5 (by assumption) ?rest5
        case hy5 => (refine Or.inl ⟨by rfl, ?_⟩; intro W hSw; (try dsimp only at hSw); go_simp; (try with_reducible rfl))
        try simp only [Act.put, List.setIfInBounds_toArray, List.set_cons_zero, List.set_cons_succ]
        refine wpAnyH_take (i := 5) (oi := { dst := some 21, op := Op.move (Operand.tmp 5), type := 3, pos := "ref.go:153", after := #[], guard := none }) (v := ?vv6) rfl (by kernel_rfl) (by kernel_rfl) (by kernel_rfl) (fun _ _ _ h => h) ?hy6 (by assumption) ?rest6
        case hy6 => (refine Or.inl ⟨by rfl, ?_⟩; intro W hSw; (try dsimp only at hSw); go_simp; (try with_reducible rfl))
        try simp only [Act.put, List.setIfInBounds_toArray, List.set_cons_zero, List.set_cons_succ]
        refine wpAnyH_take (i := 6) (oi := { dst := some 22, op := Op.indexAddr 29 (Operand.tmp 20) (Operand.tmp 21), type := 0, pos := "ref.go:153", after := #[{ on := 4, ground := Ground.data }, { on := 5, ground := Ground.data }], guard := none }) (v := ?vv7) rfl (by kernel_rfl) (by kernel_rfl) (by kernel_rfl) (fun _ _ _ h => h) ?hy7 (by assumption) ?rest7
        case hy7 => (refine Or.inl ⟨by rfl, ?_⟩; intro W hSw; (try dsimp only at hSw); go_simp; (try with_reducible rfl))
        try simp only [Act.put, List.setIfInBounds_toArray, List.set_cons_zero, List.set_cons_succ]
        refine wpAnyH_take (i := 7) (oi := { dst := some 23, op := Op.load 40 (Operand.tmp 22), type := 40, pos := "ref.go:153", after := #[{ on := 6, ground := Ground.data }], guard := none }) (v := ?vv8) rfl (by kernel_rfl) (by kernel_rfl) (by kernel_rfl) (fun _ _ _ h => h) ?hy8 (by assumption) ?rest8
        case hy8 => (refine Or.inl ⟨by rfl, ?_⟩; intro W hSw; (try dsimp only at hSw); go_simp; (try with_reducible rfl))
        try simp only [Act.put, List.setIfInBounds_toArray, List.set_cons_zero, List.set_cons_succ]
        refine wpAnyH_ready (rs := [8]) (by kernel_rfl) (by simp) ?_
        refine AllReadyH.cons (o := { dst := some 24, op := Op.call { callee := Callee.value (Operand.func 23), args := #[Operand.tmp 19, Operand.tmp 23], argTypes := #[40, 40] }, type := 4, pos := "ref.go:153", after := #[{ on := 3, ground := Ground.data }, { on := 7, ground := Ground.data }], guard := none }) rfl (fun K hK => ?step9) ?more9
        case more9 => exact AllReadyH.nil
        ((go_simp; go_at_call 23; refine (HR.out).mono ?_; rintro e w3 ⟨rfl, hb3⟩; have hb4 := below_of_drew hb3; have HB3 := Lib.hid (HB.out.trans (hb4.mono HB.out.size)); have HB4 := Lib.hid hb4; clear hb3 hb4; go_wp2_with fail))
        refine hK.out _ _ ?hS9 (fun hHeld => ?rr9)
        case hS9 => (exact HC.out _ HB4.out)
        clear hK K
        try simp only [Act.put, List.setIfInBounds_toArray, List.set_cons_zero, List.set_cons_succ]
        refine wpAnyH_take (i := 9) (oi := { dst := some 25, op := Op.unOp UnOp.not 4 (Operand.tmp 24), type := 4, pos := "ref.go:153", after := #[{ on := 8, ground := Ground.data }], guard := none }) (v := ?vv10) rfl (by kernel_rfl) (by kernel_rfl) (by kernel_rfl) (fun _ _ _ h => h) ?hy10 (by assumption) ?rest10
        case hy10 => (refine Or.inl ⟨by rfl, ?_⟩; intro W hSw; (try dsimp only at hSw); go_simp; (try with_reducible rfl))
        try simp only [Act.put, List.setIfInBounds_toArray, List.set_cons_zero, List.set_cons_succ]
        refine wpAnyH_done (by kernel_rfl) ?_ _
        clear hHeld HR k1 l1
        dsimp only [onlyN]
        cases bq with
        | true =>
          have hk : p = q := by simpa using HBQ.out
          have HN : Hid (∀ j < i + 1, P[j]? = Q[j]?) := Lib.hid (fun j hj => by
            by_cases hji : j = i
            · subst hji; rw [HPQ.out.1, HPQ.out.2, hk]
            · exact HSA.out j (by omega))
          clear hk
          go_wp2_with fail
          go_roundw
          case rel => exact ⟨i + 1, HLT.out, by go_num, HN.out, HB3.out⟩
          case measure => have := HLT.out; simp [intOf]; omega
        | false =>
          have hk : ¬ p = q := by simpa using HBQ.out
          have HPN : Hid (decide (P = Q) = false) := Lib.hid (by
            simp only [decide_eq_false_iff_not]
            rintro rfl
            exact hk (Option.some.inj (HPQ.out.1.symm.trans HPQ.out.2)))
          clear hk
          go_wp2_with fail
          go_ret
          exact ⟨by rw [HPN.out]; rfl, HB3.out⟩
      · obtain rfl : i = m := by omega
        have hpq : decide (P = Q) = true := by
          simp only [decide_eq_true_eq]
          apply List.ext_getElem?
          intro j
          by_cases hj : j < i
          · exact hsame j hj
          · rw [List.getElem?_eq_none (by rw [HM.out]; omega), List.getElem?_eq_none (by rw [HM2.out]; omega)]
        have HPQ := Lib.hid hpq
        clear hsame hpq hbw
        go_wp2_with fail
        go_ret
        exact ⟨by rw [HPQ.out]; rfl, HB.out⟩
  · have hneI : ¬ (P.length : Int) = (Q.length : Int) := by omega
    have hpq : (decide (P = Q)) = false := by simp; rintro rfl; exact hne rfl
    rw [hpq]
    go_enter Tryz.func22, Tryz.ntmps22
    go_wp2_with fail
    go_ret
    exact ⟨by simp, Below.refl _ _⟩
end Go.Proofs.YtkkembbeejlomaaGreatDoor
