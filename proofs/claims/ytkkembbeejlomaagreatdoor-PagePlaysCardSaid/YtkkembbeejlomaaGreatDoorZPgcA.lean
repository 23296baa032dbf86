/- Pages of one's own, apart; a copy. -/
import Derived.Test.YtkkembbeejlomaaGreatDoorZPagX
import Derived.Test.YtkkembbeejlomaaGreatDoorZTak
set_option linter.unusedSimpArgs false
set_option linter.unusedVariables false
set_option linter.unnecessarySimpa false
namespace Go.Proofs.YtkkembbeejlomaaGreatDoor
open Go.RowKit Go.Shelf Go.Sort Go.Lib

/-- A list of pages of one's own, each page in a block of its own. -/
structure PgsL (w : World) (B : Nat) (v : Value) (L : List Pl) (P : List (List Row)) : Prop where
  row : RowIs w 1 v P.length (pgsV L P)
  len : L.length = P.length
  each : ∀ (i : Nat) (a : Pl) (p : List Row), L[i]? = some a → P[i]? = some p → Area w 2 a.g a.o a.cap (pgC p) ∧ p.length ≤ a.cap
  offs : ∀ a ∈ L, B ≤ a.g ∧ v.ownBlock ≠ some a.g
  apart : L.Pairwise (fun a b => Off a.g a.o (a.cap * 2) b.g b.o (b.cap * 2))
  own : ∀ b, v.ownBlock = some b → B ≤ b
set_option maxRecDepth 100000 in
set_option maxHeartbeats 4000000 in
theorem PagesL_any {w : World} {s most : Nat} {v : Value} {L : List Pl} {P : List (List Row)} (h : St w s most v L P) (hF : Fine most P) :
    Calls Tryz.prog 17 #[.pointer (some ⟨s, 0, none⟩)] w fun e w' => ∃ v' L', e = .returned v' ∧ PgsL w' w.heap.size v' L' P ∧ Below w.heap.size w w' := by
  obtain ⟨A, c, hv, hc1, hc2, _⟩ := h.row.form
  unfold maxLen at hc2
  have ks : w.cell? ⟨s, 1, none⟩ = some v := cell_of h.head 1
  rw [hv] at ks
  have H := Lib.hid h
  have HV := Lib.hid hv
  have hPl := hF.len
  have HF := Lib.hid hF
  have hlP : (P.length : Int) ≤ 256 := by omega
  clear h hv hF
  obtain ⟨i0, hi, hz0, hz1, hz2⟩ := info_parts infoP
  have hrun := run_make (P := Tryz.prog) w 29 40 i0 _ Tryz.underlying29 hi hz0 .i64 .i64 (P.length : Int) (P.length : Int) (by omega) (by omega) (by rw [hz2]; omega) (by omega)
  rw [hz1, Int.toNat_natCast] at hrun
  generalize hM : madeCells (Value.cells (.slice none 0 0)) (P.length * 1) = M at hrun
  have HRUN := Lib.hid hrun
  have hbn := below_new (w := w) (.cells M 40)
  have ks2 : (w.alloc (.cells M 40)).cell? ⟨s, 1, none⟩ = some (.slice A P.length c) := (hbn.cell (p := ⟨s, 1, none⟩) (World.block_lt_of_cell? _ _ ks)).trans ks
  have hMs : M.size = P.length := by rw [← hM, size_madeCells]; omega
  have hA0 : Area (w.alloc (.cells M 40)) 1 w.heap.size 0 P.length M.toList := Area.block (alloc_at w _) (by omega) (by unfold maxLen; omega) (by simp; omega) (fun j u hj => by simpa using hj) (fun u hu => by
    rw [← hM] at hu
    unfold madeCells at hu
    simp only [Array.toList_map, List.mem_map] at hu
    obtain ⟨x, _, rfl⟩ := hu
    have : x % (Value.cells (.slice none 0 0)).size = 0 := by show x % 1 = 0; omega
    rw [this]
    rfl)
  have HA0 := Lib.hid hA0
  have HMS := Lib.hid hMs
  have HBN := Lib.hid hbn
  clear hrun hi hz0 hz1 hz2 hA0 hMs hM hbn
  go_enter Tryz.func17, Tryz.ntmps17
  go_wp2_with (at_make; refine wpList_run_make _ rfl _ _ _ rfl rfl rfl HRUN.out ?_)
  clear HRUN ks ks2
  go_loopw [19] (fun iv wr => ∃ (i : Nat) (us : List Value) (f : Nat → Pl), i ≤ P.length ∧ iv = .int .i64 i ∧ us.length = P.length ∧ Area wr 1 w.heap.size 0 P.length us ∧ (∀ (j : Nat) (p : List Row), j < i → P[j]? = some p → us[j]? = some (plV (f j) p) ∧ Area wr 2 (f j).g (f j).o (f j).cap (pgC p) ∧ p.length ≤ (f j).cap ∧ w.heap.size < (f j).g) ∧ (∀ j k, j < k → k < i → (f j).g ≠ (f k).g) ∧ Below w.heap.size w wr) (fun iv _ => P.length - (intOf iv).toNat)
  case atStart => exact ⟨0, M.toList, fun _ => ⟨0, 0, 0⟩, Nat.zero_le _, rfl, by simp [HMS.out], HA0.out, fun j p hj => by omega, fun j k _ hk => by omega, HBN.out⟩
  case round =>
    obtain ⟨i, us, f, hi, rfl, hul, hAu, hall, hap, hbw⟩ := hrel
    by_cases hlt : i < P.length
    · have hp : P[i]? = some P[i] := List.getElem?_eq_getElem hlt
      generalize P[i] = p at hp
      obtain ⟨a, g, c', ha, hv2, _, _, kc, hA, hac⟩ := row_page (H.out.below hbw) hp
      have hv3 := HV.out.symm.trans hv2
      injection hv3 with e1 _ e3
      subst e1 e3
      have hpl := (HF.out.page hp).2.2
      have hpn := (HF.out.page hp).2.1
      have HAP := Lib.hid hap
      have hpall : ∀ j, j < i → (f j).g < wr.heap.size := fun j hj => by
        obtain ⟨q, hq⟩ : ∃ q, P[j]? = some q := ⟨_, List.getElem?_eq_getElem (by omega)⟩
        exact (hall j q hj hq).2.1.lt
      have HPA := Lib.hid hpall
      have HCL := Lib.hid (Clone_any hA (by omega) hac)
      have hiI : (i : Int) < (P.length : Int) := by omega
      have HP := Lib.hid hp
      have HAU := Lib.hid hAu
      have HALL := Lib.hid hall
      have HBW := Lib.hid hbw
      have HUL := Lib.hid hul
      have HLT := Lib.hid hlt
      clear hp ha hv2 hA hac hAu hall hbw hul hlt hap hpall
      go_wp2_with fail
      refine (HCL.out).mono ?_
      rintro e w2 ⟨A2, c2, rfl, hr2, ho2, hb2⟩
      obtain ⟨g2, rfl, hA9, hc9⟩ : ∃ g2, A2 = some ⟨g2, 0, none⟩ ∧ Area w2 2 g2 0 c2 (pgC p) ∧ p.length ≤ c2 := by
        obtain ⟨A3, c3, e, _, _, _, _, h3⟩ := hr2.form
        injection e with e1 _ e3
        subst e1 e3
        obtain ⟨u0, hu0⟩ : ∃ u, (pgC p)[0]? = some u := ⟨_, List.getElem?_eq_getElem (by rw [pgC_len]; omega)⟩
        obtain ⟨g2, rfl, _⟩ := h3 0 _ hu0
        obtain ⟨x1, x2, _⟩ := hr2.area (pgC_one _)
        exact ⟨g2, rfl, x1, x2⟩
      have hg2 := ho2 g2 rfl
      have hA2 := HAU.out.below hb2
      obtain ⟨q1, q2⟩ := hA2.there i (by have := HLT.out; omega)
      rw [Nat.zero_add] at q1 q2
      obtain ⟨xx, q1⟩ := Option.isSome_iff_exists.1 q1
      have hset := hA2.set1 (i := i) (by rw [HUL.out]; exact HLT.out) (.slice (some ⟨g2, 0, none⟩) p.length c2) rfl
      rw [Nat.zero_add] at hset
      have hT : Touch (fun k => k = w.heap.size) w2 (w2.setCell ⟨w.heap.size, i, none⟩ (.slice (some ⟨g2, 0, none⟩) p.length c2)) := Touch.setCell (S := fun k => k = w.heap.size) (Touch.refl _ _) ⟨w.heap.size, i, none⟩ (fun _ => rfl) _
      have hwr := HAU.out.lt
      have HALL2 : Hid ((∀ (j : Nat) (q : List Row), j < i + 1 → P[j]? = some q → (us.set i (.slice (some ⟨g2, 0, none⟩) p.length c2))[j]? = some (plV (if j = i then ⟨g2, 0, c2⟩ else f j) q) ∧ Area (w2.setCell ⟨w.heap.size, i, none⟩ (.slice (some ⟨g2, 0, none⟩) p.length c2)) 2 (if j = i then (⟨g2, 0, c2⟩ : Pl) else f j).g (if j = i then (⟨g2, 0, c2⟩ : Pl) else f j).o (if j = i then (⟨g2, 0, c2⟩ : Pl) else f j).cap (pgC q) ∧ q.length ≤ (if j = i then (⟨g2, 0, c2⟩ : Pl) else f j).cap ∧ w.heap.size < (if j = i then (⟨g2, 0, c2⟩ : Pl) else f j).g) ∧ (∀ j k, j < k → k < i + 1 → (if j = i then (⟨g2, 0, c2⟩ : Pl) else f j).g ≠ (if k = i then (⟨g2, 0, c2⟩ : Pl) else f k).g)) := Lib.hid ⟨fun j q hj hq => by
        by_cases hji : j = i
        · subst hji
          obtain rfl := Option.some.inj (HP.out.symm.trans hq)
          simp only [if_true]
          exact ⟨by rw [List.getElem?_set_self (by rw [HUL.out]; exact HLT.out)]; rfl, hA9.touch hT (by show ¬ g2 = w.heap.size; omega), hc9, by omega⟩
        · simp only [hji, if_false]
          obtain ⟨h1, h2, h3, h4⟩ := HALL.out j q (by omega) hq
          exact ⟨by rw [List.getElem?_set_ne (fun e => hji e.symm)]; exact h1, (h2.below hb2).touch hT (by omega), h3, h4⟩, fun j k hjk hk => by
        by_cases hki : k = i
        · subst hki
          have hj : ¬ j = k := by omega
          simp only [hj, if_true, if_false]
          have := HPA.out j hjk
          omega
        · have hj : ¬ j = i := by omega
          simp only [hj, hki, if_false]
          exact HAP.out j k hjk (by omega)⟩
      have HSET := Lib.hid hset
      have HBB : Hid (Below w.heap.size w (w2.setCell ⟨w.heap.size, i, none⟩ (.slice (some ⟨g2, 0, none⟩) p.length c2))) := Lib.hid ((HBW.out.trans (hb2.mono HBW.out.size)).trans (hT.below (fun k e => by rw [e]; exact Nat.le_refl _) (Nat.le_trans HBW.out.size hb2.size)))
      clear hA2 hset hT hr2 ho2 hb2 HALL HCL kc hA9 hc9 hg2
      go_wp2_with fail
      go_roundw
      case rel => exact ⟨i + 1, us.set i (.slice (some ⟨g2, 0, none⟩) p.length c2), fun j => if j = i then ⟨g2, 0, c2⟩ else f j, HLT.out, by go_num, by rw [List.length_set]; exact HUL.out, HSET.out, HALL2.out.1, HALL2.out.2, HBB.out⟩
      case measure => have := HLT.out; simp [intOf]; omega
    · obtain rfl : i = P.length := by omega
      have HFIN : Hid (PgsL wr w.heap.size (.slice (some ⟨w.heap.size, 0, none⟩) P.length P.length) ((List.range P.length).map f) P ∧ Below w.heap.size w wr) := Lib.hid (by
        have hus : us = pgsV ((List.range P.length).map f) P := by
          apply List.ext_getElem?
          intro j
          by_cases hj : j < P.length
          · obtain ⟨q, hq⟩ : ∃ q, P[j]? = some q := ⟨_, List.getElem?_eq_getElem hj⟩
            rw [(hall j q hj hq).1, pgsV_at (a := f j) (by rw [List.getElem?_map, List.getElem?_range hj]; rfl) hq]
          · rw [List.getElem?_eq_none (by omega), List.getElem?_eq_none (by rw [pgsV_len (by simp)]; omega)]
        refine ⟨⟨?_, by simp, fun j a q ha hq => ?_, fun a ha => ?_, ?_, fun b e => ?_⟩, hbw⟩
        · rw [← hus]
          exact hAu.row (by omega) (Nat.le_refl _)
        · have hjl := (List.getElem?_eq_some_iff.1 hq).1
          rw [List.getElem?_map, List.getElem?_range hjl] at ha
          obtain rfl := Option.some.inj ha
          obtain ⟨_, h2, h3, _⟩ := hall j q hjl hq
          exact ⟨h2, h3⟩
        · obtain ⟨j, hj, rfl⟩ := List.mem_map.1 ha
          have hjl := List.mem_range.1 hj
          obtain ⟨q, hq⟩ : ∃ q, P[j]? = some q := ⟨_, List.getElem?_eq_getElem hjl⟩
          have h4 := (hall j q hjl hq).2.2.2
          exact ⟨by omega, fun e => by have e : w.heap.size = (f j).g := Option.some.inj e; omega⟩
        · rw [List.pairwise_iff_getElem]
          intro x y hx hy hxy
          simp only [List.length_map, List.length_range] at hx hy
          simp only [List.getElem_map, List.getElem_range]
          exact .inl (hap x y hxy hy)
        · have e : w.heap.size = b := Option.some.inj e
          omega)
      clear hAu hall hbw hul hap
      go_wp2_with fail
      go_ret
      exact ⟨_, _, rfl, HFIN.out.1, HFIN.out.2⟩
theorem PgsL.below {w w' : World} {B : Nat} {v : Value} {L : List Pl} {P : List (List Row)} (h : PgsL w B v L P) (hb : Below w.heap.size w w') : PgsL w' B v L P :=
  ⟨RowIs.below h.row hb, h.len, fun i a p h1 h2 => ⟨(h.each i a p h1 h2).1.below hb, (h.each i a p h1 h2).2⟩, h.offs, h.apart, h.own⟩
set_option maxRecDepth 100000 in
set_option maxHeartbeats 4000000 in
theorem Copy_any {w : World} {s most : Nat} {v : Value} {L : List Pl} {P : List (List Row)} (h : St w s most v L P) (hF : Fine most P) :
    Calls Tryz.prog 8 #[.pointer (some ⟨s, 0, none⟩)] w fun e w' => ∃ s' v' L', e = .returned (.pointer (some ⟨s', 0, none⟩)) ∧ St w' s' most v' L' P ∧ (∀ k, Owns s' v' L' k → w.heap.size ≤ k) ∧ Below w.heap.size w w' := by
  have km : w.cell? ⟨s, 0, none⟩ = some (.int .i64 most) := cell_of h.head 0
  have HP := Lib.hid (PagesL_any (h.below (below_drew (Below.refl _ _))) hF)
  have HM : Hid (∀ W, Below w.heap.size w W → W.cell? ⟨s, 0, none⟩ = some (.int .i64 most)) := Lib.hid (fun W hW => (hW.cell (p := ⟨s, 0, none⟩) (World.block_lt_of_cell? _ _ km)).trans km)
  clear h hF
  go_enter Tryz.func8, Tryz.ntmps8
  go_wp2_with fail
  refine wp_only ?_
  refine wp_region_held_drew (S := fun W => W.cell? ⟨s, 0, none⟩ = some (.int .i64 most)) (by kernel_rfl) (HM.out _ (below_drew (Below.refl _ _))) (fun hHeld => ?_)
  refine wpAnyH_take (i := 0) (oi := { dst := some 5, op := Op.move (Operand.tmp 0), type := 23, pos := "page.go:83", after := #[], guard := none }) (v := ?vv1) rfl (by kernel_rfl) (by kernel_rfl) (by kernel_rfl) (fun _ _ _ h => h) ?hy1 (by assumption) ?rest1
  case hy1 => (refine Or.inl ⟨by rfl, ?_⟩; intro W hSw; (try dsimp only at hSw); go_simp; (try with_reducible rfl))
  try simp only [Act.put, List.setIfInBounds_toArray, List.set_cons_zero, List.set_cons_succ]
  refine wpAnyH_take (i := 1) (oi := { dst := some 6, op := Op.nilCheck (Operand.tmp 5), type := 0, pos := "page.go:83", after := #[{ on := 0, ground := Ground.data }], guard := none }) (v := ?vv2) rfl (by kernel_rfl) (by kernel_rfl) (by kernel_rfl) (fun _ _ _ h => h) ?hy2 (by assumption) ?rest2
  case hy2 => (refine Or.inl ⟨by rfl, ?_⟩; intro W hSw; (try dsimp only at hSw); go_simp; (try with_reducible rfl))
  try simp only [Act.put, List.setIfInBounds_toArray, List.set_cons_zero, List.set_cons_succ]
  refine wpAnyH_take (i := 2) (oi := { dst := some 7, op := Op.fieldAddr 64 (Operand.tmp 6) 0, type := 0, pos := "page.go:83", after := #[{ on := 1, ground := Ground.data }], guard := none }) (v := ?vv3) rfl (by kernel_rfl) (by kernel_rfl) (by kernel_rfl) (fun _ _ _ h => h) ?hy3 (by assumption) ?rest3
  case hy3 => (refine Or.inl ⟨by rfl, ?_⟩; intro W hSw; (try dsimp only at hSw); go_simp; (try with_reducible rfl))
  try simp only [Act.put, List.setIfInBounds_toArray, List.set_cons_zero, List.set_cons_succ]
  refine wpAnyH_take (i := 3) (oi := { dst := some 8, op := Op.load 3 (Operand.tmp 7), type := 3, pos := "page.go:83", after := #[{ on := 2, ground := Ground.data }], guard := none }) (v := ?vv4) rfl (by kernel_rfl) (by kernel_rfl) (by kernel_rfl) (fun _ _ _ h => h) ?hy4 (by assumption) ?rest4
  case hy4 => (refine Or.inl ⟨by rfl, ?_⟩; intro W hSw; (try dsimp only at hSw); go_simp; (try with_reducible rfl))
  try simp only [Act.put, List.setIfInBounds_toArray, List.set_cons_zero, List.set_cons_succ]
  refine wpAnyH_take (i := 4) (oi := { dst := some 9, op := Op.move (Operand.tmp 0), type := 23, pos := "page.go:83", after := #[], guard := none }) (v := ?vv5) rfl (by kernel_rfl) (by kernel_rfl) (by kernel_rfl) (fun _ _ _ h => h) ?hy5 (by assumption) ?rest5
  case hy5 => (refine Or.inl ⟨by rfl, ?_⟩; intro W hSw; (try dsimp only at hSw); go_simp; (try with_reducible rfl))
  try simp only [Act.put, List.setIfInBounds_toArray, List.set_cons_zero, List.set_cons_succ]
  refine wpAnyH_ready (rs := [5]) (by kernel_rfl) (by simp) ?_
  refine AllReadyH.cons (o := { dst := some 10, op := Op.call { callee := Callee.value (Operand.func 17), args := #[Operand.tmp 9], argTypes := #[23] }, type := 29, pos := "page.go:83", after := #[{ on := 4, ground := Ground.data }], guard := none }) rfl (fun K hK => ?step6) ?more6
  case more6 => exact AllReadyH.nil
  ((go_simp; go_at_call 17; refine (HP.out).mono ?_; rintro e w2 ⟨v2, L2, rfl, hpg, hb2⟩; have HPG := Lib.hid hpg; have HB2 := Lib.hid (below_of_drew hb2); obtain ⟨A2, c2, rfl, _⟩ := RowIs.form hpg.row; clear hpg hb2; go_wp2_with fail))
  refine hK.out _ _ ?hS6 (fun hHeld => ?rr6)
  case hS6 => (exact HM.out _ HB2.out)
  clear hK K
  try simp only [Act.put, List.setIfInBounds_toArray, List.set_cons_zero, List.set_cons_succ]
  refine wpAnyH_take (i := 6) (oi := { dst := some 11, op := Op.build 64 #[(0, Operand.tmp 8), (1, Operand.tmp 10)], type := 64, pos := "page.go:83", after := #[{ on := 3, ground := Ground.data }, { on := 5, ground := Ground.data }], guard := none }) (v := ?vv7) rfl (by kernel_rfl) (by kernel_rfl) (by kernel_rfl) (fun _ _ _ h => h) ?hy7 (by assumption) ?rest7
  case hy7 => (refine Or.inl ⟨by rfl, ?_⟩; intro W hSw; (try dsimp only at hSw); go_simp; (try with_reducible rfl))
  try simp only [Act.put, List.setIfInBounds_toArray, List.set_cons_zero, List.set_cons_succ]
  refine wpAnyH_ready (rs := [7]) (by kernel_rfl) (by simp) ?_
  refine AllReadyH.cons (o := { dst := some 12, op := Op.box 64 (Operand.tmp 11), type := 23, pos := "page.go:83", after := #[{ on := 6, ground := Ground.data }], guard := none }) rfl (fun K hK => ?step8) ?more8
  case more8 => exact AllReadyH.nil
  ((go_simp))
  refine hK.out _ _ ?hS8 (fun hHeld => ?rr8)
  case hS8 => (exact HM.out _ (HB2.out.trans ((below_new _).mono HB2.out.size)))
  clear hK K
  try simp only [Act.put, List.setIfInBounds_toArray, List.set_cons_zero, List.set_cons_succ]
  refine wpAnyH_take (i := 8) (oi := { dst := some 2, op := Op.assign (Operand.tmp 12), type := 23, pos := "page.go:83", after := #[{ on := 7, ground := Ground.data }, { on := 5, ground := Ground.chain }, { on := 0, ground := Ground.phase }, { on := 1, ground := Ground.phase }, { on := 2, ground := Ground.phase }, { on := 3, ground := Ground.phase }, { on := 4, ground := Ground.phase }, { on := 5, ground := Ground.phase }, { on := 6, ground := Ground.phase }, { on := 7, ground := Ground.phase }], guard := none }) (v := ?vv9) rfl (by kernel_rfl) (by kernel_rfl) (by kernel_rfl) (fun _ _ _ h => h) ?hy9 (by assumption) ?rest9
  case hy9 => (refine Or.inl ⟨by rfl, ?_⟩; intro W hSw; (try dsimp only at hSw); go_simp; (try with_reducible rfl))
  try simp only [Act.put, List.setIfInBounds_toArray, List.set_cons_zero, List.set_cons_succ]
  refine wpAnyH_done (by kernel_rfl) ?_ _
  clear hHeld km
  dsimp only [onlyN]
  have hbn := below_new (w := w2) (.cells #[.int .i64 most, .slice A2 P.length c2] 64)
  have hat := alloc_at w2 (.cells #[.int .i64 most, .slice A2 P.length c2] 64)
  have hp2 := HPG.out.below hbn
  have hsz : w.heap.size ≤ w2.heap.size := HB2.out.size
  have HF : Hid (St (w2.alloc (.cells #[.int .i64 most, .slice A2 P.length c2] 64)) w2.heap.size most (.slice A2 P.length c2) L2 P ∧ (∀ k, Owns w2.heap.size (.slice A2 P.length c2) L2 k → w.heap.size ≤ k) ∧ Below w.heap.size w (w2.alloc (.cells #[.int .i64 most, .slice A2 P.length c2] 64))) := Lib.hid ⟨⟨hat, hp2.row, hp2.len, hp2.each, fun a ha => ⟨fun e => by
      obtain ⟨i, hi⟩ := List.getElem?_of_mem ha
      obtain ⟨q, hq⟩ : ∃ q, P[i]? = some q := ⟨_, List.getElem?_eq_getElem (by have := (List.getElem?_eq_some_iff.1 hi).1; rw [HPG.out.len] at this; exact this)⟩
      have := (HPG.out.each i a q hi hq).1.lt
      omega, (hp2.offs a ha).2⟩, hp2.apart, fun e => by have := RowIs.lt HPG.out.row _ e; omega⟩, fun k hk => by
    rcases hk with rfl | hk | ⟨a, ha, rfl⟩
    · exact hsz
    · have := HPG.out.own k hk
      simpa using this
    · have := (HPG.out.offs a ha).1
      simpa using this, HB2.out.trans (hbn.mono hsz)⟩
  clear hbn hat hp2 hsz
  go_wp2_with fail
  go_ret
  exact ⟨_, _, _, rfl, HF.out⟩
end Go.Proofs.YtkkembbeejlomaaGreatDoor
