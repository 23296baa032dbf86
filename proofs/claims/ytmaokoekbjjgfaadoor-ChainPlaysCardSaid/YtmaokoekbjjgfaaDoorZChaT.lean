/- slices.Delete of one version. -/
import Derived.Test.YtmaokoekbjjgfaaDoorZChaS
set_option linter.unusedSimpArgs false
set_option linter.unusedVariables false
set_option linter.unnecessarySimpa false
namespace Go.Proofs.YtmaokoekbjjgfaaDoor
open Go.RowKit Go.Shelf

theorem verC_append (a b : List Ver) : verC (a ++ b) = verC a ++ verC b := by unfold verC; simp
theorem RowC.setCs {w : World} {z g cap p : Nat} {l l' ms : List Value} (h : RowC w z g cap l) (hp : p + ms.length ≤ cap * z) (hl : l'.length ≤ cap * z) (hin : ∀ j b, j < ms.length → l'[p + j]? = some b → ms[j]? = some b) (hout : ∀ j b, (j < p ∨ p + ms.length ≤ j) → l'[j]? = some b → l[j]? = some b) : RowC (w.setCells g p ms) z g cap l' := by
  have hex : ∀ j, j < ms.length → (w.cell? ⟨g, p + j, none⟩).isSome = true := fun j hj => (h.there (p + j) (by omega)).1
  refine ⟨by rw [(setCells_tape g ms p w).2]; exact h.lt, hl, h.max, fun j b hj => ?_, fun j hj => ⟨?_, ?_⟩⟩
  · by_cases hjn : p ≤ j ∧ j < p + ms.length
    · have h3 := World.cell?_setCells_in g ms p w hex (j - p) (by omega)
      have e : p + (j - p) = j := by omega
      rw [e] at h3
      rw [h3]
      have := hin (j - p) b (by omega) (by rw [e]; exact hj)
      exact congrArg some ((List.getElem?_eq_some_iff.1 this).2)
    · rw [World.cell?_setCells_out g ms p w ⟨g, j, none⟩ (fun _ _ => by simp only; omega)]
      exact h.holds j b (hout j b (by omega) hj)
  · by_cases hjn : p ≤ j ∧ j < p + ms.length
    · have h3 := World.cell?_setCells_in g ms p w hex (j - p) (by omega)
      have e : p + (j - p) = j := by omega
      rw [e] at h3
      rw [h3]; rfl
    · rw [World.cell?_setCells_out g ms p w ⟨g, j, none⟩ (fun _ _ => by simp only; omega)]
      exact (h.there j hj).1
  · rw [World.frozen?_setCells]; exact (h.there j hj).2
/-- The memory behind a deletion in place. -/
theorem RowC.del {w : World} {g cap k : Nat} {L : List Ver} (h : RowC w 5 g cap (verC L)) (hk : k < L.length) (zs : List Value) (hz : zs.length = 5) :
    RowC ((w.setCells g (k * 5) (verC (L.drop (k + 1)))).setCells g ((L.length - 1) * 5) zs) 5 g cap (verC (L.eraseIdx k)) := by
  have hle := h.le
  rw [verC_len] at hle
  have hd : (verC (L.drop (k + 1))).length = (L.length - (k + 1)) * 5 := by rw [verC_len, List.length_drop]
  have ht : (verC (L.take k)).length = k * 5 := by rw [verC_len, List.length_take, Nat.min_eq_left (by omega)]
  have he : verC (L.eraseIdx k) = verC (L.take k) ++ verC (L.drop (k + 1)) := by rw [List.eraseIdx_eq_take_drop_succ, verC_append]
  have hel : (verC (L.eraseIdx k)).length = (L.length - 1) * 5 := by rw [he, List.length_append, ht, hd]; omega
  have hL : verC L = verC (L.take k) ++ verC (L.drop k) := by rw [← verC_append, List.take_append_drop]
  have h1 : RowC (w.setCells g (k * 5) (verC (L.drop (k + 1)))) 5 g cap (verC (L.eraseIdx k)) := h.setCs (by rw [hd]; omega) (by rw [hel]; omega) (fun j b hj hb => by
    rw [he, List.getElem?_append_right (by rw [ht]; omega), ht] at hb
    have e : k * 5 + j - k * 5 = j := by omega
    rw [e] at hb
    exact hb) (fun j b hj hb => by
    have hjl := (List.getElem?_eq_some_iff.1 hb).1
    rw [hel] at hjl
    rw [hd] at hj
    have hjk : j < k * 5 := by omega
    rw [he, List.getElem?_append_left (by rw [ht]; exact hjk)] at hb
    rw [hL, List.getElem?_append_left (by rw [ht]; exact hjk)]
    exact hb)
  exact h1.setCs (by rw [hz]; omega) (by rw [hel]; omega) (fun j b hj hb => by
    have hjl := (List.getElem?_eq_some_iff.1 hb).1
    rw [hel] at hjl
    omega) (fun j b _ hb => hb)
theorem zero_ver (w : World) : (zeroValue 47).run Tryd.prog w = .ok (.agg #[.int .i64 0, .int .i64 0, .bool false, .int .i64 0, .bool false]) w := by kernel_rfl
theorem zero_ver_cells : (Builtin.zeroCells (Value.agg #[.int .i64 0, .int .i64 0, .bool false, .int .i64 0, .bool false]).cells 1).toList = [.int .i64 0, .int .i64 0, .bool false, .int .i64 0, .bool false] := by kernel_rfl
theorem clear_one {W : World} {g p c : Nat} (ty : TypeId) (h : ∀ j, j < 5 → (W.cell? ⟨g, p + j, none⟩).isSome = true ∧ W.frozen? ⟨g, p + j, none⟩ = false) :
    (Builtin.clear_ #[48] ty #[.slice (some ⟨g, p, none⟩) 1 c]).run Tryd.prog W = .ok (.tuple #[]) (put5 W g p (.int .i64 0) (.int .i64 0) (.bool false) (.int .i64 0) (.bool false)) := by
  have hst := run_storeCells_cells (P := Tryd.prog) g p [.int .i64 0, .int .i64 0, .bool false, .int .i64 0, .bool false] 0 W (fun j hj => by rw [Nat.add_zero]; exact (h j hj).1) (fun j hj => by rw [Nat.add_zero]; exact (h j hj).2) (by simp [Value.oneCell'])
  rw [Nat.add_zero] at hst
  simp only [Builtin.clear_, List.getElem?_toArray, List.getElem?_cons_zero, Sem.run_bind, run_underlying Tryd.underlying48, Result.andThen_ok, zero_ver, zero_ver_cells, hst, Sem.run_pure]
  rfl
theorem step_app_run {P : Program} {ops : Array Oper} {o : Oper} {a : Act} {w wa : World} {K : Act → World → Prop} {Q : Exit → Act → World → Prop} {E : Prop} {T tx : TypeId} {u v v' : Value}
    (hrun : (Builtin.append_ #[T, tx] o.type #[u, v]).run P w = .ok v' wa) (hgd : o.guard = none) (s x : Operand) (ho : o.op = .call { callee := .builtin .append, args := #[s, x], argTypes := #[T, tx] })
    (hs : a.eval s = u) (hx : a.eval x = v) (h : K (a.put o.dst v') wa) : if Region.wanted o (yielded ops a.tmps) = true then Oper.wp P o a w K Q else E := by
  have hw : Region.wanted o (yielded ops a.tmps) = true := by simp [Region.wanted, hgd]
  rw [if_pos hw]
  unfold Oper.wp execOp
  simp only [ho, resolve, invoke, builtin, Sem.run_bind, Sem.run_pure, Result.andThen_ok, List.map_toArray, List.map_cons, List.map_nil, hs, hx, hrun]
  exact h
set_option maxRecDepth 100000 in
set_option maxHeartbeats 1000000 in
theorem delete_one {w : World} {L : List Ver} {g cap k : Nat} (h : RowC w 5 g cap (verC L)) (hk : k < L.length) (hn : L.length ≤ cap) (hl : L.length ≤ 1000000) {m : Nat} (hm : L.length = m + 1) :
    Calls Tryd.prog 33 #[.slice (some ⟨g, 0, none⟩) L.length cap, .int .i64 k, .int .i64 ((k : Int) + 1)] w fun e w' => e = .returned (.slice (some ⟨g, 0, none⟩) m cap) ∧ RowC w' 5 g cap (verC (L.eraseIdx k)) ∧ Touch (fun b => b = g) w w' := by
  have hmx := h.max
  unfold maxLen at hmx
  have hlI : (L.length : Int) ≤ 1000000 := by omega
  have hkI : (k : Int) + 1 ≤ (L.length : Int) := by omega
  have hnI : (L.length : Int) ≤ (cap : Int) := by omega
  have q0 : ((k : Int) == (k : Int) + 1) = false := by simp; omega
  have hdl : (verC (L.drop (k + 1))).length = (L.length - (k + 1)) * 5 := by rw [verC_len, List.length_drop]
  have hle := h.le
  rw [verC_len] at hle
  obtain ⟨o, ho, hsrc⟩ : ∃ o, (if cap = k + 1 then some (⟨g, 0, none⟩ : Addr) else some ⟨g, (k + 1) * 5, none⟩) = some ⟨g, o, none⟩ ∧ Src Tryd.prog 5 48 (.slice (some ⟨g, o, none⟩) (L.length - (k + 1)) (cap - (k + 1))) (L.length - (k + 1)) (verC (L.drop (k + 1))) w.drew := by
    by_cases e : cap = k + 1
    · refine ⟨0, by rw [if_pos e], ?_⟩
      refine Src.ofSlice _ Tryd.underlying48 ⟨g, 0, none⟩ _ _ _ hdl (fun j u hu => ?_) (verC_one _)
      have := (List.getElem?_eq_some_iff.1 hu).1
      omega
    · refine ⟨(k + 1) * 5, by rw [if_neg e], ?_⟩
      refine Src.ofSlice _ Tryd.underlying48 ⟨g, (k + 1) * 5, none⟩ _ _ _ hdl (fun j u hu => ?_) (verC_one _)
      have hadd : (⟨g, (k + 1) * 5, none⟩ : Addr).add j = ⟨g, (k + 1) * 5 + j, none⟩ := by unfold Addr.add; split <;> simp_all
      rw [hadd]
      refine h.holds _ _ ?_
      have hL : verC L = verC (L.take (k + 1)) ++ verC (L.drop (k + 1)) := by rw [← verC_append, List.take_append_drop]
      have ht : (verC (L.take (k + 1))).length = (k + 1) * 5 := by rw [verC_len, List.length_take, Nat.min_eq_left (by omega)]
      rw [hL, List.getElem?_append_right (by rw [ht]; omega), ht]
      have e : (k + 1) * 5 + j - (k + 1) * 5 = j := by omega
      rw [e]
      exact hu
  obtain ⟨i0, hi, hz0, hz1, hz2⟩ := info_parts infoV
  have hap := fun ty => run_append_room_src (P := Tryd.prog) w.drew 48 48 ty 47 i0 Tryd.underlying48 hi g 0 k cap _ _ _ (by rw [hz1]; exact hsrc) (by omega) (fun j hj => by rw [hz1]; exact (h.there (0 + k * 5 + j) (by omega)).1) (fun j hj => by rw [hz1]; exact (h.there (0 + k * 5 + j) (by omega)).2)
  have e1 : k + (L.length - (k + 1)) = m := by omega
  rw [hz1, e1, Nat.zero_add] at hap
  have hW1 : ∃ W1, W1 = w.drew.setCells g (k * 5) (verC (L.drop (k + 1))) := ⟨_, rfl⟩
  obtain ⟨W1, hW1⟩ := hW1
  have hr2 : RowC (put5 W1 g (m * 5) (.int .i64 0) (.int .i64 0) (.bool false) (.int .i64 0) (.bool false)) 5 g cap (verC (L.eraseIdx k)) := by
    have hd : RowC w.drew 5 g cap (verC L) := h.keep (Nat.le_refl _) rfl
    have := hd.del hk [.int .i64 0, .int .i64 0, .bool false, .int .i64 0, .bool false] rfl
    rw [← hW1, show L.length - 1 = m by omega] at this
    exact this
  have hkb := World.keptBut_setCells g (may := fun p => p.block = g) (verC (L.drop (k + 1))) (k * 5) w.drew (fun _ _ => rfl)
  have ht1 : Touch (fun b => b = g) w W1 := by
    rw [hW1]
    exact ⟨hkb.1, (setCells_tape g _ _ w.drew).1, hkb.2.1, Nat.le_of_eq (setCells_tape g _ _ w.drew).2.symm, fun i hi hne => hkb.block hi (fun p hp e => hne (by rw [← e, hp]))⟩
  have hT2 : Touch (fun b => b = g) w (put5 W1 g (m * 5) (.int .i64 0) (.int .i64 0) (.bool false) (.int .i64 0) (.bool false)) := ht1.trans (put5_own W1 g (m * 5) _ _ _ _ _) (fun i _ e => e)
  have hth : ∀ j, j < 5 → (W1.cell? ⟨g, m * 5 + j, none⟩).isSome = true ∧ W1.frozen? ⟨g, m * 5 + j, none⟩ = false := fun j hj => by
    rw [hW1]
    refine ⟨?_, ?_⟩
    · by_cases hin : k * 5 ≤ m * 5 + j ∧ m * 5 + j < k * 5 + (verC (L.drop (k + 1))).length
      · rw [hdl] at hin; omega
      · rw [World.cell?_setCells_out g _ (k * 5) w.drew ⟨g, m * 5 + j, none⟩ (fun _ _ => by simp only; omega)]
        exact (h.there (m * 5 + j) (by omega)).1
    · rw [World.frozen?_setCells]
      exact (h.there (m * 5 + j) (by omega)).2
  have HCLR := Lib.hid (clear_one (c := cap - m) 0 hth)
  rw [← hW1] at hap
  have HAP := Lib.hid hap
  have HR2 := Lib.hid hr2
  have HT2 := Lib.hid hT2
  have HLM : Hid (L.length - m = 1) := Lib.hid (by omega)
  have HML : Hid ((m : Int) ≤ (L.length : Int)) := Lib.hid (by omega)
  have HMC : Hid ((cap = m) = False) := Lib.hid (eq_false (by omega))
  clear hm
  clear hap hr2 hT2 ht1 hkb hth hW1
  clear h hi hz0 hz1 hz2 hsrc hdl hle e1
  go_enter Tryd.func33, Tryd.ntmps33
  go_wp2_with fail
  refine wp_only ?_
  refine wp_region_held_drew (S := fun _ => True) (by kernel_rfl) trivial (fun hHeld => ?_)
  refine wpAnyH_take (i := 0) (oi := { dst := some 20, op := Op.move (Operand.tmp 0), type := 48, pos := "slices.go:232", after := #[], guard := none }) (v := ?vv1) rfl (by kernel_rfl) (by kernel_rfl) (by kernel_rfl) (fun _ _ _ h => h) ?hy1 (by assumption) ?rest1
  case hy1 => (refine Or.inl ⟨by rfl, ?_⟩; intro W hSw; (try dsimp only at hSw); go_simp; (try with_reducible rfl))
  try simp only [Act.put, List.setIfInBounds_toArray, List.set_cons_zero, List.set_cons_succ]
  refine wpAnyH_take (i := 1) (oi := { dst := some 21, op := Op.move (Operand.tmp 1), type := 3, pos := "slices.go:232", after := #[], guard := none }) (v := ?vv2) rfl (by kernel_rfl) (by kernel_rfl) (by kernel_rfl) (fun _ _ _ h => h) ?hy2 (by assumption) ?rest2
  case hy2 => (refine Or.inl ⟨by rfl, ?_⟩; intro W hSw; (try dsimp only at hSw); go_simp; (try with_reducible rfl))
  try simp only [Act.put, List.setIfInBounds_toArray, List.set_cons_zero, List.set_cons_succ]
  refine wpAnyH_take (i := 2) (oi := { dst := some 22, op := Op.slice 48 (Operand.tmp 20) none (some (Operand.tmp 21)) none, type := 48, pos := "slices.go:232", after := #[{ on := 0, ground := Ground.data }, { on := 1, ground := Ground.data }], guard := none }) (v := (.slice (some ⟨g, 0, none⟩) k cap)) rfl (by kernel_rfl) (by kernel_rfl) (by kernel_rfl) (fun _ _ _ h => h) ?hy3 (by assumption) ?rest3
  case hy3 => ((refine Or.inl ⟨by rfl, fun W _ => ?_⟩; go_simp; intro h; omega))
  try simp only [Act.put, List.setIfInBounds_toArray, List.set_cons_zero, List.set_cons_succ]
  refine wpAnyH_take (i := 3) (oi := { dst := some 23, op := Op.move (Operand.tmp 0), type := 48, pos := "slices.go:232", after := #[], guard := none }) (v := ?vv4) rfl (by kernel_rfl) (by kernel_rfl) (by kernel_rfl) (fun _ _ _ h => h) ?hy4 (by assumption) ?rest4
  case hy4 => (refine Or.inl ⟨by rfl, ?_⟩; intro W hSw; (try dsimp only at hSw); go_simp; (try with_reducible rfl))
  try simp only [Act.put, List.setIfInBounds_toArray, List.set_cons_zero, List.set_cons_succ]
  refine wpAnyH_take (i := 4) (oi := { dst := some 24, op := Op.move (Operand.tmp 2), type := 3, pos := "slices.go:232", after := #[], guard := none }) (v := ?vv5) rfl (by kernel_rfl) (by kernel_rfl) (by kernel_rfl) (fun _ _ _ h => h) ?hy5 (by assumption) ?rest5
  case hy5 => (refine Or.inl ⟨by rfl, ?_⟩; intro W hSw; (try dsimp only at hSw); go_simp; (try with_reducible rfl))
  try simp only [Act.put, List.setIfInBounds_toArray, List.set_cons_zero, List.set_cons_succ]
  refine wpAnyH_take (i := 5) (oi := { dst := some 25, op := Op.slice 48 (Operand.tmp 23) (some (Operand.tmp 24)) none none, type := 48, pos := "slices.go:232", after := #[{ on := 3, ground := Ground.data }, { on := 4, ground := Ground.data }], guard := none }) (v := (.slice (some ⟨g, o, none⟩) (L.length - (k + 1)) (cap - (k + 1)))) rfl (by kernel_rfl) (by kernel_rfl) (by kernel_rfl) (fun _ _ _ h => h) ?hy6 (by assumption) ?rest6
  case hy6 => ((refine Or.inl ⟨by rfl, fun W _ => ?_⟩; go_simp; intro h; omega))
  try simp only [Act.put, List.setIfInBounds_toArray, List.set_cons_zero, List.set_cons_succ]
  refine wpAnyH_ready (rs := [6]) (by kernel_rfl) (by simp) ?_
  refine AllReadyH.cons (o := { dst := some 26, op := Op.call { callee := Callee.builtin Builtin.append, args := #[Operand.tmp 22, Operand.tmp 25], argTypes := #[48, 48] }, type := 48, pos := "slices.go:232", after := #[{ on := 2, ground := Ground.data }, { on := 5, ground := Ground.data }], guard := none }) rfl (fun K hK => ?step7) ?more7
  case more7 => exact AllReadyH.nil
  (refine step_app_run (HAP.out _) rfl (.tmp 22) (.tmp 25) rfl rfl rfl ?_)
  refine hK.out _ _ ?hS7 (fun hHeld => ?rr7)
  case hS7 => (trivial)
  clear hK K
  try simp only [Act.put, List.setIfInBounds_toArray, List.set_cons_zero, List.set_cons_succ]
  refine wpAnyH_take (i := 7) (oi := { dst := some 0, op := Op.assign (Operand.tmp 26), type := 48, pos := "slices.go:232", after := #[{ on := 6, ground := Ground.data }, { on := 6, ground := Ground.chain }, { on := 0, ground := Ground.phase }, { on := 1, ground := Ground.phase }, { on := 2, ground := Ground.phase }, { on := 3, ground := Ground.phase }, { on := 4, ground := Ground.phase }, { on := 5, ground := Ground.phase }, { on := 6, ground := Ground.phase }], guard := none }) (v := ?vv8) rfl (by kernel_rfl) (by kernel_rfl) (by kernel_rfl) (fun _ _ _ h => h) ?hy8 (by assumption) ?rest8
  case hy8 => (refine Or.inl ⟨by rfl, ?_⟩; intro W hSw; (try dsimp only at hSw); go_simp; (try with_reducible rfl))
  try simp only [Act.put, List.setIfInBounds_toArray, List.set_cons_zero, List.set_cons_succ]
  refine wpAnyH_done (by kernel_rfl) ?_ _
  clear hHeld HAP
  dsimp only [onlyN]
  have hlm := HLM.out
  have hml := HML.out
  have hmc := HMC.out
  have hclr := HCLR.out
  go_wp2_with fail
  go_ret
  exact ⟨rfl, HR2.out, HT2.out⟩
end Go.Proofs.YtmaokoekbjjgfaaDoor
