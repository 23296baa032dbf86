/- slices.Delete of one row of a page. -/
import Derived.Test.YtkkembbeejlomaaGreatDoorZPagC
set_option linter.unusedSimpArgs false
set_option linter.unusedVariables false
set_option linter.unnecessarySimpa false
namespace Go.Proofs.YtkkembbeejlomaaGreatDoor
open Go.RowKit

theorem step_app_run {P : Program} {ops : Array Oper} {o : Oper} {a : Act} {w wa : World} {K : Act → World → Prop} {Q : Exit → Act → World → Prop} {E : Prop} {T tx : TypeId} {u v v' : Value}
    (hrun : (Builtin.append_ #[T, tx] o.type #[u, v]).run P w = .ok v' wa) (hgd : o.guard = none) (s x : Operand) (ho : o.op = .call { callee := .builtin .append, args := #[s, x], argTypes := #[T, tx] })
    (hs : a.eval s = u) (hx : a.eval x = v) (h : K (a.put o.dst v') wa) : if Region.wanted o (yielded ops a.tmps) = true then Oper.wp P o a w K Q else E := by
  have hw : Region.wanted o (yielded ops a.tmps) = true := by simp [Region.wanted, hgd]
  rw [if_pos hw]
  unfold Oper.wp execOp
  simp only [ho, resolve, invoke, builtin, Sem.run_bind, Sem.run_pure, Result.andThen_ok, List.map_toArray, List.map_cons, List.map_nil, hs, hx, hrun]
  exact h
/-- Element number k is gone. -/
def delL (z k : Nat) (l : List Value) : List Value := l.take (k * z) ++ l.drop ((k + 1) * z)
theorem delL_len {z k m : Nat} {l : List Value} (hl : l.length = (m + 1) * z) (hk : k ≤ m) : (delL z k l).length = m * z := by
  have h1 : k * z ≤ m * z := Nat.mul_le_mul_right _ hk
  have e1 : (k + 1) * z = k * z + z := by rw [Nat.add_mul, Nat.one_mul]
  have e2 : (m + 1) * z = m * z + z := by rw [Nat.add_mul, Nat.one_mul]
  unfold delL
  rw [List.length_append, List.length_take, List.length_drop]
  omega
theorem delL_one {z k : Nat} {l : List Value} (h : ∀ u ∈ l, u.oneCell' = true) : ∀ u ∈ delL z k l, u.oneCell' = true := fun u hu => by
  unfold delL at hu
  rcases List.mem_append.1 hu with h1 | h1
  · exact h u (List.mem_of_mem_take h1)
  · exact h u (List.mem_of_mem_drop h1)
/-- The memory behind a deletion in place. -/
theorem Area.del {w : World} {z g o cap k m : Nat} {l zs : List Value} (h : Area w z g o cap l) (hl : l.length = (m + 1) * z) (hk : k ≤ m) (hz : zs.length = z) :
    Area ((w.setCells g (o + k * z) (l.drop ((k + 1) * z))).setCells g (o + m * z) zs) z g o cap (delL z k l) := by
  have h1 : k * z ≤ m * z := Nat.mul_le_mul_right _ hk
  have e1 : (k + 1) * z = k * z + z := by rw [Nat.add_mul, Nat.one_mul]
  have e2 : (m + 1) * z = m * z + z := by rw [Nat.add_mul, Nat.one_mul]
  have hle := h.le
  have hd : (l.drop ((k + 1) * z)).length = m * z - k * z := by rw [List.length_drop]; omega
  have ht : (l.take (k * z)).length = k * z := by rw [List.length_take]; omega
  have hel := delL_len hl hk
  have h3 : Area (w.setCells g (o + k * z) (l.drop ((k + 1) * z))) z g o cap (delL z k l) := h.put (by rw [hd]; omega) (by rw [hel]; omega) (delL_one h.one) (fun j u h1 h2 hj => by
    unfold delL at hj
    rw [List.getElem?_append_right (by omega), ht] at hj
    exact hj) (fun j u h1 hj => by
    have hjl := (List.getElem?_eq_some_iff.1 hj).1
    rw [hel] at hjl
    unfold delL at hj
    rw [List.getElem?_append_left (by omega), List.getElem?_take_of_lt (by omega)] at hj
    exact hj)
  exact h3.put (by omega) (by rw [hel]; omega) (delL_one h.one) (fun j u h1 h2 hj => by
    have hjl := (List.getElem?_eq_some_iff.1 hj).1
    rw [hel] at hjl
    omega) (fun j u _ hj => hj)
theorem zeroR (w : World) : (zeroValue 42).run Tryz.prog w = .ok (.agg #[.string ⟨#[]⟩, .int .i64 0]) w := by kernel_rfl
theorem zerocR : (Builtin.zeroCells (Value.cells (.agg #[.string ⟨#[]⟩, .int .i64 0])) 1).toList = [.string ⟨#[]⟩, .int .i64 0] := by kernel_rfl
theorem clearR {W : World} {g p c : Nat} (ty : TypeId) (h : ∀ j, j < 2 → (W.cell? ⟨g, p + j, none⟩).isSome = true ∧ W.frozen? ⟨g, p + j, none⟩ = false) :
    (Builtin.clear_ #[40] ty #[.slice (some ⟨g, p, none⟩) 1 c]).run Tryz.prog W = .ok (.tuple #[]) (W.setCells g p [.string ⟨#[]⟩, .int .i64 0]) := by
  have hst := run_storeCells_cells (P := Tryz.prog) g p [.string ⟨#[]⟩, .int .i64 0] 0 W (fun j hj => by rw [Nat.add_zero]; exact (h j hj).1) (fun j hj => by rw [Nat.add_zero]; exact (h j hj).2) (by simp [Value.oneCell'])
  rw [Nat.add_zero] at hst
  simp only [Builtin.clear_, List.getElem?_toArray, List.getElem?_cons_zero, Sem.run_bind, run_underlying Tryz.underlying40, Result.andThen_ok, zeroR, zerocR, hst, Sem.run_pure]
set_option maxRecDepth 100000 in
set_option maxHeartbeats 2000000 in
theorem deleteR {w : World} {l : List Value} {g o cap k n m : Nat} (h : Area w 2 g o cap l) (hl : l.length = n * 2) (hm : n = m + 1) (hk : k < n) (hn : n ≤ cap) (hb : n ≤ 100000) :
    Calls Tryz.prog 46 #[.slice (some ⟨g, o, none⟩) n cap, .int .i64 k, .int .i64 ((k : Int) + 1)] w fun e w' => e = .returned (.slice (some ⟨g, o, none⟩) m cap) ∧ Area w' 2 g o cap (delL 2 k l) ∧ TouchA g o (cap * 2) w w' := by
  have hmx := h.max
  unfold maxLen at hmx
  have hlI : (n : Int) ≤ 100000 := by omega
  have hkI : (k : Int) + 1 ≤ (n : Int) := by omega
  have hnI : (n : Int) ≤ (cap : Int) := by omega
  have q0 : ((k : Int) == (k : Int) + 1) = false := by simp; omega
  have hdl : (l.drop ((k + 1) * 2)).length = (n - (k + 1)) * 2 := by rw [List.length_drop, hl]; omega
  obtain ⟨p, hp, hsrc⟩ : ∃ p, (if cap = k + 1 then some (⟨g, o, none⟩ : Addr) else some ⟨g, o + (k + 1) * 2, none⟩) = some ⟨g, p, none⟩ ∧ Src Tryz.prog 2 40 (.slice (some ⟨g, p, none⟩) (n - (k + 1)) (cap - (k + 1))) (n - (k + 1)) (l.drop ((k + 1) * 2)) w.drew := by
    have h1 : ∀ u ∈ l.drop ((k + 1) * 2), u.oneCell' = true := fun u hu => h.one u (List.mem_of_mem_drop hu)
    by_cases e : cap = k + 1
    · refine ⟨o, by rw [if_pos e], ?_⟩
      refine Src.ofSlice _ Tryz.underlying40 ⟨g, o, none⟩ _ _ _ hdl (fun j u hu => ?_) h1
      have := (List.getElem?_eq_some_iff.1 hu).1
      omega
    · refine ⟨o + (k + 1) * 2, by rw [if_neg e], ?_⟩
      refine Src.ofSlice _ Tryz.underlying40 ⟨g, o + (k + 1) * 2, none⟩ _ _ _ hdl (fun j u hu => ?_) h1
      have hadd : (⟨g, o + (k + 1) * 2, none⟩ : Addr).add j = ⟨g, o + (k + 1) * 2 + j, none⟩ := by unfold Addr.add; split <;> simp_all
      rw [hadd, Nat.add_assoc]
      rw [List.getElem?_drop] at hu
      exact h.holds _ _ hu
  obtain ⟨i0, hi, hz0, hz1, hz2⟩ := info_parts infoR
  have hap := fun ty => run_append_room_src (P := Tryz.prog) w.drew 40 40 ty 42 i0 Tryz.underlying40 hi g o k cap _ _ _ (by rw [hz1]; exact hsrc) (by omega) (fun j hj => by rw [hz1, Nat.add_assoc]; exact (h.there (k * 2 + j) (by omega)).1) (fun j hj => by rw [hz1, Nat.add_assoc]; exact (h.there (k * 2 + j) (by omega)).2)
  have e1 : k + (n - (k + 1)) = m := by omega
  rw [hz1, e1] at hap
  have hr2 : Area ((w.drew.setCells g (o + k * 2) (l.drop ((k + 1) * 2))).setCells g (o + m * 2) [.string ⟨#[]⟩, .int .i64 0]) 2 g o cap (delL 2 k l) := (h.keep (w' := w.drew) (Nat.le_refl _) rfl).del (by omega) (by omega) rfl
  have ht1 := TouchA.setCells w.drew g o (cap * 2) (o + k * 2) (l.drop ((k + 1) * 2)) (by omega) (by omega)
  obtain ⟨W1, hW1⟩ : ∃ W1, W1 = w.drew.setCells g (o + k * 2) (l.drop ((k + 1) * 2)) := ⟨_, rfl⟩
  rw [← hW1] at hap hr2 ht1
  have hzl : ([.string ⟨#[]⟩, .int .i64 0] : List Value).length = 2 := rfl
  have hT2 := ht1.trans (TouchA.setCells W1 g o (cap * 2) (o + m * 2) [.string ⟨#[]⟩, .int .i64 0] (by omega) (by rw [hzl]; omega))
  have hth : ∀ j, j < 2 → (W1.cell? ⟨g, o + m * 2 + j, none⟩).isSome = true ∧ W1.frozen? ⟨g, o + m * 2 + j, none⟩ = false := fun j hj => by
    rw [hW1]
    refine ⟨?_, ?_⟩
    · by_cases hin : k * 2 ≤ m * 2 + j ∧ m * 2 + j < k * 2 + (l.drop ((k + 1) * 2)).length
      · rw [hdl] at hin; omega
      · rw [World.cell?_setCells_out g _ (o + k * 2) w.drew ⟨g, o + m * 2 + j, none⟩ (fun _ _ => by simp only; omega), Nat.add_assoc]
        exact (h.there (m * 2 + j) (by omega)).1
    · rw [World.frozen?_setCells, Nat.add_assoc]
      exact (h.there (m * 2 + j) (by omega)).2
  have HCLR := Lib.hid (clearR (c := cap - m) 0 hth)
  have HAP := Lib.hid hap
  have HF : Hid (Area (W1.setCells g (o + m * 2) [.string ⟨#[]⟩, .int .i64 0]) 2 g o cap (delL 2 k l) ∧ TouchA g o (cap * 2) w (W1.setCells g (o + m * 2) [.string ⟨#[]⟩, .int .i64 0])) := Lib.hid ⟨hr2, (TouchA.refl g o (cap * 2) w).drew.trans hT2⟩
  have HLM : Hid (n - m = 1) := Lib.hid (by omega)
  have HML : Hid ((m : Int) ≤ (n : Int)) := Lib.hid (by omega)
  have HMC : Hid ((cap = m) = False) := Lib.hid (eq_false (by omega))
  clear hm
  clear hap hr2 hT2 ht1 hth hW1
  clear h hi hz0 hz1 hz2 hsrc hdl e1
  go_enter Tryz.func46, Tryz.ntmps46
  go_wp2_with fail
  refine wp_only ?_
  refine wp_region_held_drew (S := fun _ => True) (by kernel_rfl) trivial (fun hHeld => ?_)
  refine wpAnyH_take (i := 0) (oi := { dst := some 20, op := Op.move (Operand.tmp 0), type := 40, pos := "slices.go:232", after := #[], guard := none }) (v := ?vv1) rfl (by kernel_rfl) (by kernel_rfl) (by kernel_rfl) (fun _ _ _ h => h) ?hy1 (by assumption) ?rest1
  case hy1 => (refine Or.inl ⟨by rfl, ?_⟩; intro W hSw; (try dsimp only at hSw); go_simp; (try with_reducible rfl))
  try simp only [Act.put, List.setIfInBounds_toArray, List.set_cons_zero, List.set_cons_succ]
  refine wpAnyH_take (i := 1) (oi := { dst := some 21, op := Op.move (Operand.tmp 1), type := 3, pos := "slices.go:232", after := #[], guard := none }) (v := ?vv2) rfl (by kernel_rfl) (by kernel_rfl) (by kernel_rfl) (fun _ _ _ h => h) ?hy2 (by assumption) ?rest2
  case hy2 => (refine Or.inl ⟨by rfl, ?_⟩; intro W hSw; (try dsimp only at hSw); go_simp; (try with_reducible rfl))
  try simp only [Act.put, List.setIfInBounds_toArray, List.set_cons_zero, List.set_cons_succ]
  refine wpAnyH_take (i := 2) (oi := { dst := some 22, op := Op.slice 40 (Operand.tmp 20) none (some (Operand.tmp 21)) none, type := 40, pos := "slices.go:232", after := #[{ on := 0, ground := Ground.data }, { on := 1, ground := Ground.data }], guard := none }) (v := (.slice (some ⟨g, o, none⟩) k cap)) rfl (by kernel_rfl) (by kernel_rfl) (by kernel_rfl) (fun _ _ _ h => h) ?hy3 (by assumption) ?rest3
  case hy3 => ((refine Or.inl ⟨by rfl, fun W _ => ?_⟩; go_simp; intro h; omega))
  try simp only [Act.put, List.setIfInBounds_toArray, List.set_cons_zero, List.set_cons_succ]
  refine wpAnyH_take (i := 3) (oi := { dst := some 23, op := Op.move (Operand.tmp 0), type := 40, pos := "slices.go:232", after := #[], guard := none }) (v := ?vv4) rfl (by kernel_rfl) (by kernel_rfl) (by kernel_rfl) (fun _ _ _ h => h) ?hy4 (by assumption) ?rest4
  case hy4 => (refine Or.inl ⟨by rfl, ?_⟩; intro W hSw; (try dsimp only at hSw); go_simp; (try with_reducible rfl))
  try simp only [Act.put, List.setIfInBounds_toArray, List.set_cons_zero, List.set_cons_succ]
  refine wpAnyH_take (i := 4) (oi := { dst := some 24, op := Op.move (Operand.tmp 2), type := 3, pos := "slices.go:232", after := #[], guard := none }) (v := ?vv5) rfl (by kernel_rfl) (by kernel_rfl) (by kernel_rfl) (fun _ _ _ h => h) ?hy5 (by assumption) ?rest5
  case hy5 => (refine Or.inl ⟨by rfl, ?_⟩; intro W hSw; (try dsimp only at hSw); go_simp; (try with_reducible rfl))
  try simp only [Act.put, List.setIfInBounds_toArray, List.set_cons_zero, List.set_cons_succ]
  refine wpAnyH_take (i := 5) (oi := { dst := some 25, op := Op.slice 40 (Operand.tmp 23) (some (Operand.tmp 24)) none none, type := 40, pos := "slices.go:232", after := #[{ on := 3, ground := Ground.data }, { on := 4, ground := Ground.data }], guard := none }) (v := (.slice (some ⟨g, p, none⟩) (n - (k + 1)) (cap - (k + 1)))) rfl (by kernel_rfl) (by kernel_rfl) (by kernel_rfl) (fun _ _ _ h => h) ?hy6 (by assumption) ?rest6
  case hy6 => ((refine Or.inl ⟨by rfl, fun W _ => ?_⟩; go_simp; intro h; omega))
  try simp only [Act.put, List.setIfInBounds_toArray, List.set_cons_zero, List.set_cons_succ]
  refine wpAnyH_ready (rs := [6]) (by kernel_rfl) (by simp) ?_
  refine AllReadyH.cons (o := { dst := some 26, op := Op.call { callee := Callee.builtin Builtin.append, args := #[Operand.tmp 22, Operand.tmp 25], argTypes := #[40, 40] }, type := 40, pos := "slices.go:232", after := #[{ on := 2, ground := Ground.data }, { on := 5, ground := Ground.data }], guard := none }) rfl (fun K hK => ?step7) ?more7
  case more7 => exact AllReadyH.nil
  (refine step_app_run (HAP.out _) rfl (.tmp 22) (.tmp 25) rfl rfl rfl ?_)
  refine hK.out _ _ ?hS7 (fun hHeld => ?rr7)
  case hS7 => (trivial)
  clear hK K
  try simp only [Act.put, List.setIfInBounds_toArray, List.set_cons_zero, List.set_cons_succ]
  refine wpAnyH_take (i := 7) (oi := { dst := some 0, op := Op.assign (Operand.tmp 26), type := 40, pos := "slices.go:232", after := #[{ on := 6, ground := Ground.data }, { on := 6, ground := Ground.chain }, { on := 0, ground := Ground.phase }, { on := 1, ground := Ground.phase }, { on := 2, ground := Ground.phase }, { on := 3, ground := Ground.phase }, { on := 4, ground := Ground.phase }, { on := 5, ground := Ground.phase }, { on := 6, ground := Ground.phase }], guard := none }) (v := ?vv8) rfl (by kernel_rfl) (by kernel_rfl) (by kernel_rfl) (fun _ _ _ h => h) ?hy8 (by assumption) ?rest8
  case hy8 => (refine Or.inl ⟨by rfl, ?_⟩; intro W hSw; (try dsimp only at hSw); go_simp; (try with_reducible rfl))
  try simp only [Act.put, List.setIfInBounds_toArray, List.set_cons_zero, List.set_cons_succ]
  refine wpAnyH_done (by kernel_rfl) ?_ _
  clear hHeld HAP
  dsimp only [onlyN]
  have hlm := HLM.out
  have hml := HML.out
  have hmc := HMC.out
  have hclr := HCLR.out
  go_wp2_with fail
  go_ret
  exact ⟨rfl, HF.out.1, by simpa using HF.out.2⟩
end Go.Proofs.YtkkembbeejlomaaGreatDoor
