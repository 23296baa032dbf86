/- slices.Insert between others, where there is room: the walk. -/
import Derived.Test.YtmaokoekbjjgfaaDoorZChaV
set_option linter.unusedSimpArgs false
set_option linter.unusedVariables false
set_option linter.unnecessarySimpa false
namespace Go.Proofs.YtmaokoekbjjgfaaDoor
open Go.RowKit Go.Shelf

theorem step_copy_run {P : Program} {ops : Array Oper} {o : Oper} {a : Act} {w wa : World} {K : Act → World → Prop} {Q : Exit → Act → World → Prop} {E : Prop} {T tx : TypeId} {u v v' : Value}
    (hrun : (Builtin.copy_ #[T, tx] o.type #[u, v]).run P w = .ok v' wa) (hgd : o.guard = none) (s x : Operand) (ho : o.op = .call { callee := .builtin .copy, args := #[s, x], argTypes := #[T, tx] })
    (hs : a.eval s = u) (hx : a.eval x = v) (h : K (a.put o.dst v') wa) : if Region.wanted o (yielded ops a.tmps) = true then Oper.wp P o a w K Q else E := by
  have hw : Region.wanted o (yielded ops a.tmps) = true := by simp [Region.wanted, hgd]
  rw [if_pos hw]
  unfold Oper.wp execOp
  simp only [ho, resolve, invoke, builtin, Sem.run_bind, Sem.run_pure, Result.andThen_ok, List.map_toArray, List.map_cons, List.map_nil, hs, hx, hrun]
  exact h
/-- The memory behind an insertion in place. -/
theorem RowC.ins {w : World} {g cap i : Nat} {L : List Ver} {x : Ver} (h : RowC w 5 g cap (verC L)) (hi : i < L.length) (hr : L.length + 1 ≤ cap) :
    RowC ((w.setCells g ((i + 1) * 5) (verC (L.drop i))).setCells g (i * 5) (verV x)) 5 g cap (verC (L.take i ++ x :: L.drop i)) := by
  have hd : (verC (L.drop i)).length = (L.length - i) * 5 := by rw [verC_len, List.length_drop]
  have ht : (verC (L.take i)).length = i * 5 := by rw [verC_len, List.length_take, Nat.min_eq_left (by omega)]
  have ht1 : (verC (L.take (i + 1))).length = (i + 1) * 5 := by rw [verC_len, List.length_take, Nat.min_eq_left (by omega)]
  have hL : verC L = verC (L.take i) ++ verC (L.drop i) := by rw [← verC_append, List.take_append_drop]
  have hL1 : verC L = verC (L.take (i + 1)) ++ verC (L.drop (i + 1)) := by rw [← verC_append, List.take_append_drop]
  have hxe : verC (L.take i ++ x :: L.drop i) = verC (L.take i) ++ (verV x ++ verC (L.drop i)) := by rw [verC_append]; rfl
  have hvl : (verV x).length = 5 := rfl
  have hxl : (verC (L.take i ++ x :: L.drop i)).length = (L.length + 1) * 5 := by rw [hxe, List.length_append, List.length_append, ht, hd, hvl]; omega
  have h1 : RowC (w.setCells g ((i + 1) * 5) (verC (L.drop i))) 5 g cap (verC (L.take (i + 1)) ++ verC (L.drop i)) := h.setCs (by rw [hd]; omega) (by rw [List.length_append, ht1, hd]; omega) (fun j b hj hb => by
    rw [List.getElem?_append_right (by rw [ht1]; omega), ht1] at hb
    have e : (i + 1) * 5 + j - (i + 1) * 5 = j := by omega
    rw [e] at hb
    exact hb) (fun j b hj hb => by
    have hjl := (List.getElem?_eq_some_iff.1 hb).1
    rw [List.length_append, ht1, hd] at hjl
    rw [hd] at hj
    have hjk : j < (i + 1) * 5 := by omega
    rw [List.getElem?_append_left (by rw [ht1]; exact hjk)] at hb
    rw [hL1, List.getElem?_append_left (by rw [ht1]; exact hjk)]
    exact hb)
  exact h1.setCs (by rw [hvl]; omega) (by rw [hxl]; omega) (fun j b hj hb => by
    rw [hvl] at hj
    rw [hxe, List.getElem?_append_right (by rw [ht]; omega), ht] at hb
    have e : i * 5 + j - i * 5 = j := by omega
    rw [e, List.getElem?_append_left (by rw [hvl]; exact hj)] at hb
    exact hb) (fun j b hj hb => by
    rw [hvl] at hj
    by_cases hjk : j < i * 5
    · rw [hxe, List.getElem?_append_left (by rw [ht]; exact hjk)] at hb
      rw [List.getElem?_append_left (by rw [ht1]; omega)]
      have h2 : (verC L)[j]? = some b := by rw [hL, List.getElem?_append_left (by rw [ht]; exact hjk)]; exact hb
      rw [hL1, List.getElem?_append_left (by rw [ht1]; omega)] at h2
      exact h2
    · rw [hxe, List.getElem?_append_right (by rw [ht]; omega), ht, List.getElem?_append_right (by rw [hvl]; omega), hvl] at hb
      rw [List.getElem?_append_right (by rw [ht1]; omega), ht1]
      have e : j - i * 5 - 5 = j - (i + 1) * 5 := by omega
      rw [e] at hb
      exact hb)
theorem info5 : (Tryd.prog.info? 47).map (·.size) = some 5 := by kernel_rfl
set_option maxRecDepth 100000 in
set_option maxHeartbeats 1000000 in
theorem insert_room {W : World} {L : List Ver} {g cap b i : Nat} {x : Ver} (h : RowC W 5 g cap (verC L)) (hi : i < L.length) (hroom : L.length + 1 ≤ cap) (hl : L.length ≤ 1000000) (hx : W.heap[b]? = some (.cells #[.int .i64 x.at_, .int .i64 x.n, .bool x.there, .int .i64 x.read, .bool x.opn] 47 (0, 0))) (hbg : b ≠ g) :
    Calls Tryd.prog 44 #[.slice (some ⟨g, 0, none⟩) L.length cap, .int .i64 i, .slice (some ⟨b, 0, none⟩) 1 1] W fun e w' => e = .returned (.slice (some ⟨g, 0, none⟩) (L.length + 1) cap) ∧ RowC w' 5 g cap (verC (L.take i ++ x :: L.drop i)) ∧ Touch (fun k => k = g) W w' := by
  have hmx := h.max
  unfold maxLen at hmx
  have hlI : (L.length : Int) ≤ 1000000 := by omega
  have hiI : (i : Int) < (L.length : Int) := by omega
  have hcI : (L.length : Int) + 1 ≤ (cap : Int) := by omega
  have q0 : ((i : Int) == (L.length : Int)) = false := by simp; omega
  have hwr : IntKind.i64.wrap ((i : Int) + 1) = (i : Int) + 1 := IntWalk.i64_in _ (by omega)
  have hwr2 : IntKind.i64.wrap ((L.length : Int) + 1) = (L.length : Int) + 1 := IntWalk.i64_in _ (by omega)
  have hov := fun p lb cb => over_ver (p := p) hx hbg (h.there 0 (by omega)).1 lb cb
  have hle := h.le
  rw [verC_len] at hle
  have hd : (verC (L.drop i)).length = (L.length - i) * 5 := by rw [verC_len, List.length_drop]
  have ht : (verC (L.take i)).length = i * 5 := by rw [verC_len, List.length_take, Nat.min_eq_left (by omega)]
  have hL : verC L = verC (L.take i) ++ verC (L.drop i) := by rw [← verC_append, List.take_append_drop]
  have hc1 := fun ty => copy_off (P := Tryd.prog) W.drew 48 48 ty 47 5 g ((i + 1) * 5) (L.length + 1 - (i + 1)) (cap - (i + 1)) g (i * 5) (L.length + 1 - i) (cap - i) (L.length - i) (verC (L.drop i)) Tryd.underlying48 info5 (by simp only [Nat.min_def]; split <;> omega) hd
    (fun j u hj => by
      refine h.holds _ _ ?_
      rw [hL, List.getElem?_append_right (by rw [ht]; omega), ht]
      have e : i * 5 + j - i * 5 = j := by omega
      rw [e]
      exact hj) (fun j hj => (h.there _ (by omega)).1) (fun j hj => (h.there _ (by omega)).2) (verC_one _)
  obtain ⟨W1, hW1⟩ : ∃ W1, W1 = W.drew.setCells g ((i + 1) * 5) (verC (L.drop i)) := ⟨_, rfl⟩
  rw [← hW1] at hc1
  have hxl : (verC (L.take i ++ x :: L.drop i)).length = (L.length + 1) * 5 := by rw [verC_len, List.length_append, List.length_cons, List.length_take, List.length_drop]; omega
  have hxe : verC (L.take i ++ x :: L.drop i) = verC (L.take i) ++ (verV x ++ verC (L.drop i)) := by rw [verC_append]; rfl
  have hvl : (verV x).length = 5 := rfl
  have hr1 : RowC W1 5 g cap (verC L) ∨ True := .inr trivial
  have hth : ∀ j, j < 5 → (W1.cell? ⟨g, i * 5 + j, none⟩).isSome = true ∧ W1.frozen? ⟨g, i * 5 + j, none⟩ = false := fun j hj => by
    rw [hW1]
    refine ⟨?_, by rw [World.frozen?_setCells]; exact (h.there (i * 5 + j) (by omega)).2⟩
    rw [World.cell?_setCells_out g _ ((i + 1) * 5) W.drew ⟨g, i * 5 + j, none⟩ (fun _ _ => by simp only; omega)]
    exact (h.there (i * 5 + j) (by omega)).1
  have hkb := World.keptBut_setCells g (may := fun p => p.block = g) (verC (L.drop i)) ((i + 1) * 5) W.drew (fun _ _ => rfl)
  have ht1 : Touch (fun k => k = g) W W1 := by
    rw [hW1]
    exact ⟨hkb.1, (setCells_tape g _ _ W.drew).1, hkb.2.1, Nat.le_of_eq (setCells_tape g _ _ W.drew).2.symm, fun k hk hne => hkb.block hk (fun p hp e => hne (by rw [← e, hp]))⟩
  have hx1 := (ht1.block b (heap_lt hx) hbg).trans hx
  have hc2 := fun ty => copy_off (P := Tryd.prog) W1 48 48 ty 47 5 g (i * 5) (L.length + 1 - i) (cap - i) b 0 1 1 1 (verV x) Tryd.underlying48 info5 (by simp only [Nat.min_def]; split <;> omega) rfl
    (fun j u hj => by rw [cell_of hx1, Nat.zero_add]; simpa [verV] using hj) (fun j hj => (hth j (by omega)).1) (fun j hj => (hth j (by omega)).2) (by intro v hv; simp only [verV, List.mem_cons, List.not_mem_nil, or_false] at hv; rcases hv with rfl | rfl | rfl | rfl | rfl <;> rfl)
  have hfin : RowC (W1.setCells g (i * 5) (verV x)) 5 g cap (verC (L.take i ++ x :: L.drop i)) ∧ Touch (fun k => k = g) W (W1.setCells g (i * 5) (verV x)) := by
    refine ⟨?_, ?_⟩
    · rw [hW1]
      exact RowC.ins (h.keep (Nat.le_refl _) rfl) hi hroom
    · have hk2 := World.keptBut_setCells g (may := fun p => p.block = g) (verV x) (i * 5) W1 (fun _ _ => rfl)
      exact ht1.trans (T := fun k => k = g) ⟨hk2.1, (setCells_tape g _ _ W1).1, hk2.2.1, Nat.le_of_eq (setCells_tape g _ _ W1).2.symm, fun k hk hne => hk2.block hk (fun p hp e => hne (by rw [← e, hp]))⟩ (fun _ _ e => e)
  have HC1 := Lib.hid hc1
  have HC2 := Lib.hid hc2
  have HF := Lib.hid hfin
  clear hc1 hc2 hfin hx1 ht1 hkb hth hr1 hvl hxe hxl hW1 hL ht hd hle
  have HR := Lib.hid h
  have HX := Lib.hid hx
  clear h hx
  go_enter Tryd.func44, Tryd.ntmps44
  go_wp2_with (simp only [hov])
  refine wp_only ?_
  refine wp_region_held_drew (S := fun _ => True) (by kernel_rfl) trivial (fun hHeld => ?_)
  refine wpAnyH_take (i := 0) (oi := { dst := some 69, op := Op.move (Operand.tmp 0), type := 48, pos := "slices.go:178", after := #[], guard := none }) (v := ?vv1) rfl (by kernel_rfl) (by kernel_rfl) (by kernel_rfl) (fun _ _ _ h => h) ?hy1 (by assumption) ?rest1
  case hy1 => (refine Or.inl ⟨by rfl, ?_⟩; intro W hSw; (try dsimp only at hSw); go_simp; (try with_reducible rfl))
  try simp only [Act.put, List.setIfInBounds_toArray, List.set_cons_zero, List.set_cons_succ]
  refine wpAnyH_take (i := 1) (oi := { dst := some 70, op := Op.move (Operand.tmp 1), type := 3, pos := "slices.go:178", after := #[], guard := none }) (v := ?vv2) rfl (by kernel_rfl) (by kernel_rfl) (by kernel_rfl) (fun _ _ _ h => h) ?hy2 (by assumption) ?rest2
  case hy2 => (refine Or.inl ⟨by rfl, ?_⟩; intro W hSw; (try dsimp only at hSw); go_simp; (try with_reducible rfl))
  try simp only [Act.put, List.setIfInBounds_toArray, List.set_cons_zero, List.set_cons_succ]
  refine wpAnyH_take (i := 2) (oi := { dst := some 71, op := Op.move (Operand.tmp 7), type := 3, pos := "slices.go:178", after := #[], guard := none }) (v := ?vv3) rfl (by kernel_rfl) (by kernel_rfl) (by kernel_rfl) (fun _ _ _ h => h) ?hy3 (by assumption) ?rest3
  case hy3 => (refine Or.inl ⟨by rfl, ?_⟩; intro W hSw; (try dsimp only at hSw); go_simp; (try with_reducible rfl))
  try simp only [Act.put, List.setIfInBounds_toArray, List.set_cons_zero, List.set_cons_succ]
  refine wpAnyH_take (i := 3) (oi := { dst := some 72, op := Op.binOp BinOp.add 3 (Operand.tmp 70) (Operand.tmp 71) 3, type := 3, pos := "slices.go:178", after := #[{ on := 1, ground := Ground.data }, { on := 2, ground := Ground.data }], guard := none }) (v := ?vv4) rfl (by kernel_rfl) (by kernel_rfl) (by kernel_rfl) (fun _ _ _ h => h) ?hy4 (by assumption) ?rest4
  case hy4 => (refine Or.inl ⟨by rfl, ?_⟩; intro W hSw; (try dsimp only at hSw); go_simp; (try with_reducible rfl))
  try simp only [Act.put, List.setIfInBounds_toArray, List.set_cons_zero, List.set_cons_succ]
  refine wpAnyH_take (i := 4) (oi := { dst := some 73, op := Op.slice 48 (Operand.tmp 69) (some (Operand.tmp 72)) none none, type := 48, pos := "slices.go:178", after := #[{ on := 0, ground := Ground.data }, { on := 3, ground := Ground.data }], guard := none }) (v := (.slice (some ⟨g, (i + 1) * 5, none⟩) (L.length + 1 - (i + 1)) (cap - (i + 1)))) rfl (by kernel_rfl) (by kernel_rfl) (by kernel_rfl) (fun _ _ _ h => h) ?hy5 (by assumption) ?rest5
  case hy5 => ((refine Or.inl ⟨by rfl, fun W _ => ?_⟩; go_simp; rw [if_pos (by omega), if_neg (by omega)]))
  try simp only [Act.put, List.setIfInBounds_toArray, List.set_cons_zero, List.set_cons_succ]
  refine wpAnyH_take (i := 5) (oi := { dst := some 74, op := Op.move (Operand.tmp 0), type := 48, pos := "slices.go:178", after := #[], guard := none }) (v := ?vv6) rfl (by kernel_rfl) (by kernel_rfl) (by kernel_rfl) (fun _ _ _ h => h) ?hy6 (by assumption) ?rest6
  case hy6 => (refine Or.inl ⟨by rfl, ?_⟩; intro W hSw; (try dsimp only at hSw); go_simp; (try with_reducible rfl))
  try simp only [Act.put, List.setIfInBounds_toArray, List.set_cons_zero, List.set_cons_succ]
  refine wpAnyH_take (i := 6) (oi := { dst := some 75, op := Op.move (Operand.tmp 1), type := 3, pos := "slices.go:178", after := #[], guard := none }) (v := ?vv7) rfl (by kernel_rfl) (by kernel_rfl) (by kernel_rfl) (fun _ _ _ h => h) ?hy7 (by assumption) ?rest7
  case hy7 => (refine Or.inl ⟨by rfl, ?_⟩; intro W hSw; (try dsimp only at hSw); go_simp; (try with_reducible rfl))
  try simp only [Act.put, List.setIfInBounds_toArray, List.set_cons_zero, List.set_cons_succ]
  refine wpAnyH_take (i := 7) (oi := { dst := some 76, op := Op.slice 48 (Operand.tmp 74) (some (Operand.tmp 75)) none none, type := 48, pos := "slices.go:178", after := #[{ on := 5, ground := Ground.data }, { on := 6, ground := Ground.data }], guard := none }) (v := (.slice (some ⟨g, i * 5, none⟩) (L.length + 1 - i) (cap - i))) rfl (by kernel_rfl) (by kernel_rfl) (by kernel_rfl) (fun _ _ _ h => h) ?hy8 (by assumption) ?rest8
  case hy8 => ((refine Or.inl ⟨by rfl, fun W _ => ?_⟩; go_simp; rw [if_pos (by omega), if_neg (by omega)]))
  try simp only [Act.put, List.setIfInBounds_toArray, List.set_cons_zero, List.set_cons_succ]
  refine wpAnyH_ready (rs := [8]) (by kernel_rfl) (by simp) ?_
  refine AllReadyH.cons (o := { dst := some 77, op := Op.call { callee := Callee.builtin Builtin.copy, args := #[Operand.tmp 73, Operand.tmp 76], argTypes := #[48, 48] }, type := 3, pos := "slices.go:178", after := #[{ on := 4, ground := Ground.data }, { on := 7, ground := Ground.data }], guard := none }) rfl (fun K hK => ?step9) ?more9
  case more9 => exact AllReadyH.nil
  (refine step_copy_run (HC1.out _) rfl (.tmp 73) (.tmp 76) rfl rfl rfl ?_)
  refine hK.out _ _ ?hS9 (fun hHeld => ?rr9)
  case hS9 => (trivial)
  clear hK K
  try simp only [Act.put, List.setIfInBounds_toArray, List.set_cons_zero, List.set_cons_succ]
  refine wpAnyH_done (by kernel_rfl) ?_ _
  clear hHeld HC1
  dsimp only [onlyN]
  have hc2 := HC2.out
  go_wp2_with fail
  go_ret
  exact ⟨rfl, HF.out⟩
end Go.Proofs.YtmaokoekbjjgfaaDoor
