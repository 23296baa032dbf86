/- slices.Insert between others, where there is no room. slices.Insert of one version, anywhere. -/
import Derived.Test.YtmaokoekbjjgfaaDoorZChaX
import Derived.Lib.AppendZerosOnto
set_option linter.unusedSimpArgs false
set_option linter.unusedVariables false
set_option linter.unnecessarySimpa false
namespace Go.Proofs.YtmaokoekbjjgfaaDoor
open Go.RowKit Go.Shelf

set_option maxRecDepth 100000 in
set_option maxHeartbeats 1000000 in
theorem insert_grow {w : World} {L : List Ver} {g cap b i : Nat} {x : Ver} (h : RowC w 5 g cap (verC L)) (hi : i < L.length) (hroom : cap = L.length) (hl : L.length ≤ 1000000) (hx : w.heap[b]? = some (.cells #[.int .i64 x.at_, .int .i64 x.n, .bool x.there, .int .i64 x.read, .bool x.opn] 47 (0, 0))) (hbg : b ≠ g) :
    Calls Tryd.prog 44 #[.slice (some ⟨g, 0, none⟩) L.length cap, .int .i64 i, .slice (some ⟨b, 0, none⟩) 1 1] w fun e w' => ∃ G, L.length + 1 ≤ G ∧ e = .returned (.slice (some ⟨w.heap.size, 0, none⟩) (L.length + 1) G) ∧ RowC w' 5 w.heap.size G (verC (L.take i ++ x :: L.drop i)) ∧ Below w.heap.size w w' := by
  subst hroom
  have hmx := h.max
  unfold maxLen at hmx
  have hlI : (L.length : Int) ≤ 1000000 := by omega
  have hiI : (i : Int) < (L.length : Int) := by omega
  have q0 : ((i : Int) == (L.length : Int)) = false := by simp; omega
  have hwr : IntKind.i64.wrap ((i : Int) + 1) = (i : Int) + 1 := IntWalk.i64_in _ (by omega)
  have hwr2 : IntKind.i64.wrap ((L.length : Int) + 1) = (L.length : Int) + 1 := IntWalk.i64_in _ (by omega)
  have hd : (verC (L.drop i)).length = (L.length - i) * 5 := by rw [verC_len, List.length_drop]
  have ht : (verC (L.take i)).length = i * 5 := by rw [verC_len, List.length_take, Nat.min_eq_left (by omega)]
  have hL : verC L = verC (L.take i) ++ verC (L.drop i) := by rw [← verC_append, List.take_append_drop]
  have hvl : (verV x).length = 5 := rfl
  have hxe : verC (L.take i ++ x :: L.drop i) = verC (L.take i) ++ (verV x ++ verC (L.drop i)) := by rw [verC_append]; rfl
  obtain ⟨i0, hi0, hz0, hz1, hz2⟩ := info_parts infoV
  have hold : (Builtin.firstCells i0.size i (.slice (some ⟨g, 0, none⟩) i L.length)).run Tryd.prog w.drew = .ok (verC (L.take i)).toArray w.drew := by
    rw [hz1]
    exact run_firstCells_some w.drew 5 i ⟨g, 0, none⟩ i L.length (verC (L.take i)) ht (fun j v hj => by
      rw [add0]
      refine h.holds _ _ ?_
      rw [hL, List.getElem?_append_left (List.getElem?_eq_some_iff.1 hj).1]
      exact hj)
  have hgl := h.lt
  have hbl := heap_lt hx
  have hkk : (L.length : Int) + 1 - (i : Int) = ((L.length + 1 - i : Nat) : Int) := by omega
  have hik : i + (L.length + 1 - i) = L.length + 1 := by omega
  have hap := fun ty => Lib.run_append_grow_zeros w 48 3 ty 47 i0 _ .i64 .i64 Tryd.underlying48 Tryd.underlying3 hi0 hz0 (some ⟨g, 0, none⟩) i L.length (verC (L.take i)) hold (L.length + 1 - i) (by omega) (by omega) (by omega) (by omega) (by rw [hz2]; omega) (by
    rw [hz2, hik]
    have := Go.Room.nextslicecap_le' (show L.length < L.length + 1 by omega)
    exact Nat.le_trans (Nat.mul_le_mul_right _ this) (by omega))
  rw [hik] at hap
  rw [← hkk] at hap
  have hGn := grownCap_ge w (L.length + 1) L.length 47
  have hGm := grownCap_le_maxLen w (L.length + 1) L.length 47 (by unfold maxLen; omega)
  generalize grownCap w (L.length + 1) L.length 47 = G at hap hGn hGm
  obtain ⟨ROW, hROW⟩ : ∃ ROW : Array Value, ROW = (verC (L.take i)).toArray ++ Builtin.zeroCells (Value.agg #[.int .i64 0, .int .i64 0, .bool false, .int .i64 0, .bool false]).cells (L.length + 1 - i) ++ Builtin.zeroCells (Value.agg #[.int .i64 0, .int .i64 0, .bool false, .int .i64 0, .bool false]).cells (G - (L.length + 1)) := ⟨_, rfl⟩
  rw [← hROW] at hap
  have hRl : ROW.size = G * 5 := by
    rw [hROW, Array.size_append, Array.size_append, size_zeroCells, size_zeroCells, List.size_toArray, ht]
    have e : (Value.agg #[.int .i64 0, .int .i64 0, .bool false, .int .i64 0, .bool false]).cells.size = 5 := rfl
    rw [e]
    omega
  have hat := alloc_at w.drew (.cells ROW 47)
  have hbA : Below w.heap.size w (w.drew.alloc (.cells ROW 47)) := below_of_drew (below_new _)
  obtain ⟨W1, hW1⟩ : ∃ W1, W1 = w.drew.alloc (.cells ROW 47) := ⟨_, rfl⟩
  rw [← hW1] at hap hat hbA
  have hat : W1.heap[w.heap.size]? = some (.cells ROW 47 (0, 0)) := hat
  have hr1 : RowC W1 5 w.heap.size G (verC (L.take i)) := by
    refine ⟨heap_lt hat, by rw [ht]; omega, hGm, fun j u hj => ?_, fun j hj => ⟨?_, free0 hat j⟩⟩
    · have hjl := (List.getElem?_eq_some_iff.1 hj).1
      rw [cell_of hat j, hROW, Array.getElem?_append_left (by rw [Array.size_append, List.size_toArray]; omega), Array.getElem?_append_left (by rw [List.size_toArray]; exact hjl)]
      simpa using hj
    · rw [cell_of hat j, Array.getElem?_eq_getElem (by rw [hRl]; exact hj)]
      rfl
  have hr2 : RowC (W1.setCells w.heap.size (i * 5) (verV x)) 5 w.heap.size G (verC (L.take i) ++ verV x) := hr1.setCs (by rw [hvl]; omega) (by rw [List.length_append, ht, hvl]; omega) (fun j u hj hb => by
    rw [List.getElem?_append_right (by rw [ht]; omega), ht] at hb
    have e : i * 5 + j - i * 5 = j := by omega
    rw [e] at hb
    exact hb) (fun j u hj hb => by
    have hjl := (List.getElem?_eq_some_iff.1 hb).1
    rw [List.length_append, ht, hvl] at hjl
    rw [hvl] at hj
    rw [List.getElem?_append_left (by rw [ht]; omega)] at hb
    exact hb)
  obtain ⟨W2, hW2⟩ : ∃ W2, W2 = W1.setCells w.heap.size (i * 5) (verV x) := ⟨_, rfl⟩
  rw [← hW2] at hr2
  have hr2 : RowC W2.drew 5 w.heap.size G (verC (L.take i) ++ verV x) := hr2.keep (Nat.le_refl _) rfl
  have hr3 : RowC (W2.drew.setCells w.heap.size ((i + 1) * 5) (verC (L.drop i))) 5 w.heap.size G (verC (L.take i ++ x :: L.drop i)) := hr2.setCs (by rw [hd]; omega) (by rw [hxe, List.length_append, List.length_append, ht, hvl, hd]; omega) (fun j u hj hb => by
    rw [hxe, ← List.append_assoc, List.getElem?_append_right (by rw [List.length_append, ht, hvl]; omega), List.length_append, ht, hvl] at hb
    have e : (i + 1) * 5 + j - (i * 5 + 5) = j := by omega
    rw [e] at hb
    exact hb) (fun j u hj hb => by
    have hjl := (List.getElem?_eq_some_iff.1 hb).1
    rw [hxe, List.length_append, List.length_append, ht, hvl, hd] at hjl
    rw [hd] at hj
    rw [hxe, ← List.append_assoc, List.getElem?_append_left (by rw [List.length_append, ht, hvl]; omega)] at hb
    exact hb)
  have hk1 := World.keptBut_setCells w.heap.size (may := fun p => p.block = w.heap.size) (verV x) (i * 5) W1 (fun _ _ => rfl)
  have hT1 : Touch (fun k => k = w.heap.size) W1 W2 := by
    rw [hW2]
    exact ⟨hk1.1, (setCells_tape _ _ _ W1).1, hk1.2.1, Nat.le_of_eq (setCells_tape _ _ _ W1).2.symm, fun k hk hne => hk1.block hk (fun p hp e => hne (by rw [← e, hp]))⟩
  have hk2 := World.keptBut_setCells w.heap.size (may := fun p => p.block = w.heap.size) (verC (L.drop i)) ((i + 1) * 5) W2.drew (fun _ _ => rfl)
  have hT2 : Touch (fun k => k = w.heap.size) W2.drew (W2.drew.setCells w.heap.size ((i + 1) * 5) (verC (L.drop i))) :=
    ⟨hk2.1, (setCells_tape _ _ _ W2.drew).1, hk2.2.1, Nat.le_of_eq (setCells_tape _ _ _ W2.drew).2.symm, fun k hk hne => hk2.block hk (fun p hp e => hne (by rw [← e, hp]))⟩
  have hB : Below w.heap.size w (W2.drew.setCells w.heap.size ((i + 1) * 5) (verC (L.drop i))) := (hbA.trans (hT1.below (fun k e => by rw [e]; exact Nat.le_refl _) hbA.size)).trans ((Touch.drew (Touch.refl (fun k => k = w.heap.size) W2)).trans hT2 (fun _ _ e => e) |>.below (fun k e => by rw [e]; exact Nat.le_refl _) (Nat.le_trans hbA.size hT1.size))
  have hx1 : W1.heap[b]? = _ := (hbA.block b hbl).trans hx
  have hcA := fun ty => copy_off (P := Tryd.prog) W1 48 48 ty 47 5 w.heap.size (i * 5) (L.length + 1 - i) (G - i) b 0 1 1 1 (verV x) Tryd.underlying48 info5 (by simp only [Nat.min_def]; split <;> omega) rfl
    (fun j u hj => by rw [cell_of hx1, Nat.zero_add]; simpa [verV] using hj) (fun j hj => (hr1.there _ (by omega)).1) (fun j hj => (hr1.there _ (by omega)).2) (by intro v hv; simp only [verV, List.mem_cons, List.not_mem_nil, or_false] at hv; rcases hv with rfl | rfl | rfl | rfl | rfl <;> rfl)
  have hgg : W2.drew.heap[g]? = w.heap[g]? := (hT1.block g (Nat.lt_of_lt_of_le hgl hbA.size) (by omega)).trans (hbA.block g hgl)
  have hcB := fun ty => copy_off (P := Tryd.prog) W2.drew 48 48 ty 47 5 w.heap.size ((i + 1) * 5) (L.length + 1 - (i + 1)) (G - (i + 1)) g (i * 5) (L.length - i) (L.length - i) (L.length - i) (verC (L.drop i)) Tryd.underlying48 info5 (by simp only [Nat.min_def]; split <;> omega) hd
    (fun j u hj => by
      rw [World.cell?_of_block (a := ⟨g, i * 5 + j, none⟩) hgg]
      refine h.holds _ _ ?_
      rw [hL, List.getElem?_append_right (by rw [ht]; omega), ht]
      have e : i * 5 + j - i * 5 = j := by omega
      rw [e]
      exact hj) (fun j hj => (hr2.there _ (by omega)).1) (fun j hj => (hr2.there _ (by omega)).2) (verC_one _)
  rw [← hW2] at hcA
  have HAP := Lib.hid hap
  have HCA := Lib.hid hcA
  have HCB := Lib.hid hcB
  have HF := Lib.hid (And.intro hr3 hB)
  unfold maxLen at hGm
  have hGI : (L.length : Int) + 1 ≤ (G : Int) := by omega
  have hG1 : (G = i) = False := eq_false (by omega)
  have hG2 : (G = i + 1) = False := eq_false (by omega)
  clear hap hcA hcB hr1 hr2 hr3 hT1 hT2 hk1 hk2 hB hx1 hgg hat hbA hW1 hW2 hROW hRl hold hi0 hz0 hz1 hz2 hkk hik hxe hvl hL ht hd h hx hgl hbl
  go_enter Tryd.func44, Tryd.ntmps44
  have hca := HCA.out
  go_wp2_with (at_builtin; refine wpList_app_run rfl (.tmp 34) (.tmp 39) _ _ rfl rfl rfl (HAP.out _) ?_)
  refine wp_only ?_
  refine wp_region_held_drew (S := fun _ => True) (by kernel_rfl) trivial (fun hHeld => ?_)
  refine wpAnyH_take (i := 0) (oi := { dst := some 46, op := Op.move (Operand.tmp 9), type := 48, pos := "slices.go:154", after := #[], guard := none }) (v := ?vv1) rfl (by kernel_rfl) (by kernel_rfl) (by kernel_rfl) (fun _ _ _ h => h) ?hy1 (by assumption) ?rest1
  case hy1 => (refine Or.inl ⟨by rfl, ?_⟩; intro W hSw; (try dsimp only at hSw); go_simp; (try with_reducible rfl))
  try simp only [Act.put, List.setIfInBounds_toArray, List.set_cons_zero, List.set_cons_succ]
  refine wpAnyH_take (i := 1) (oi := { dst := some 47, op := Op.move (Operand.tmp 1), type := 3, pos := "slices.go:154", after := #[], guard := none }) (v := ?vv2) rfl (by kernel_rfl) (by kernel_rfl) (by kernel_rfl) (fun _ _ _ h => h) ?hy2 (by assumption) ?rest2
  case hy2 => (refine Or.inl ⟨by rfl, ?_⟩; intro W hSw; (try dsimp only at hSw); go_simp; (try with_reducible rfl))
  try simp only [Act.put, List.setIfInBounds_toArray, List.set_cons_zero, List.set_cons_succ]
  refine wpAnyH_take (i := 2) (oi := { dst := some 48, op := Op.move (Operand.tmp 7), type := 3, pos := "slices.go:154", after := #[], guard := none }) (v := ?vv3) rfl (by kernel_rfl) (by kernel_rfl) (by kernel_rfl) (fun _ _ _ h => h) ?hy3 (by assumption) ?rest3
  case hy3 => (refine Or.inl ⟨by rfl, ?_⟩; intro W hSw; (try dsimp only at hSw); go_simp; (try with_reducible rfl))
  try simp only [Act.put, List.setIfInBounds_toArray, List.set_cons_zero, List.set_cons_succ]
  refine wpAnyH_take (i := 3) (oi := { dst := some 49, op := Op.binOp BinOp.add 3 (Operand.tmp 47) (Operand.tmp 48) 3, type := 3, pos := "slices.go:154", after := #[{ on := 1, ground := Ground.data }, { on := 2, ground := Ground.data }], guard := none }) (v := ?vv4) rfl (by kernel_rfl) (by kernel_rfl) (by kernel_rfl) (fun _ _ _ h => h) ?hy4 (by assumption) ?rest4
  case hy4 => (refine Or.inl ⟨by rfl, ?_⟩; intro W hSw; (try dsimp only at hSw); go_simp; (try with_reducible rfl))
  try simp only [Act.put, List.setIfInBounds_toArray, List.set_cons_zero, List.set_cons_succ]
  refine wpAnyH_take (i := 4) (oi := { dst := some 50, op := Op.slice 48 (Operand.tmp 46) (some (Operand.tmp 49)) none none, type := 48, pos := "slices.go:154", after := #[{ on := 0, ground := Ground.data }, { on := 3, ground := Ground.data }], guard := none }) (v := (.slice (some ⟨w.heap.size, (i + 1) * 5, none⟩) (L.length + 1 - (i + 1)) (G - (i + 1)))) rfl (by kernel_rfl) (by kernel_rfl) (by kernel_rfl) (fun _ _ _ h => h) ?hy5 (by assumption) ?rest5
  case hy5 => ((refine Or.inl ⟨by rfl, fun W _ => ?_⟩; go_simp; first | (rw [if_pos (by omega)]; done) | (intro h; omega)))
  try simp only [Act.put, List.setIfInBounds_toArray, List.set_cons_zero, List.set_cons_succ]
  refine wpAnyH_take (i := 5) (oi := { dst := some 51, op := Op.move (Operand.tmp 0), type := 48, pos := "slices.go:154", after := #[], guard := none }) (v := ?vv6) rfl (by kernel_rfl) (by kernel_rfl) (by kernel_rfl) (fun _ _ _ h => h) ?hy6 (by assumption) ?rest6
  case hy6 => (refine Or.inl ⟨by rfl, ?_⟩; intro W hSw; (try dsimp only at hSw); go_simp; (try with_reducible rfl))
  try simp only [Act.put, List.setIfInBounds_toArray, List.set_cons_zero, List.set_cons_succ]
  refine wpAnyH_take (i := 6) (oi := { dst := some 52, op := Op.move (Operand.tmp 1), type := 3, pos := "slices.go:154", after := #[], guard := none }) (v := ?vv7) rfl (by kernel_rfl) (by kernel_rfl) (by kernel_rfl) (fun _ _ _ h => h) ?hy7 (by assumption) ?rest7
  case hy7 => (refine Or.inl ⟨by rfl, ?_⟩; intro W hSw; (try dsimp only at hSw); go_simp; (try with_reducible rfl))
  try simp only [Act.put, List.setIfInBounds_toArray, List.set_cons_zero, List.set_cons_succ]
  refine wpAnyH_take (i := 7) (oi := { dst := some 53, op := Op.slice 48 (Operand.tmp 51) (some (Operand.tmp 52)) none none, type := 48, pos := "slices.go:154", after := #[{ on := 5, ground := Ground.data }, { on := 6, ground := Ground.data }], guard := none }) (v := (.slice (some ⟨g, i * 5, none⟩) (L.length - i) (L.length - i))) rfl (by kernel_rfl) (by kernel_rfl) (by kernel_rfl) (fun _ _ _ h => h) ?hy8 (by assumption) ?rest8
  case hy8 => ((refine Or.inl ⟨by rfl, fun W _ => ?_⟩; first | (go_simp; done) | (go_simp; first | (rw [if_pos (by omega), if_neg (by omega)]; done) | (rw [if_neg (by omega)]; done) | (intro h; omega))))
  try simp only [Act.put, List.setIfInBounds_toArray, List.set_cons_zero, List.set_cons_succ]
  refine wpAnyH_ready (rs := [8]) (by kernel_rfl) (by simp) ?_
  refine AllReadyH.cons (o := { dst := some 54, op := Op.call { callee := Callee.builtin Builtin.copy, args := #[Operand.tmp 50, Operand.tmp 53], argTypes := #[48, 48] }, type := 3, pos := "slices.go:154", after := #[{ on := 4, ground := Ground.data }, { on := 7, ground := Ground.data }], guard := none }) rfl (fun K hK => ?step9) ?more9
  case more9 => exact AllReadyH.nil
  (refine step_copy_run (HCB.out _) rfl (.tmp 50) (.tmp 53) rfl rfl rfl ?_)
  refine hK.out _ _ ?hS9 (fun hHeld => ?rr9)
  case hS9 => (trivial)
  clear hK K
  try simp only [Act.put, List.setIfInBounds_toArray, List.set_cons_zero, List.set_cons_succ]
  refine wpAnyH_done (by kernel_rfl) ?_ _
  clear hHeld HCB HAP
  dsimp only [onlyN]
  go_wp2_with fail
  go_ret
  exact ⟨G, hGn, rfl, HF.out.1, HF.out.2⟩
end Go.Proofs.YtmaokoekbjjgfaaDoor

namespace Go.Proofs.YtmaokoekbjjgfaaDoor
open Go.RowKit Go.Shelf

theorem insert_any {W : World} {L : List Ver} {g cap b i : Nat} {x : Ver} (h : RowIs W 5 (.slice (some ⟨g, 0, none⟩) L.length cap) L.length (verC L)) (hl : L.length ≤ 1000000) (h0 : 0 < L.length) (hi : i ≤ L.length) (hx : W.heap[b]? = some (.cells #[.int .i64 x.at_, .int .i64 x.n, .bool x.there, .int .i64 x.read, .bool x.opn] 47 (0, 0))) (hbg : b ≠ g) :
    Calls Tryd.prog 44 #[.slice (some ⟨g, 0, none⟩) L.length cap, .int .i64 i, .slice (some ⟨b, 0, none⟩) 1 1] W fun e w' => ∃ v', e = .returned v' ∧ RowIs w' 5 v' (L.length + 1) (verC (L.take i ++ x :: L.drop i)) ∧ W.grownBy w' (some g) ∧ (v'.ownBlock = some g ∨ v'.ownBlock = some W.heap.size) := by
  have hlen : (verC (L.take i ++ x :: L.drop i)).length = (L.length + 1) * 5 := by rw [verC_len, List.length_append, List.length_cons, List.length_take, List.length_drop, Nat.min_eq_left hi]; omega
  by_cases e : i = L.length
  · subst e
    refine (insert_end h hl h0 hx).mono ?_
    rintro e w' ⟨v', rfl, hr, hg, hv⟩
    refine ⟨v', rfl, ?_, hg, hv⟩
    rw [List.take_length, List.drop_length]
    exact hr
  · rcases h with ⟨e1, _⟩ | ⟨g', cap', e1, _, hle, hc⟩
    · cases e1
    · cases e1
      by_cases hr : L.length + 1 ≤ cap
      · refine (insert_room hc (by omega) hr hl hx hbg).mono ?_
        rintro e w' ⟨rfl, hr2, hT⟩
        exact ⟨_, rfl, .inr ⟨g, cap, rfl, hlen, hr, hr2⟩, ⟨hT.os, hT.tape, hT.output, hT.size, fun k hk hne => hT.block k hk (fun e => hne (by rw [e]))⟩, .inl rfl⟩
      · refine (insert_grow hc (by omega) (by omega) hl hx hbg).mono ?_
        rintro e w' ⟨G, hG, rfl, hr2, hB⟩
        exact ⟨_, rfl, .inr ⟨_, G, rfl, hlen, hG, hr2⟩, ⟨hB.os, hB.tape, hB.output, hB.size, fun k hk _ => hB.block k hk⟩, .inr rfl⟩
end Go.Proofs.YtmaokoekbjjgfaaDoor
