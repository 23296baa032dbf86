/- Put: its errors, and a row that is there. -/
import Derived.Test.YtkkembbeejlomaaGreatDoorZPagJ
set_option linter.unusedSimpArgs false
set_option linter.unusedVariables false
set_option linter.unnecessarySimpa false
namespace Go.Proofs.YtkkembbeejlomaaGreatDoor
open Go.RowKit Go.Shelf Go.Sort Go.Lib

/-- Put, in plain words: the pages then, and the number of its error. -/
def putP (most : Nat) (P : List (List Row)) (x : Row) : List (List Row) × Int :=
  if 16 < x.k.length then (P, 2)
  else match findP P x.k, (P[(findP P x.k).1]?).getD [] with
    | (i, at_, true), p => (P.set i (p.set at_ x), 0)
    | (i, at_, false), p =>
      if 256 ≤ P.flatten.length then (P, 5)
      else if P = [] then ([[x]], 0)
      else if most < (insAt p at_ x).length then (cutP (P.set i (insAt p at_ x)) i ((insAt p at_ x).length / 2) (insAt p at_ x), 0)
      else (P.set i (insAt p at_ x), 0)
/-- What put leaves: an error, and the store. -/
def PutPost (w : World) (s most : Nat) (v : Value) (L : List Pl) (P : List (List Row)) (x : Row) (e : Ending) (w' : World) : Prop := ∃ c ev, e = .returned ev ∧ ErrIs w' c ev ∧ NumOk c ∧ c.length < 10 ∧ codeOf c = (putP most P x).2 ∧ StPost w s most v L (putP most P x).1 w'
theorem StPost.size {w w' : World} {s most : Nat} {v : Value} {L : List Pl} {P : List (List Row)} (h : StPost w s most v L P w') : w.heap.size ≤ w'.heap.size := by
  obtain ⟨_, _, _, h, _⟩ := h
  exact h.size
theorem bnd_ok (l g n : Int) (hn : n ≠ 0) : NumOk (onto (.bnd l g) (newL n)) ∧ (onto (.bnd l g) (newL n)).length < 10 ∧ codeOf (onto (.bnd l g) (newL n)) = n := by
  have e : newL n = [.num n] := by unfold newL; rw [if_neg hn]
  rw [e]
  refine ⟨fun x hx => ?_, by simp [onto], rfl⟩
  simp [onto] at hx
  rw [hx]; exact hn
set_option maxRecDepth 100000 in
set_option maxHeartbeats 4000000 in
theorem put_long {w : World} {s most : Nat} {v : Value} {L : List Pl} {P : List (List Row)} {x : Row} (h : St w s most v L P) (hx : 16 < x.k.length) (hx2 : x.k.length ≤ maxLen) :
    Calls Tryz.prog 43 #[.pointer (some ⟨s, 0, none⟩), .agg #[strV x.k, .int .i64 x.n]] w (PutPost w s most v L P x) := by
  have hb1 := below_new (w := w) (.cells #[.string ⟨x.k.toArray⟩, .int .i64 x.n] 42)
  have HB := Lib.hid hb1
  have k0 : (w.alloc (.cells #[.string ⟨x.k.toArray⟩, .int .i64 x.n] 42)).cell? ⟨w.heap.size, 0, none⟩ = some (.string ⟨x.k.toArray⟩) := cell_of (alloc_at w _) 0
  have hlI : (16 : Int) < (x.k.length : Int) := by omega
  have HN := Lib.hid (fun W => new_any 2 W)
  have H := Lib.hid h
  have HE : Hid (putP most P x = (P, 2)) := Lib.hid (by unfold putP; rw [if_pos hx])
  unfold maxLen at hx2
  clear h hb1
  unfold strV
  go_enter Tryz.func43, Tryz.ntmps43
  go_wp2_with fail
  have HC : Hid (∀ W, Below (w.alloc (.cells #[.string ⟨x.k.toArray⟩, .int .i64 x.n] 42)).heap.size (w.alloc (.cells #[.string ⟨x.k.toArray⟩, .int .i64 x.n] 42)) W → W.cell? ⟨w.heap.size, 0, none⟩ = some (.string ⟨x.k.toArray⟩)) := Lib.hid (fun W hW => (hW.cell (p := ⟨w.heap.size, 0, none⟩) (World.block_lt_of_cell? _ _ k0)).trans k0)
  obtain ⟨W1, hW1⟩ : ∃ W1, W1 = w.alloc (.cells #[.string ⟨x.k.toArray⟩, .int .i64 x.n] 42) := ⟨_, rfl⟩
  rw [← hW1] at HC HB ⊢
  clear k0 hW1
  refine wp_only ?_
  refine wp_region_held_drew (S := fun W => W.cell? ⟨w.heap.size, 0, none⟩ = some (.string ⟨x.k.toArray⟩)) (by kernel_rfl) (HC.out _ (below_drew (Below.refl _ _))) (fun hHeld => ?_)
  refine wpAnyH_take (i := 0) (oi := { dst := some 12, op := Op.fieldAddr 42 (Operand.tmp 3) 0, type := 0, pos := "change.go:35", after := #[], guard := none }) (v := ?vv1) rfl (by kernel_rfl) (by kernel_rfl) (by kernel_rfl) (fun _ _ _ h => h) ?hy1 (by assumption) ?rest1
  case hy1 => (refine Or.inl ⟨by rfl, ?_⟩; intro W hSw; (try dsimp only at hSw); go_simp; (try with_reducible rfl))
  try simp only [Act.put, List.setIfInBounds_toArray, List.set_cons_zero, List.set_cons_succ]
  refine wpAnyH_take (i := 1) (oi := { dst := some 13, op := Op.load 9 (Operand.tmp 12), type := 9, pos := "change.go:35", after := #[{ on := 0, ground := Ground.data }], guard := none }) (v := ?vv2) rfl (by kernel_rfl) (by kernel_rfl) (by kernel_rfl) (fun _ _ _ h => h) ?hy2 (by assumption) ?rest2
  case hy2 => (refine Or.inl ⟨by rfl, ?_⟩; intro W hSw; (try dsimp only at hSw); go_simp; (try with_reducible rfl))
  try simp only [Act.put, List.setIfInBounds_toArray, List.set_cons_zero, List.set_cons_succ]
  refine wpAnyH_take (i := 2) (oi := { dst := some 14, op := Op.call { callee := Callee.builtin Builtin.len, args := #[Operand.tmp 13], argTypes := #[9] }, type := 3, pos := "change.go:35", after := #[{ on := 1, ground := Ground.data }], guard := none }) (v := ?vv3) rfl (by kernel_rfl) (by kernel_rfl) (by kernel_rfl) (fun _ _ _ h => h) ?hy3 (by assumption) ?rest3
  case hy3 => (refine Or.inl ⟨by rfl, ?_⟩; intro W hSw; (try dsimp only at hSw); go_simp; (try with_reducible rfl))
  try simp only [Act.put, List.setIfInBounds_toArray, List.set_cons_zero, List.set_cons_succ]
  refine wpAnyH_ready (rs := [3]) (by kernel_rfl) (by simp) ?_
  refine AllReadyH.cons (o := { dst := some 15, op := Op.call { callee := Callee.value (Operand.func 41), args := #[Operand.const (Value.int IntKind.i64 2)], argTypes := #[24] }, type := 49, pos := "change.go:35", after := #[], guard := none }) rfl (fun K hK => ?step4) ?more4
  case more4 => exact AllReadyH.nil
  ((go_simp; go_at_call 41; refine (HN.out _).mono ?_; rintro e w2 ⟨ev, rfl, he, hb2⟩; have HE2 := Lib.hid he; have HB2 := Lib.hid (below_of_drew hb2); clear he hb2; go_wp2_with fail))
  refine hK.out _ _ ?hS4 (fun hHeld => ?rr4)
  case hS4 => (exact HC.out _ HB2.out)
  clear hK K
  try simp only [Act.put, List.setIfInBounds_toArray, List.set_cons_zero, List.set_cons_succ]
  refine wpAnyH_ready (rs := [4]) (by kernel_rfl) (by simp) ?_
  refine AllReadyH.cons (o := { dst := some 16, op := Op.call { callee := Callee.value (Operand.func 65), args := #[Operand.const (Value.int IntKind.i64 16), Operand.tmp 14, Operand.tmp 15], argTypes := #[2, 2, 49] }, type := 49, pos := "change.go:35", after := #[{ on := 2, ground := Ground.data }, { on := 3, ground := Ground.data }, { on := 3, ground := Ground.chain }], guard := none }) rfl (fun K hK => ?step5) ?more5
  case more5 => exact AllReadyH.nil
  ((go_simp; go_at_call 65; refine (bound_any _ _ HE2.out).mono ?_; rintro e w3 ⟨ev3, rfl, he, hb3⟩; have HE3 := Lib.hid he; have HB3 := Lib.hid (HB2.out.trans (hb3.mono HB2.out.size)); clear he hb3; go_wp2_with fail))
  refine hK.out _ _ ?hS5 (fun hHeld => ?rr5)
  case hS5 => (exact HC.out _ HB3.out)
  clear hK K
  try simp only [Act.put, List.setIfInBounds_toArray, List.set_cons_zero, List.set_cons_succ]
  refine wpAnyH_take (i := 5) (oi := { dst := some 4, op := Op.assign (Operand.tmp 16), type := 49, pos := "change.go:35", after := #[{ on := 4, ground := Ground.data }, { on := 4, ground := Ground.chain }, { on := 0, ground := Ground.phase }, { on := 1, ground := Ground.phase }, { on := 2, ground := Ground.phase }, { on := 3, ground := Ground.phase }, { on := 4, ground := Ground.phase }], guard := none }) (v := ?vv6) rfl (by kernel_rfl) (by kernel_rfl) (by kernel_rfl) (fun _ _ _ h => h) ?hy6 (by assumption) ?rest6
  case hy6 => (refine Or.inl ⟨by rfl, ?_⟩; intro W hSw; (try dsimp only at hSw); go_simp; (try with_reducible rfl))
  try simp only [Act.put, List.setIfInBounds_toArray, List.set_cons_zero, List.set_cons_succ]
  refine wpAnyH_done (by kernel_rfl) ?_ _
  clear hHeld
  dsimp only [onlyN]
  go_wp2_with fail
  go_ret
  obtain ⟨h1, h2, h3⟩ := bnd_ok 16 (x.k.length : Int) 2 (by omega)
  exact ⟨_, _, rfl, HE3.out, h1, h2, by rw [h3, HE.out], by rw [HE.out]; exact StPost.start H.out (HB.out.trans (HB3.out.mono HB.out.size))⟩
end Go.Proofs.YtkkembbeejlomaaGreatDoor
