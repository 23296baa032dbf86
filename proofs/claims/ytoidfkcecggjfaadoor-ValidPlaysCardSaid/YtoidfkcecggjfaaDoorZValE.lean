/- first: the first commit behind one that wrote something of what was read. -/
import Derived.Test.YtoidfkcecggjfaaDoorZValD
set_option linter.unusedSimpArgs false
set_option linter.unusedVariables false
set_option linter.unnecessarySimpa false
namespace Go.Proofs.YtoidfkcecggjfaaDoor
open Go.RowKit Go.Shelf

/-- What first answers: a number, and an error's links. -/
def firstR (F : Nat) (C : List (List K)) (since : Int) (reads : List K) : Int × List Lk :=
  if since < 0 ∨ (F : Int) + (C.length : Int) < since then (0, [.bnd ((F : Int) + (C.length : Int)) since, .num 2])
  else if since < (F : Int) then (0, [.bnd (F : Int) since, .num 22])
  else match hitP (C.drop (since.toNat - F)) reads with
    | none => (0, [])
    | some i => (since + (i : Int) + 1, [])
def FirstPost (w : World) (F : Nat) (C : List (List K)) (since : Int) (reads : List K) (e : Ending) (w' : World) : Prop := ∃ ev, e = .returned (.tuple #[.int .i64 (firstR F C since reads).1, ev]) ∧ ErrIs w' (firstR F C since reads).2 ev ∧ Below w.heap.size w w'
theorem newL2 : newL 2 = [.num 2] := rfl
theorem newL22 : newL 22 = [.num 22] := rfl
theorem newL23 : newL 23 = [.num 23] := rfl
set_option maxRecDepth 100000 in
set_option maxHeartbeats 4000000 in
theorem first_arg {w : World} {h F : Nat} {v rv : Value} {vs : List Value} {C : List (List K)} {since : Int} {reads : List K} (hh : HistAt w h v F vs C) (hl : F + C.length ≤ 1000000) (hr : RowIs w 1 rv reads.length (strs reads)) (hs : since < 0 ∨ (F : Int) + (C.length : Int) < since) :
    Calls Tryd.prog 22 #[.pointer (some ⟨h, 0, none⟩), .int .i64 since, rv] w (FirstPost w F C since reads) := by
  have hF : firstR F C since reads = (0, [.bnd ((F : Int) + (C.length : Int)) since, .num 2]) := by unfold firstR; rw [if_pos hs]
  unfold FirstPost
  rw [hF]
  obtain ⟨Ar, cr, rfl, _⟩ := id hr.form
  have hb0 := below_new (w := w) (.cells #[.slice Ar reads.length cr] 29)
  have HN := Lib.hid (fun W (hW : Below w.heap.size w W) => now_any (hh.below hW) hl)
  have HNE := Lib.hid (fun W => new_any 2 W)
  have HB0 := Lib.hid hb0
  clear hF hh hr hb0
  have key : ∀ W, Below w.heap.size w W → Below w.heap.size w (W.drewN 1) := fun W hW => below_drewN hW 1
  by_cases h1 : since < 0
  · clear hs
    go_enter Tryd.func22, Tryd.ntmps22
    go_wp2_with fail
    refine (HN.out _ HB0.out).mono ?_
    rintro e w1 ⟨rfl, rfl⟩
    go_wp2_with fail
    refine (HNE.out _).mono ?_
    rintro e w2 ⟨ev, rfl, he, hb2⟩
    have HBO := Lib.hid (bound_any ((F : Int) + (C.length : Int)) since he)
    have HB2 := Lib.hid ((key _ HB0.out).trans (hb2.mono (key _ HB0.out).size))
    clear he hb2
    go_wp2_with fail
    refine (HBO.out).mono ?_
    rintro e w3 ⟨ev3, rfl, he3, hb3⟩
    have HE := Lib.hid he3
    have HB3 := Lib.hid (HB2.out.trans (hb3.mono HB2.out.size))
    clear he3 hb3 HBO
    go_wp2_with fail
    (try simp only [Exit.inBlock, Exit.then])
    refine bodyPost_ret (v := .tuple #[.int .i64 0, ev3]) (by simp [results, Tryd.results22, go_sem]) rfl ?_
    exact ⟨_, rfl, HE.out, HB3.out⟩
  · have h2 : (F : Int) + (C.length : Int) < since := hs.resolve_left h1
    clear hs
    go_enter Tryd.func22, Tryd.ntmps22
    go_wp2_with fail
    refine (HN.out _ HB0.out).mono ?_
    rintro e w1 ⟨rfl, rfl⟩
    go_wp2_with fail
    refine (HN.out _ (key _ HB0.out)).mono ?_
    rintro e w1 ⟨rfl, rfl⟩
    go_wp2_with fail
    refine (HNE.out _).mono ?_
    rintro e w2 ⟨ev, rfl, he, hb2⟩
    have HBO := Lib.hid (bound_any ((F : Int) + (C.length : Int)) since he)
    have HB2 := Lib.hid ((key _ (key _ HB0.out)).trans (hb2.mono (key _ (key _ HB0.out)).size))
    clear he hb2
    go_wp2_with fail
    refine (HBO.out).mono ?_
    rintro e w3 ⟨ev3, rfl, he3, hb3⟩
    have HE := Lib.hid he3
    have HB3 := Lib.hid (HB2.out.trans (hb3.mono HB2.out.size))
    clear he3 hb3 HBO
    go_wp2_with fail
    (try simp only [Exit.inBlock, Exit.then])
    refine bodyPost_ret (v := .tuple #[.int .i64 0, ev3]) (by simp [results, Tryd.results22, go_sem]) rfl ?_
    exact ⟨_, rfl, HE.out, HB3.out⟩
set_option maxRecDepth 100000 in
set_option maxHeartbeats 4000000 in
theorem first_late {w : World} {h F : Nat} {v rv : Value} {vs : List Value} {C : List (List K)} {since : Int} {reads : List K} (hh : HistAt w h v F vs C) (hl : F + C.length ≤ 1000000) (hr : RowIs w 1 rv reads.length (strs reads)) (h0 : 0 ≤ since) (hs : since < (F : Int)) :
    Calls Tryd.prog 22 #[.pointer (some ⟨h, 0, none⟩), .int .i64 since, rv] w (FirstPost w F C since reads) := by
  have hF : firstR F C since reads = (0, [.bnd (F : Int) since, .num 22]) := by unfold firstR; rw [if_neg (by omega), if_pos hs]
  unfold FirstPost
  rw [hF]
  obtain ⟨Ar, cr, rfl, _⟩ := id hr.form
  have hb0 := below_new (w := w) (.cells #[.slice Ar reads.length cr] 29)
  have HN := Lib.hid (now_any (hh.below hb0) hl)
  have HNE := Lib.hid (fun W => new_any 22 W)
  have hh1 := hh.below hb0
  have k0 : ((w.alloc (.cells #[.slice Ar reads.length cr] 29)).drewN 1).cell? ⟨h, 0, none⟩ = some (.int .i64 F) := cell_of hh1.head 0
  have HS : Hid (∀ W, Below (w.alloc (.cells #[.slice Ar reads.length cr] 29)).heap.size (w.alloc (.cells #[.slice Ar reads.length cr] 29)) W → W.cell? ⟨h, 0, none⟩ = some (.int .i64 F)) := Lib.hid (fun W hW => (hW.cell (p := ⟨h, 0, none⟩) (heap_lt hh1.head)).trans (cell_of hh1.head 0))
  have HB0 := Lib.hid hb0
  have h3 : ¬ since < 0 := by omega
  have h4 : ¬ (F : Int) + (C.length : Int) < since := by omega
  have HBD : Hid (Below (w.alloc (.cells #[.slice Ar reads.length cr] 29)).heap.size (w.alloc (.cells #[.slice Ar reads.length cr] 29)) ((w.alloc (.cells #[.slice Ar reads.length cr] 29)).drewN 1).drew) := Lib.hid (below_drew (below_drewN (Below.refl _ _) 1))
  clear hF hh hr hb0 hh1
  go_enter Tryd.func22, Tryd.ntmps22
  go_wp2_with fail
  refine (HN.out).mono ?_
  rintro e w1 ⟨rfl, rfl⟩
  go_wp2_with fail
  refine wp_only ?_
  refine wp_region_held_drew (S := fun W => W.cell? ⟨h, 0, none⟩ = some (.int .i64 F)) (by kernel_rfl) (HS.out _ HBD.out) (fun hHeld => ?_)
  refine wpAnyH_take (i := 0) (oi := { dst := some 28, op := Op.move (Operand.tmp 0), type := 23, pos := "valid.go:101", after := #[], guard := none }) (v := ?vv1) rfl (by kernel_rfl) (by kernel_rfl) (by kernel_rfl) (fun _ _ _ h => h) ?hy1 (by assumption) ?rest1
  case hy1 => (refine Or.inl ⟨by rfl, ?_⟩; intro W hSw; (try dsimp only at hSw); go_simp; (try with_reducible rfl))
  try simp only [Act.put, List.setIfInBounds_toArray, List.set_cons_zero, List.set_cons_succ]
  refine wpAnyH_take (i := 1) (oi := { dst := some 29, op := Op.nilCheck (Operand.tmp 28), type := 0, pos := "valid.go:101", after := #[{ on := 0, ground := Ground.data }], guard := none }) (v := ?vv2) rfl (by kernel_rfl) (by kernel_rfl) (by kernel_rfl) (fun _ _ _ h => h) ?hy2 (by assumption) ?rest2
  case hy2 => (refine Or.inl ⟨by rfl, ?_⟩; intro W hSw; (try dsimp only at hSw); go_simp; (try with_reducible rfl))
  try simp only [Act.put, List.setIfInBounds_toArray, List.set_cons_zero, List.set_cons_succ]
  refine wpAnyH_take (i := 2) (oi := { dst := some 30, op := Op.fieldAddr 48 (Operand.tmp 29) 0, type := 0, pos := "valid.go:101", after := #[{ on := 1, ground := Ground.data }], guard := none }) (v := ?vv3) rfl (by kernel_rfl) (by kernel_rfl) (by kernel_rfl) (fun _ _ _ h => h) ?hy3 (by assumption) ?rest3
  case hy3 => (refine Or.inl ⟨by rfl, ?_⟩; intro W hSw; (try dsimp only at hSw); go_simp; (try with_reducible rfl))
  try simp only [Act.put, List.setIfInBounds_toArray, List.set_cons_zero, List.set_cons_succ]
  refine wpAnyH_take (i := 3) (oi := { dst := some 31, op := Op.load 3 (Operand.tmp 30), type := 3, pos := "valid.go:101", after := #[{ on := 2, ground := Ground.data }], guard := none }) (v := ?vv4) rfl (by kernel_rfl) (by kernel_rfl) (by kernel_rfl) (fun _ _ _ h => h) ?hy4 (by assumption) ?rest4
  case hy4 => (refine Or.inl ⟨by rfl, ?_⟩; intro W hSw; (try dsimp only at hSw); go_simp; (try with_reducible rfl))
  try simp only [Act.put, List.setIfInBounds_toArray, List.set_cons_zero, List.set_cons_succ]
  refine wpAnyH_take (i := 4) (oi := { dst := some 32, op := Op.move (Operand.tmp 1), type := 3, pos := "valid.go:101", after := #[], guard := none }) (v := ?vv5) rfl (by kernel_rfl) (by kernel_rfl) (by kernel_rfl) (fun _ _ _ h => h) ?hy5 (by assumption) ?rest5
  case hy5 => (refine Or.inl ⟨by rfl, ?_⟩; intro W hSw; (try dsimp only at hSw); go_simp; (try with_reducible rfl))
  try simp only [Act.put, List.setIfInBounds_toArray, List.set_cons_zero, List.set_cons_succ]
  refine wpAnyH_ready (rs := [5]) (by kernel_rfl) (by simp) ?_
  refine AllReadyH.cons (o := { dst := some 33, op := Op.call { callee := Callee.value (Operand.func 24), args := #[Operand.const (Value.int IntKind.i64 22)], argTypes := #[34] }, type := 54, pos := "valid.go:101", after := #[], guard := none }) rfl (fun K hK => ?step6) ?more6
  case more6 => exact AllReadyH.nil
  ((go_simp; go_at_call 24; refine (HNE.out _).mono ?_; rintro e w2 ⟨ev, rfl, he, hb2⟩; go_wp2_with fail))
  refine hK.out _ _ ?hS6 (fun hHeld => ?rr6)
  case hS6 => (exact HS.out _ (HBD.out.trans (hb2.mono HBD.out.size)))
  clear hK K
  try simp only [Act.put, List.setIfInBounds_toArray, List.set_cons_zero, List.set_cons_succ]
  have HE2 := Lib.hid he
  have HB2 := Lib.hid (HBD.out.trans (hb2.mono HBD.out.size))
  clear he hb2
  refine wpAnyH_ready (rs := [6]) (by kernel_rfl) (by simp) ?_
  refine AllReadyH.cons (o := { dst := some 34, op := Op.call { callee := Callee.value (Operand.func 30), args := #[Operand.tmp 31, Operand.tmp 32, Operand.tmp 33], argTypes := #[2, 2, 54] }, type := 54, pos := "valid.go:101", after := #[{ on := 3, ground := Ground.data }, { on := 4, ground := Ground.data }, { on := 5, ground := Ground.data }, { on := 5, ground := Ground.chain }], guard := none }) rfl (fun K hK => ?step7) ?more7
  case more7 => exact AllReadyH.nil
  ((go_simp; go_at_call 30; refine (bound_any (F : Int) since HE2.out).mono ?_; rintro e w3 ⟨ev3, rfl, he3, hb3⟩; go_wp2_with fail))
  refine hK.out _ _ ?hS7 (fun hHeld => ?rr7)
  case hS7 => (exact HS.out _ (HB2.out.trans (hb3.mono HB2.out.size)))
  clear hK K
  try simp only [Act.put, List.setIfInBounds_toArray, List.set_cons_zero, List.set_cons_succ]
  have HE := Lib.hid he3
  have HB3 := Lib.hid (HB0.out.trans ((HB2.out.trans (hb3.mono HB2.out.size)).mono HB0.out.size))
  clear he3 hb3
  refine wpAnyH_take (i := 7) (oi := { dst := some 6, op := Op.assign (Operand.const (Value.int IntKind.i64 0)), type := 3, pos := "valid.go:101", after := #[{ on := 6, ground := Ground.chain }, { on := 0, ground := Ground.textOnly Departure.lateStores }, { on := 1, ground := Ground.textOnly Departure.lateStores }, { on := 2, ground := Ground.textOnly Departure.lateStores }, { on := 3, ground := Ground.textOnly Departure.lateStores }, { on := 4, ground := Ground.textOnly Departure.lateStores }, { on := 5, ground := Ground.textOnly Departure.lateStoresUnsure }, { on := 6, ground := Ground.textOnly Departure.lateStoresUnsure }], guard := none }) (v := ?vv8) rfl (by kernel_rfl) (by kernel_rfl) (by kernel_rfl) (fun _ _ _ h => h) ?hy8 (by assumption) ?rest8
  case hy8 => (refine Or.inl ⟨by rfl, ?_⟩; intro W hSw; (try dsimp only at hSw); go_simp; (try with_reducible rfl))
  try simp only [Act.put, List.setIfInBounds_toArray, List.set_cons_zero, List.set_cons_succ]
  refine wpAnyH_take (i := 8) (oi := { dst := some 7, op := Op.assign (Operand.tmp 34), type := 54, pos := "valid.go:101", after := #[{ on := 6, ground := Ground.data }, { on := 7, ground := Ground.chain }, { on := 0, ground := Ground.phase }, { on := 1, ground := Ground.phase }, { on := 2, ground := Ground.phase }, { on := 3, ground := Ground.phase }, { on := 4, ground := Ground.phase }, { on := 5, ground := Ground.phase }, { on := 6, ground := Ground.phase }, { on := 7, ground := Ground.phase }], guard := none }) (v := ?vv9) rfl (by kernel_rfl) (by kernel_rfl) (by kernel_rfl) (fun _ _ _ h => h) ?hy9 (by assumption) ?rest9
  case hy9 => (refine Or.inl ⟨by rfl, ?_⟩; intro W hSw; (try dsimp only at hSw); go_simp; (try with_reducible rfl))
  try simp only [Act.put, List.setIfInBounds_toArray, List.set_cons_zero, List.set_cons_succ]
  refine wpAnyH_done (by kernel_rfl) ?_ _
  clear hHeld
  dsimp only [onlyN]
  go_wp2_with fail
  (try simp only [Exit.inBlock, Exit.then])
  refine bodyPost_ret (v := .tuple #[.int .i64 0, ev3]) (by simp [results, Tryd.results22, go_sem]) rfl ?_
  exact ⟨_, rfl, HE.out, HB3.out⟩
end Go.Proofs.YtoidfkcecggjfaaDoor
