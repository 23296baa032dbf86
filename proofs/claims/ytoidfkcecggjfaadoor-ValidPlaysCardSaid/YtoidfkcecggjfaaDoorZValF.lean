/- first: where the number is one. -/
import Derived.Test.YtoidfkcecggjfaaDoorZValE
set_option linter.unusedSimpArgs false
set_option linter.unusedVariables false
set_option linter.unnecessarySimpa false
namespace Go.Proofs.YtoidfkcecggjfaaDoor
open Go.RowKit Go.Shelf

theorem getElem?_row1 {w : World} {g cap n : Nat} {vs : List Value} (h : RowIs w 1 (.slice (some ⟨g, 0, none⟩) n cap) n vs) {i : Nat} {u : Value} (hi : vs[i]? = some u) : w.cell? ⟨g, i, none⟩ = some u := by
  rcases h with ⟨e, _⟩ | ⟨g', cap', e, _, _, hc⟩
  · cases e
  · injection e with e _ _
    injection e with e
    injection e with e _ _
    subst e
    exact hc.holds i u hi
set_option maxRecDepth 100000 in
set_option maxHeartbeats 4000000 in
theorem first_ok {w : World} {h F s : Nat} {v rv : Value} {vs : List Value} {C : List (List K)} {reads : List K} (hh : HistAt w h v F vs C) (hl : F + C.length ≤ 1000000) (hG : Good C) (hr : RowIs w 1 rv reads.length (strs reads)) (hl2 : reads.length ≤ 1000000) (hs : s ≤ C.length) :
    Calls Tryd.prog 22 #[.pointer (some ⟨h, 0, none⟩), .int .i64 ((F : Int) + (s : Int)), rv] w (FirstPost w F C ((F : Int) + (s : Int)) reads) := by
  have hF : firstR F C ((F : Int) + (s : Int)) reads = match hitP (C.drop s) reads with
      | none => (0, [])
      | some i => ((F : Int) + (s : Int) + (i : Int) + 1, []) := by
    unfold firstR
    rw [if_neg (by omega), if_neg (by omega), show ((F : Int) + (s : Int)).toNat - F = s from by omega]
    cases hitP (C.drop s) reads <;> rfl
  unfold FirstPost
  rw [hF]
  obtain ⟨Ar, cr, rfl, _⟩ := id hr.form
  obtain ⟨Av, cv, rfl, hv1, hv2, hv3, hv4, _⟩ := id hh.row.form
  have hb0 := below_new (w := w) (.cells #[.slice Ar reads.length cr] 29)
  have hat0 := alloc_at w (.cells #[.slice Ar reads.length cr] 29)
  have hh1 := hh.below hb0
  have hr1 := hr.below hb0
  have hNow := now_any hh1 hl
  have hbD : Below (w.alloc (.cells #[.slice Ar reads.length cr] 29)).heap.size (w.alloc (.cells #[.slice Ar reads.length cr] 29)) ((w.alloc (.cells #[.slice Ar reads.length cr] 29)).drewN 1).drew := below_drew (below_drewN (Below.refl _ _) 1)
  have hw2 : Below w.heap.size w ((w.alloc (.cells #[.slice Ar reads.length cr] 29)).drewN 1).drew := hb0.trans (hbD.mono hb0.size)
  have hIX : Calls Tryd.prog 31 #[.slice (if cv = s then Av else Option.map (fun x => x.add s) Av) (C.length - s) (cv - s), .func (.func 32) #[] #[.pointer (some ⟨w.heap.size, 0, none⟩)]] ((w.alloc (.cells #[.slice Ar reads.length cr] 29)).drewN 1).drew fun e w' => e = .returned (.int .i64 (idxP (hitP (C.drop s) reads))) ∧ Below w.heap.size w w' := by
    obtain ⟨g, hg⟩ : ∃ g, C ≠ [] → Av = some ⟨g, 0, none⟩ := by
      cases Av with
      | none => exact ⟨0, fun e => by have := (hv3 rfl).1; exact (e (List.eq_nil_of_length_eq_zero this)).elim⟩
      | some a =>
        obtain ⟨g, e, _⟩ := hv4 a rfl
        exact ⟨g, fun _ => by rw [e]⟩
    have hlen : (C.drop s).length = C.length - s := List.length_drop
    have := index_any (w := ((w.alloc (.cells #[.slice Ar reads.length cr] 29)).drewN 1).drew) (C := C.drop s) (A := if cv = s then Av else Option.map (fun x => x.add s) Av) (cap := cv - s) (g := g) (s := s) (b := w.heap.size) (rv := .slice Ar reads.length cr) (reads := reads) (fun hne => ?_) (fun i ks hi => ?_) (by omega) (by unfold maxLen at hv2 ⊢; omega) (fun ks hk => hG ks (List.mem_of_mem_drop hk)) (by omega) (cell_of hat0 0) (hr.below hw2) hl2
    · rw [hlen] at this
      refine this.mono ?_
      rintro e w' ⟨rfl, hb⟩
      exact ⟨rfl, hw2.trans (hb.mono hw2.size)⟩
    · have h0 : 0 < (C.drop s).length := List.length_pos_iff.2 hne
      rw [if_neg (by omega), hg (by intro e; rw [e] at h0; simp at h0)]
      show some ((⟨g, 0, none⟩ : Addr).add s) = _
      rw [add0]
    · rw [List.getElem?_drop] at hi
      obtain ⟨u, hu, hru, _⟩ := hh.each _ ks hi
      have hne : C ≠ [] := by intro e; rw [e] at hi; simp at hi
      have hA := hg hne
      subst hA
      exact ⟨u, (hw2.cell (p := ⟨g, s + i, none⟩) (World.block_lt_of_cell? _ _ (getElem?_row1 hh.row hu))).trans (getElem?_row1 hh.row hu), hru.below hw2⟩
  have HN := Lib.hid hNow
  have k0 : ((w.alloc (.cells #[.slice Ar reads.length cr] 29)).drewN 1).cell? ⟨h, 0, none⟩ = some (.int .i64 F) := cell_of hh1.head 0
  have HS : Hid (((w.alloc (.cells #[.slice Ar reads.length cr] 29)).drewN 1).drew.cell? ⟨h, 0, none⟩ = some (.int .i64 F) ∧ ((w.alloc (.cells #[.slice Ar reads.length cr] 29)).drewN 1).drew.cell? ⟨h, 1, none⟩ = some (.slice Av C.length cv)) := Lib.hid ⟨cell_of hh1.head 0, cell_of hh1.head 1⟩
  have h3 : ¬ (F : Int) + (s : Int) < 0 := by omega
  have h4 : ¬ (F : Int) + (C.length : Int) < (F : Int) + (s : Int) := by omega
  have h5 : ¬ (F : Int) + (s : Int) < (F : Int) := by omega
  have hwr : IntKind.i64.wrap ((F : Int) + (s : Int) - (F : Int)) = (s : Int) := by rw [show (F : Int) + (s : Int) - (F : Int) = (s : Int) from by omega]; exact IntWalk.i64_in _ (by omega)
  have hsi : 0 ≤ (s : Int) ∧ (s : Int) ≤ (C.length : Int) := by omega
  obtain ⟨res, hres⟩ : ∃ res, res = hitP (C.drop s) reads := ⟨_, rfl⟩
  have HI : Hid (∀ i, res = some i → i < C.length) := Lib.hid (fun i e => by
    rw [hres] at e
    unfold hitP at e
    obtain ⟨h1, _⟩ := List.findIdx?_eq_some_iff_getElem.1 e
    rw [List.length_drop] at h1
    omega)
  have HSW : Hid (∀ W, Below w.heap.size w W → W.cell? ⟨h, 0, none⟩ = some (.int .i64 F) ∧ W.cell? ⟨h, 1, none⟩ = some (.slice Av C.length cv)) := Lib.hid (fun W hW => ⟨(hW.cell (p := ⟨h, 0, none⟩) (heap_lt hh.head)).trans (cell_of hh.head 0), (hW.cell (p := ⟨h, 1, none⟩) (heap_lt hh.head)).trans (cell_of hh.head 1)⟩)
  rw [← hres] at hIX ⊢
  obtain ⟨z, hz⟩ : ∃ z : Int, z = idxP res := ⟨_, rfl⟩
  rw [← hz] at hIX
  have HZ := Lib.hid hz
  obtain ⟨bs, hbs⟩ : ∃ bs, bs = if cv = s then Av else Option.map (fun x => x.add s) Av := ⟨_, rfl⟩
  rw [← hbs] at hIX
  have HBS := Lib.hid hbs
  have HIX := Lib.hid hIX
  clear hF hh hr hb0 hh1 hr1 hat0 hNow hbD hIX hres hz hbs
  go_enter Tryd.func22, Tryd.ntmps22
  go_wp2_with fail
  refine (HN.out).mono ?_
  rintro e w1 ⟨rfl, rfl⟩
  go_wp2_with fail
  refine wp_only ?_
  refine wp_region_held_drew (S := fun W => W.cell? ⟨h, 0, none⟩ = some (.int .i64 F) ∧ W.cell? ⟨h, 1, none⟩ = some (.slice Av C.length cv)) (by kernel_rfl) HS.out (fun hHeld => ?_)
  refine wpAnyH_take (i := 0) (oi := { dst := some 35, op := Op.move (Operand.tmp 0), type := 23, pos := "valid.go:103", after := #[], guard := none }) (v := ?vv1) rfl (by kernel_rfl) (by kernel_rfl) (by kernel_rfl) (fun _ _ _ h => h) ?hy1 (by assumption) ?rest1
  case hy1 => (refine Or.inl ⟨by rfl, ?_⟩; intro W hSw; (try dsimp only at hSw); go_simp; (try with_reducible rfl))
  try simp only [Act.put, List.setIfInBounds_toArray, List.set_cons_zero, List.set_cons_succ]
  refine wpAnyH_take (i := 1) (oi := { dst := some 36, op := Op.nilCheck (Operand.tmp 35), type := 0, pos := "valid.go:103", after := #[{ on := 0, ground := Ground.data }], guard := none }) (v := ?vv2) rfl (by kernel_rfl) (by kernel_rfl) (by kernel_rfl) (fun _ _ _ h => h) ?hy2 (by assumption) ?rest2
  case hy2 => (refine Or.inl ⟨by rfl, ?_⟩; intro W hSw; (try dsimp only at hSw); go_simp; (try with_reducible rfl))
  try simp only [Act.put, List.setIfInBounds_toArray, List.set_cons_zero, List.set_cons_succ]
  refine wpAnyH_take (i := 2) (oi := { dst := some 37, op := Op.fieldAddr 48 (Operand.tmp 36) 1, type := 0, pos := "valid.go:103", after := #[{ on := 1, ground := Ground.data }], guard := none }) (v := ?vv3) rfl (by kernel_rfl) (by kernel_rfl) (by kernel_rfl) (fun _ _ _ h => h) ?hy3 (by assumption) ?rest3
  case hy3 => (refine Or.inl ⟨by rfl, ?_⟩; intro W hSw; (try dsimp only at hSw); go_simp; (try with_reducible rfl))
  try simp only [Act.put, List.setIfInBounds_toArray, List.set_cons_zero, List.set_cons_succ]
  refine wpAnyH_take (i := 3) (oi := { dst := some 38, op := Op.load 26 (Operand.tmp 37), type := 26, pos := "valid.go:103", after := #[{ on := 2, ground := Ground.data }], guard := none }) (v := ?vv4) rfl (by kernel_rfl) (by kernel_rfl) (by kernel_rfl) (fun _ _ _ h => h) ?hy4 (by assumption) ?rest4
  case hy4 => (refine Or.inl ⟨by rfl, ?_⟩; intro W hSw; (try dsimp only at hSw); go_simp; (try with_reducible rfl))
  try simp only [Act.put, List.setIfInBounds_toArray, List.set_cons_zero, List.set_cons_succ]
  refine wpAnyH_take (i := 4) (oi := { dst := some 39, op := Op.move (Operand.tmp 1), type := 3, pos := "valid.go:103", after := #[], guard := none }) (v := ?vv5) rfl (by kernel_rfl) (by kernel_rfl) (by kernel_rfl) (fun _ _ _ h => h) ?hy5 (by assumption) ?rest5
  case hy5 => (refine Or.inl ⟨by rfl, ?_⟩; intro W hSw; (try dsimp only at hSw); go_simp; (try with_reducible rfl))
  try simp only [Act.put, List.setIfInBounds_toArray, List.set_cons_zero, List.set_cons_succ]
  refine wpAnyH_take (i := 5) (oi := { dst := some 40, op := Op.move (Operand.tmp 0), type := 23, pos := "valid.go:103", after := #[], guard := none }) (v := ?vv6) rfl (by kernel_rfl) (by kernel_rfl) (by kernel_rfl) (fun _ _ _ h => h) ?hy6 (by assumption) ?rest6
  case hy6 => (refine Or.inl ⟨by rfl, ?_⟩; intro W hSw; (try dsimp only at hSw); go_simp; (try with_reducible rfl))
  try simp only [Act.put, List.setIfInBounds_toArray, List.set_cons_zero, List.set_cons_succ]
  refine wpAnyH_take (i := 6) (oi := { dst := some 41, op := Op.nilCheck (Operand.tmp 40), type := 0, pos := "valid.go:103", after := #[{ on := 5, ground := Ground.data }], guard := none }) (v := ?vv7) rfl (by kernel_rfl) (by kernel_rfl) (by kernel_rfl) (fun _ _ _ h => h) ?hy7 (by assumption) ?rest7
  case hy7 => (refine Or.inl ⟨by rfl, ?_⟩; intro W hSw; (try dsimp only at hSw); go_simp; (try with_reducible rfl))
  try simp only [Act.put, List.setIfInBounds_toArray, List.set_cons_zero, List.set_cons_succ]
  refine wpAnyH_take (i := 7) (oi := { dst := some 42, op := Op.fieldAddr 48 (Operand.tmp 41) 0, type := 0, pos := "valid.go:103", after := #[{ on := 6, ground := Ground.data }], guard := none }) (v := ?vv8) rfl (by kernel_rfl) (by kernel_rfl) (by kernel_rfl) (fun _ _ _ h => h) ?hy8 (by assumption) ?rest8
  case hy8 => (refine Or.inl ⟨by rfl, ?_⟩; intro W hSw; (try dsimp only at hSw); go_simp; (try with_reducible rfl))
  try simp only [Act.put, List.setIfInBounds_toArray, List.set_cons_zero, List.set_cons_succ]
  refine wpAnyH_take (i := 8) (oi := { dst := some 43, op := Op.load 3 (Operand.tmp 42), type := 3, pos := "valid.go:103", after := #[{ on := 7, ground := Ground.data }], guard := none }) (v := ?vv9) rfl (by kernel_rfl) (by kernel_rfl) (by kernel_rfl) (fun _ _ _ h => h) ?hy9 (by assumption) ?rest9
  case hy9 => (refine Or.inl ⟨by rfl, ?_⟩; intro W hSw; (try dsimp only at hSw); go_simp; (try with_reducible rfl))
  try simp only [Act.put, List.setIfInBounds_toArray, List.set_cons_zero, List.set_cons_succ]
  refine wpAnyH_take (i := 9) (oi := { dst := some 44, op := Op.binOp BinOp.sub 3 (Operand.tmp 39) (Operand.tmp 43) 3, type := 3, pos := "valid.go:103", after := #[{ on := 4, ground := Ground.data }, { on := 8, ground := Ground.data }], guard := none }) (v := ?vv10) rfl (by kernel_rfl) (by kernel_rfl) (by kernel_rfl) (fun _ _ _ h => h) ?hy10 (by assumption) ?rest10
  case hy10 => (refine Or.inl ⟨by rfl, ?_⟩; intro W hSw; (try dsimp only at hSw); go_simp; (try with_reducible rfl))
  try simp only [Act.put, List.setIfInBounds_toArray, List.set_cons_zero, List.set_cons_succ]
  refine wpAnyH_take (i := 10) (oi := { dst := some 45, op := Op.slice 26 (Operand.tmp 38) (some (Operand.tmp 44)) none none, type := 26, pos := "valid.go:103", after := #[{ on := 3, ground := Ground.data }, { on := 9, ground := Ground.data }], guard := none }) (v := (.slice bs (C.length - s) (cv - s))) rfl (by kernel_rfl) (by kernel_rfl) (by kernel_rfl) (fun _ _ _ h => h) ?hy11 (by assumption) ?rest11
  case hy11 => ((refine Or.inl ⟨by rfl, ?_⟩; intro W hSw; (try dsimp only at hSw); go_simp; rw [HBS.out]))
  try simp only [Act.put, List.setIfInBounds_toArray, List.set_cons_zero, List.set_cons_succ]
  refine wpAnyH_take (i := 11) (oi := { dst := some 46, op := Op.makeFunc (Fn.func 32) #[] #[Operand.tmp 5], type := 64, pos := "valid.go:103", after := #[], guard := none }) (v := ?vv12) rfl (by kernel_rfl) (by kernel_rfl) (by kernel_rfl) (fun _ _ _ h => h) ?hy12 (by assumption) ?rest12
  case hy12 => (refine Or.inl ⟨by rfl, ?_⟩; intro W hSw; (try dsimp only at hSw); go_simp; (try with_reducible rfl))
  try simp only [Act.put, List.setIfInBounds_toArray, List.set_cons_zero, List.set_cons_succ]
  refine wpAnyH_ready (rs := [12]) (by kernel_rfl) (by simp) ?_
  refine AllReadyH.cons (o := { dst := some 47, op := Op.call { callee := Callee.value (Operand.func 31), args := #[Operand.tmp 45, Operand.tmp 46], argTypes := #[26, 64] }, type := 3, pos := "valid.go:103", after := #[{ on := 10, ground := Ground.data }, { on := 11, ground := Ground.data }], guard := none }) rfl (fun K hK => ?step13) ?more13
  case more13 => exact AllReadyH.nil
  ((go_simp; go_at_call 31; refine (HIX.out).mono ?_; rintro e w2 ⟨rfl, hb2⟩; go_wp2_with fail))
  refine hK.out _ _ ?hS13 (fun hHeld => ?rr13)
  case hS13 => (exact HSW.out _ hb2)
  clear hK K
  try simp only [Act.put, List.setIfInBounds_toArray, List.set_cons_zero, List.set_cons_succ]
  have HB2 := Lib.hid hb2
  clear hb2
  refine wpAnyH_take (i := 13) (oi := { dst := some 8, op := Op.assign (Operand.tmp 47), type := 3, pos := "valid.go:103", after := #[{ on := 12, ground := Ground.data }, { on := 12, ground := Ground.chain }, { on := 0, ground := Ground.phase }, { on := 1, ground := Ground.phase }, { on := 2, ground := Ground.phase }, { on := 3, ground := Ground.phase }, { on := 4, ground := Ground.phase }, { on := 5, ground := Ground.phase }, { on := 6, ground := Ground.phase }, { on := 7, ground := Ground.phase }, { on := 8, ground := Ground.phase }, { on := 9, ground := Ground.phase }, { on := 10, ground := Ground.phase }, { on := 11, ground := Ground.phase }, { on := 12, ground := Ground.phase }], guard := none }) (v := ?vv14) rfl (by kernel_rfl) (by kernel_rfl) (by kernel_rfl) (fun _ _ _ h => h) ?hy14 (by assumption) ?rest14
  case hy14 => (refine Or.inl ⟨by rfl, ?_⟩; intro W hSw; (try dsimp only at hSw); go_simp; (try with_reducible rfl))
  try simp only [Act.put, List.setIfInBounds_toArray, List.set_cons_zero, List.set_cons_succ]
  refine wpAnyH_done (by kernel_rfl) ?_ _
  clear hHeld
  dsimp only [onlyN]
  cases res with
  | none =>
    have hz : z = -1 := HZ.out
    subst hz
    go_wp2_with fail
    (try simp only [Exit.inBlock, Exit.then])
    refine bodyPost_ret (v := .tuple #[.int .i64 0, .nilIface]) (by simp [results, Tryd.results22, go_sem]) rfl ?_
    exact ⟨_, rfl, rfl, HB2.out⟩
  | some i =>
    have hz : z = (i : Int) := HZ.out
    subst hz
    have hi := HI.out i rfl
    have hi0 : ¬ (i : Int) < 0 := by omega
    have hw1 : IntKind.i64.wrap ((F : Int) + (s : Int) + (i : Int)) = (F : Int) + (s : Int) + (i : Int) := IntWalk.i64_in _ (by omega)
    have hw3 : IntKind.i64.wrap ((F : Int) + (s : Int) + (i : Int) + 1) = (F : Int) + (s : Int) + (i : Int) + 1 := IntWalk.i64_in _ (by omega)
    go_wp2_with fail
    (try simp only [Exit.inBlock, Exit.then])
    refine bodyPost_ret (v := .tuple #[.int .i64 ((F : Int) + (s : Int) + (i : Int) + 1), .nilIface]) (by simp [results, Tryd.results22, go_sem, hw1, hw3]) rfl ?_
    exact ⟨_, rfl, rfl, HB2.out⟩
end Go.Proofs.YtoidfkcecggjfaaDoor
