/- trie, the law's side: awake (gentrjd.py wrote it). -/
import Derived.Test.YtpploljennbpdaaDoorZTrjC
set_option linter.unusedSimpArgs false
set_option linter.unusedVariables false
set_option linter.unnecessarySimpa false
namespace Go.Proofs.YtpploljennbpdaaDoor
open Go.RowKit Go.Shelf

set_option maxRecDepth 100000 in
set_option maxHeartbeats 4000000 in
theorem awake_any {w : World} (hG : Glob w) : Calls Tryd.prog 10 #[] w fun e w' => e = .returned (.bool true) ∧ Below w.heap.size w w' := by
  obtain ⟨w4, hw4, hps, hb4⟩ := ps0 w
  have HBD := Lib.hid (Build_any (hG.below hb4) hps (by decide) (by decide))
  have HW4 := Lib.hid hw4
  have HB4 := Lib.hid hb4
  clear hw4 hps hb4 hG
  go_enter Tryd.func10, Tryd.ntmps10
  go_wp2_with fail
  rw [← HW4.out]
  refine (HBD.out).mono ?_
  rintro e w5 ⟨hb5, hr⟩
  rcases hr with ⟨h0, _⟩ | ⟨_, v, N, rfl, ht, _⟩
  · exact absurd L0_code h0
  obtain ⟨g, cap, rfl, hc1, hc2, _⟩ := ht.form
  rw [L0_len] at hc1 ht ⊢
  unfold maxLen at hc2
  obtain ⟨g', x, e', hx, _, _, _, _, k2, hk⟩ := ht.cells (i := 0) (by rw [L0_len]; decide)
  injection e' with e'
  injection e' with e'
  subst e'
  rw [L0_kids] at hk
  obtain ⟨gk, ck, hkv, _, q1⟩ := row2 hk
  rw [hkv] at k2
  have hbx := alloc_at w5 (.cells #[.slice (some ⟨g, 0, none⟩) 5 cap] 27)
  have hb6 : Below w5.heap.size w5 (w5.alloc (.cells #[.slice (some ⟨g, 0, none⟩) 5 cap] 27)) := below_new _
  obtain ⟨w6, hw6⟩ : ∃ w6, w6 = w5.alloc (.cells #[.slice (some ⟨g, 0, none⟩) 5 cap] 27) := ⟨_, rfl⟩
  rw [← hw6] at hbx hb6
  have HW6 := Lib.hid hw6
  have ht6 := ht.below hb6
  have HT6 := Lib.hid ht6
  have HALL : Hid (∀ W, Below w6.heap.size w6 W → W.cell? ⟨w5.heap.size, 0, none⟩ = some (.slice (some ⟨g, 0, none⟩) 5 cap) ∧ W.cell? ⟨g, 2, none⟩ = some (.slice (some ⟨gk, 0, none⟩) 2 ck)) := Lib.hid (fun W hW => by
    have hg6 := (hb6.cell (p := ⟨g, 0 * 3 + 2, none⟩) (heap_lt' k2)).trans k2
    exact ⟨cell_of ((hW.block _ (heap_lt hbx)).trans hbx) 0, (hW.cell (p := ⟨g, 0 * 3 + 2, none⟩) (heap_lt' hg6)).trans hg6⟩)
  have HQ1 : Hid (∀ W, Below w6.heap.size w6 W → W.cell? ⟨gk, 1, none⟩ = some (.int .i64 4)) := Lib.hid (fun W hW => by
    have h6 := (hb6.cell (p := ⟨gk, 1, none⟩) (heap_lt' q1)).trans q1
    exact (hW.cell (p := ⟨gk, 1, none⟩) (heap_lt' h6)).trans h6)
  have HB6 := Lib.hid (HB4.out.trans ((hb5.trans (hb6.mono hb5.size)).mono HB4.out.size))
  have hl5 : (treeP L0).length ≤ 1000 := by rw [L0_len]; decide
  have HLV : Hid (∀ W, Below w6.heap.size w6 W → Calls Tryd.prog 24 #[.agg #[.slice (some ⟨g, 0, none⟩) 5 cap]] W fun e w' => ∃ gl cl, e = .returned (.slice (some ⟨gl, 0, none⟩) 3 cl) ∧ w'.cell? ⟨gl, 0, none⟩ = some (.int .i64 2) ∧ w'.cell? ⟨gl, 2, none⟩ = some (.int .i64 4) ∧ Below W.heap.size W w') := Lib.hid (fun W hW => by
    refine (Leaves_any (ht6.below hW) hl5).mono ?_
    rintro e w' ⟨v', rfl, hr, _, hb⟩
    rw [L0_leaves] at hr
    obtain ⟨gl, cl, rfl, h1, _, h3⟩ := row3 hr
    exact ⟨gl, cl, rfl, h1, h3, hb⟩)
  have HAB : Hid (∀ W, Below w6.heap.size w6 W → Calls Tryd.prog 14 #[.agg #[.slice (some ⟨g, 0, none⟩) 5 cap], .int .i64 3] W fun e w' => ∃ gl cl, e = .returned (.slice (some ⟨gl, 0, none⟩) 3 cl) ∧ w'.cell? ⟨gl, 1, none⟩ = some (.int .i64 1) ∧ Below W.heap.size W w') := Lib.hid (fun W hW => by
    refine (Above_any 3 (ht6.below hW) hl5).mono ?_
    rintro e w' ⟨v', rfl, hr, _, hb⟩
    rw [L0_above] at hr
    obtain ⟨gl, cl, rfl, _, h2, _⟩ := row3 hr
    exact ⟨gl, cl, rfl, h2, hb⟩)
  have HME : Hid (∀ W, Below w6.heap.size w6 W → Calls Tryd.prog 20 #[.agg #[.slice (some ⟨g, 0, none⟩) 5 cap], .int .i64 2, .int .i64 3] W fun e w' => e = .returned (.int .i64 1) ∧ Below W.heap.size W w') := Lib.hid (fun W hW => by
    have := Meet_any 2 3 (ht6.below hW) hl5
    rwa [L0_meet] at this)
  have HP1 : Hid (∀ W, Below w6.heap.size w6 W → Calls Tryd.prog 22 #[.agg #[.slice (some ⟨g, 0, none⟩) 5 cap], .int .i64 2, .int .i64 4] W fun e w' => e = .returned (.bool true) ∧ Below W.heap.size W w') := Lib.hid (fun W hW => by
    have := Prefers_any 2 4 (ht6.below hW) hl5
    rwa [L0_pref1] at this)
  have HP2 : Hid (∀ W, Below w6.heap.size w6 W → Calls Tryd.prog 22 #[.agg #[.slice (some ⟨g, 0, none⟩) 5 cap], .int .i64 1, .int .i64 2] W fun e w' => e = .returned (.bool false) ∧ Below W.heap.size W w') := Lib.hid (fun W hW => by
    have := Prefers_any 1 2 (ht6.below hW) hl5
    rwa [L0_pref2] at this)
  obtain ⟨bx, hbxe⟩ : ∃ bx, w5.heap.size = bx := ⟨_, rfl⟩
  rw [hbxe] at HALL
  have HBX := Lib.hid hbxe
  have q6 := (HALL.out w6 (Below.refl _ _)).1
  clear hb5 ht hx k2 hk hkv q1 hbx hb6 hw6 ht6 hl5 hc1 hbxe HBD
  go_wp2_with fail
  rw [← HW6.out, HBX.out]
  go_wp2_with fail
  have HS := Lib.hid (HALL.out _ (below_drew (Below.refl _ w6)))
  refine wp_region_held_drew (S := fun W => W.cell? ⟨bx, 0, none⟩ = some (.slice (some ⟨g, 0, none⟩) 5 cap) ∧ W.cell? ⟨g, 2, none⟩ = some (.slice (some ⟨gk, 0, none⟩) 2 ck)) (by kernel_rfl) HS.out (fun hHeld => ?_)
  clear q6
  refine wpAnyH_take (i := 0) (oi := { dst := some 22, op := Op.fieldAddr 27 (Operand.tmp 1) 0, type := 0, pos := "law.go:16", after := #[], guard := none }) (v := ?vv1) rfl (by kernel_rfl) (by kernel_rfl) (by kernel_rfl) (fun _ _ _ h => h) ?hy1 (by assumption) ?rest1
  case hy1 => (refine Or.inl ⟨by rfl, ?_⟩; intro W hSw; (try dsimp only at hSw); go_simp; (try with_reducible rfl))
  try simp only [Act.put, List.setIfInBounds_toArray, List.set_cons_zero, List.set_cons_succ]
  refine wpAnyH_take (i := 1) (oi := { dst := some 23, op := Op.load 25 (Operand.tmp 22), type := 25, pos := "law.go:16", after := #[{ on := 0, ground := Ground.data }], guard := none }) (v := ?vv2) rfl (by kernel_rfl) (by kernel_rfl) (by kernel_rfl) (fun _ _ _ h => h) ?hy2 (by assumption) ?rest2
  case hy2 => (refine Or.inl ⟨by rfl, ?_⟩; intro W hSw; (try dsimp only at hSw); go_simp; (try with_reducible rfl))
  try simp only [Act.put, List.setIfInBounds_toArray, List.set_cons_zero, List.set_cons_succ]
  refine wpAnyH_take (i := 2) (oi := { dst := some 24, op := Op.indexAddr 25 (Operand.tmp 23) (Operand.const (Value.int IntKind.i64 0)), type := 0, pos := "law.go:16", after := #[{ on := 1, ground := Ground.data }], guard := none }) (v := ?vv3) rfl (by kernel_rfl) (by kernel_rfl) (by kernel_rfl) (fun _ _ _ h => h) ?hy3 (by assumption) ?rest3
  case hy3 => (refine Or.inl ⟨by rfl, ?_⟩; intro W hSw; (try dsimp only at hSw); go_simp; (try with_reducible rfl))
  try simp only [Act.put, List.setIfInBounds_toArray, List.set_cons_zero, List.set_cons_succ]
  refine wpAnyH_take (i := 3) (oi := { dst := some 25, op := Op.fieldAddr 52 (Operand.tmp 24) 2, type := 0, pos := "law.go:16", after := #[{ on := 2, ground := Ground.data }], guard := none }) (v := ?vv4) rfl (by kernel_rfl) (by kernel_rfl) (by kernel_rfl) (fun _ _ _ h => h) ?hy4 (by assumption) ?rest4
  case hy4 => (refine Or.inl ⟨by rfl, ?_⟩; intro W hSw; (try dsimp only at hSw); go_simp; (try with_reducible rfl))
  try simp only [Act.put, List.setIfInBounds_toArray, List.set_cons_zero, List.set_cons_succ]
  refine wpAnyH_take (i := 4) (oi := { dst := some 26, op := Op.load 24 (Operand.tmp 25), type := 24, pos := "law.go:16", after := #[{ on := 3, ground := Ground.data }], guard := none }) (v := ?vv5) rfl (by kernel_rfl) (by kernel_rfl) (by kernel_rfl) (fun _ _ _ h => h) ?hy5 (by assumption) ?rest5
  case hy5 => (refine Or.inl ⟨by rfl, ?_⟩; intro W hSw; (try dsimp only at hSw); go_simp; (try with_reducible rfl))
  try simp only [Act.put, List.setIfInBounds_toArray, List.set_cons_zero, List.set_cons_succ]
  refine wpAnyH_take (i := 5) (oi := { dst := some 27, op := Op.load 27 (Operand.tmp 1), type := 27, pos := "law.go:16", after := #[], guard := none }) (v := ?vv6) rfl (by kernel_rfl) (by kernel_rfl) (by kernel_rfl) (fun _ _ _ h => h) ?hy6 (by assumption) ?rest6
  case hy6 => (refine Or.inl ⟨by rfl, ?_⟩; intro W hSw; (try dsimp only at hSw); go_simp; (try with_reducible rfl))
  try simp only [Act.put, List.setIfInBounds_toArray, List.set_cons_zero, List.set_cons_succ]
  refine wpAnyH_take (i := 7) (oi := { dst := some 29, op := Op.load 27 (Operand.tmp 1), type := 27, pos := "law.go:16", after := #[], guard := none }) (v := ?vv7) rfl (by kernel_rfl) (by kernel_rfl) (by kernel_rfl) (fun _ _ _ h => h) ?hy7 (by assumption) ?rest7
  case hy7 => (refine Or.inl ⟨by rfl, ?_⟩; intro W hSw; (try dsimp only at hSw); go_simp; (try with_reducible rfl))
  try simp only [Act.put, List.setIfInBounds_toArray, List.set_cons_zero, List.set_cons_succ]
  refine wpAnyH_ready (rs := [6]) (by kernel_rfl) (by simp) ?_
  · refine AllReadyH.cons (o := { dst := some 28, op := Op.call { callee := Callee.value (Operand.func 24), args := #[Operand.tmp 27], argTypes := #[27] }, type := 24, pos := "law.go:16", after := #[{ on := 5, ground := Ground.data }], guard := none }) rfl (fun K hK => ?step8) ?more8
    case more8 => exact AllReadyH.nil
    ((go_simp; go_at_call 24; refine (HLV.out _ (below_drew (Below.refl _ w6))).mono ?_; rintro e w7 ⟨gl, cl, rfl, l0, l2, hb7⟩; go_wp2_with fail))
    refine hK.out _ _ ?hS8 (fun hHeld => ?rr8)
    case hS8 => (exact HALL.out _ (below_of_drew hb7))
    clear hK K
    try simp only [Act.put, List.setIfInBounds_toArray, List.set_cons_zero, List.set_cons_succ]
    have hc7 : Below w6.heap.size w6 w7 := below_of_drew hb7
    refine wpAnyH_ready (rs := [8]) (by kernel_rfl) (by simp) ?_
    refine AllReadyH.cons (o := { dst := some 30, op := Op.call { callee := Callee.value (Operand.func 14), args := #[Operand.tmp 29, Operand.const (Value.int IntKind.i64 3)], argTypes := #[27, 3] }, type := 24, pos := "law.go:16", after := #[{ on := 7, ground := Ground.data }, { on := 6, ground := Ground.chain }], guard := none }) rfl (fun K hK => ?step9) ?more9
    case more9 => exact AllReadyH.nil
    ((go_simp; go_at_call 14; refine (HAB.out _ (below_of_drew hb7)).mono ?_; rintro e w8 ⟨ga, ca, rfl, a1, hb8⟩; go_wp2_with fail))
    refine hK.out _ _ ?hS9 (fun hHeld => ?rr9)
    case hS9 => (exact HALL.out _ ((below_of_drew hb7).trans (hb8.mono (below_of_drew hb7).size)))
    clear hK K
    try simp only [Act.put, List.setIfInBounds_toArray, List.set_cons_zero, List.set_cons_succ]
    have hc8 : Below w6.heap.size w6 w8 := hc7.trans (hb8.mono hc7.size)
    refine wpAnyH_take (i := 9) (oi := { dst := some 3, op := Op.assign (Operand.tmp 26), type := 24, pos := "law.go:16", after := #[{ on := 4, ground := Ground.data }, { on := 8, ground := Ground.chain }, { on := 0, ground := Ground.phase }, { on := 1, ground := Ground.phase }, { on := 2, ground := Ground.phase }, { on := 3, ground := Ground.phase }, { on := 4, ground := Ground.phase }, { on := 5, ground := Ground.textOnly Departure.lateStores }, { on := 6, ground := Ground.textOnly Departure.lateStoresUnsure }, { on := 7, ground := Ground.textOnly Departure.lateStores }, { on := 8, ground := Ground.textOnly Departure.lateStoresUnsure }], guard := none }) (v := ?vv10) rfl (by kernel_rfl) (by kernel_rfl) (by kernel_rfl) (fun _ _ _ h => h) ?hy10 (by assumption) ?rest10
    case hy10 => (refine Or.inl ⟨by rfl, ?_⟩; intro W hSw; (try dsimp only at hSw); go_simp; (try with_reducible rfl))
    try simp only [Act.put, List.setIfInBounds_toArray, List.set_cons_zero, List.set_cons_succ]
    refine wpAnyH_take (i := 10) (oi := { dst := some 4, op := Op.assign (Operand.tmp 28), type := 24, pos := "law.go:16", after := #[{ on := 6, ground := Ground.data }, { on := 9, ground := Ground.chain }, { on := 0, ground := Ground.phase }, { on := 1, ground := Ground.phase }, { on := 2, ground := Ground.phase }, { on := 3, ground := Ground.phase }, { on := 4, ground := Ground.phase }, { on := 5, ground := Ground.phase }, { on := 6, ground := Ground.phase }, { on := 7, ground := Ground.textOnly Departure.lateStores }, { on := 8, ground := Ground.textOnly Departure.lateStoresUnsure }, { on := 9, ground := Ground.phase }], guard := none }) (v := ?vv11) rfl (by kernel_rfl) (by kernel_rfl) (by kernel_rfl) (fun _ _ _ h => h) ?hy11 (by assumption) ?rest11
    case hy11 => (refine Or.inl ⟨by rfl, ?_⟩; intro W hSw; (try dsimp only at hSw); go_simp; (try with_reducible rfl))
    try simp only [Act.put, List.setIfInBounds_toArray, List.set_cons_zero, List.set_cons_succ]
    refine wpAnyH_take (i := 11) (oi := { dst := some 5, op := Op.assign (Operand.tmp 30), type := 24, pos := "law.go:16", after := #[{ on := 8, ground := Ground.data }, { on := 10, ground := Ground.chain }, { on := 0, ground := Ground.phase }, { on := 1, ground := Ground.phase }, { on := 2, ground := Ground.phase }, { on := 3, ground := Ground.phase }, { on := 4, ground := Ground.phase }, { on := 5, ground := Ground.phase }, { on := 6, ground := Ground.phase }, { on := 7, ground := Ground.phase }, { on := 8, ground := Ground.phase }, { on := 9, ground := Ground.phase }, { on := 10, ground := Ground.phase }], guard := none }) (v := ?vv12) rfl (by kernel_rfl) (by kernel_rfl) (by kernel_rfl) (fun _ _ _ h => h) ?hy12 (by assumption) ?rest12
    case hy12 => (refine Or.inl ⟨by rfl, ?_⟩; intro W hSw; (try dsimp only at hSw); go_simp; (try with_reducible rfl))
    try simp only [Act.put, List.setIfInBounds_toArray, List.set_cons_zero, List.set_cons_succ]
    refine wpAnyH_done (by kernel_rfl) ?_ _
    have HC8 := Lib.hid hc8
    have HA1 : Hid (∀ W, Below w8.heap.size w8 W → W.cell? ⟨ga, 1, none⟩ = some (.int .i64 1)) := Lib.hid (fun W hW => (hW.cell (p := ⟨ga, 1, none⟩) (heap_lt' a1)).trans a1)
    have hl0 : w8.cell? ⟨gl, 0, none⟩ = some (.int .i64 2) := (hb8.cell (p := ⟨gl, 0, none⟩) (heap_lt' l0)).trans l0
    have hl2 : w8.cell? ⟨gl, 2, none⟩ = some (.int .i64 4) := (hb8.cell (p := ⟨gl, 2, none⟩) (heap_lt' l2)).trans l2
    have q8 := HQ1.out _ hc8
    have b8 := (HALL.out _ hc8).1
    clear hHeld HS HLV HAB hb7 hb8 hc7 hc8 l0 l2 a1
    go_wp2_with fail
    refine (HME.out _ HC8.out).mono ?_
    rintro e w9 ⟨rfl, hb9⟩
    have hc9 := HC8.out.trans (hb9.mono HC8.out.size)
    have HC9 := Lib.hid hc9
    have b9 := (HALL.out _ hc9).1
    have a9 := HA1.out _ hb9
    clear hb9 hc9 b8 q8 hl0 hl2
    go_wp2_with fail
    refine (HP1.out _ HC9.out).mono ?_
    rintro e w10 ⟨rfl, hb10⟩
    have hc10 := HC9.out.trans (hb10.mono HC9.out.size)
    have HC10 := Lib.hid hc10
    have b10 := (HALL.out _ hc10).1
    clear hb10 hc10 b9 a9
    go_wp2_with fail
    refine (HP2.out _ HC10.out).mono ?_
    rintro e w11 ⟨rfl, hb11⟩
    have HC11 := Lib.hid (HC10.out.trans (hb11.mono HC10.out.size))
    clear hb11 b10
    go_wp2_with fail
    refine bodyPost_ret (v := .bool true) (by simp [results, Tryd.results10, go_sem]) rfl ⟨rfl, HB6.out.trans (HC11.out.mono HB6.out.size)⟩
end Go.Proofs.YtpploljennbpdaaDoor
