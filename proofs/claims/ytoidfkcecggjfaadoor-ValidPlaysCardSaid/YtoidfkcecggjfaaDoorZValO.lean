/- Keys. -/
import Derived.Test.YtoidfkcecggjfaaDoorZValM
import Derived.Test.YtoidfkcecggjfaaDoorZTak
set_option linter.unusedSimpArgs false
set_option linter.unusedVariables false
set_option linter.unnecessarySimpa false
namespace Go.Proofs.YtoidfkcecggjfaaDoor
open Go.RowKit Go.Shelf

/-- What Keys answers. -/
def keysP (F : Nat) (C : List (List K)) (n : Int) : List K := if n ≤ (F : Int) ∨ (F : Int) + (C.length : Int) < n then [] else (C[n.toNat - F - 1]?).getD []
set_option maxRecDepth 100000 in
set_option maxHeartbeats 4000000 in
theorem Keys_any {w : World} {h F : Nat} {v : Value} {vs : List Value} {C : List (List K)} {n : Int} (hh : HH w h v F vs C) (hn : -9223372036854775808 ≤ n ∧ n ≤ 9223372036854775807) :
    Calls Tryd.prog 16 #[.pointer (some ⟨h, 0, none⟩), .int .i64 n] w fun e w' => ∃ v', e = .returned v' ∧ RowIs w' 1 v' (keysP F C n).length (strs (keysP F C n)) ∧ (∀ b, v'.ownBlock = some b → w.heap.size ≤ b) ∧ Below w.heap.size w w' := by
  have HNW := Lib.hid (now_any hh.toHistAt hh.few)
  obtain ⟨A, cap, rfl, h1, h2, _⟩ := id (RowIs.form hh.row)
  unfold maxLen at h2
  have k0 : w.cell? ⟨h, 0, none⟩ = some (.int .i64 F) := cell_of hh.head 0
  have k1 : w.cell? ⟨h, 1, none⟩ = some (.slice A C.length cap) := cell_of hh.head 1
  have HK1 := Lib.hid k1
  have hf := hh.few
  have HH0 := Lib.hid hh
  have hn1 := hn.1
  have hn2 := hn.2
  clear hh hn
  by_cases hlo : n ≤ (F : Int)
  · have e0 : keysP F C n = [] := by unfold keysP; rw [if_pos (.inl hlo)]
    rw [e0]
    clear e0 k1
    go_enter Tryd.func16, Tryd.ntmps16
    go_wp2_with fail
    go_ret
    exact ⟨_, rfl, RowIs.nil _ _, (fun b e => by cases e), Below.refl _ _⟩
  · by_cases hhi : (F : Int) + (C.length : Int) < n
    · have e0 : keysP F C n = [] := by unfold keysP; rw [if_pos (.inr hhi)]
      rw [e0]
      clear e0 k1
      go_enter Tryd.func16, Tryd.ntmps16
      go_wp2_with fail
      refine (HNW.out).mono ?_
      rintro e w1 ⟨rfl, rfl⟩
      go_wp2_with fail
      go_ret
      exact ⟨_, rfl, RowIs.nil _ _, (fun b e => by cases e), below_drewN (Below.refl _ _) 1⟩
    · obtain ⟨i, hi⟩ : ∃ i : Nat, n = (F : Int) + (i : Int) + 1 := ⟨(n - F - 1).toNat, by omega⟩
      have hil : i < C.length := by omega
      have hx : C[i]? = some C[i] := List.getElem?_eq_getElem hil
      generalize C[i] = ks at hx
      have e0 : keysP F C n = ks := by
        unfold keysP
        rw [if_neg (by omega), show n.toNat - F - 1 = i by omega, hx]
        rfl
      rw [e0]
      obtain ⟨u, hu, hru, _⟩ := HH0.out.each i ks hx
      obtain ⟨g, c3, e3, _, _, _, hc3⟩ : ∃ g c3, (Value.slice A C.length cap) = .slice (some ⟨g, 0, none⟩) C.length c3 ∧ True ∧ True ∧ True ∧ w.cell? ⟨g, i, none⟩ = some u := by
        obtain ⟨A', c', e', _, _, _, _, hj⟩ := RowIs.form HH0.out.row
        obtain ⟨g, e1, e2⟩ := hj i u hu
        exact ⟨g, c', by rw [e', e1], trivial, trivial, trivial, e2⟩
      injection e3 with eA _ eC
      subst eA eC
      obtain ⟨Au, cu, rfl, _⟩ := id hru.form
      have hb1 : Below w.heap.size w ((w.drewN 1).drew) := below_drew (below_drewN (Below.refl _ _) 1)
      have HB1 := Lib.hid hb1
      have HCL := Lib.hid (clone_row (hru.below hb1) (Nat.le_of_lt_succ (by have := (HH0.out.good ks (List.mem_of_getElem? hx)); omega)))
      have HX := Lib.hid hx
      have hi1 : (i : Int) < (C.length : Int) := by omega
      have kE : ((w.drewN 1).drew).cell? ⟨g, i, none⟩ = some (.slice Au ks.length cu) := hc3
      have kA : ((w.drewN 1).drew).cell? ⟨h, 0, none⟩ = some (.int .i64 F) := k0
      have kB : ((w.drewN 1).drew).cell? ⟨h, 1, none⟩ = some (.slice (some ⟨g, 0, none⟩) C.length cap) := k1
      have HSW : Hid (∀ W, Below ((w.drewN 1).drew).heap.size ((w.drewN 1).drew) W → W.cell? ⟨h, 0, none⟩ = some (.int .i64 F) ∧ W.cell? ⟨h, 1, none⟩ = some (.slice (some ⟨g, 0, none⟩) C.length cap) ∧ W.cell? ⟨g, i, none⟩ = some (.slice Au ks.length cu)) := Lib.hid (fun W hW => ⟨(hW.cell (p := ⟨h, 0, none⟩) (World.block_lt_of_cell? _ _ kA)).trans kA, (hW.cell (p := ⟨h, 1, none⟩) (World.block_lt_of_cell? _ _ kB)).trans kB, (hW.cell (p := ⟨g, i, none⟩) (World.block_lt_of_cell? _ _ kE)).trans kE⟩)
      have hw1 : IntKind.i64.wrap (n - (F : Int)) = (i : Int) + 1 := by rw [show n - (F : Int) = (i : Int) + 1 from by omega]; exact IntWalk.i64_in _ (by omega)
      have hw2 : IntKind.i64.wrap (i : Int) = (i : Int) := IntWalk.i64_in _ (by omega)
      have hi2 : 0 ≤ (i : Int) := by omega
      clear hx hru hu hc3 hb1 HX hi k1 e0 hil
      go_enter Tryd.func16, Tryd.ntmps16
      go_wp2_with fail
      refine (HNW.out).mono ?_
      rintro e w1 ⟨rfl, rfl⟩
      go_wp2_with fail
      refine wp_only ?_
      refine wp_region_held_drew (S := fun W => W.cell? ⟨h, 0, none⟩ = some (.int .i64 F) ∧ W.cell? ⟨h, 1, none⟩ = some (.slice (some ⟨g, 0, none⟩) C.length cap) ∧ W.cell? ⟨g, i, none⟩ = some (.slice Au ks.length cu)) (by kernel_rfl) ⟨kA, kB, kE⟩ (fun hHeld => ?_)
      refine wpAnyH_take (i := 0) (oi := { dst := some 21, op := Op.move (Operand.tmp 0), type := 23, pos := "valid.go:92", after := #[], guard := none }) (v := ?vv1) rfl (by kernel_rfl) (by kernel_rfl) (by kernel_rfl) (fun _ _ _ h => h) ?hy1 (by assumption) ?rest1
      case hy1 => (refine Or.inl ⟨by rfl, ?_⟩; intro W hSw; (try dsimp only at hSw); go_simp; (try with_reducible rfl))
      try simp only [Act.put, List.setIfInBounds_toArray, List.set_cons_zero, List.set_cons_succ]
      refine wpAnyH_take (i := 1) (oi := { dst := some 22, op := Op.nilCheck (Operand.tmp 21), type := 0, pos := "valid.go:92", after := #[{ on := 0, ground := Ground.data }], guard := none }) (v := ?vv2) rfl (by kernel_rfl) (by kernel_rfl) (by kernel_rfl) (fun _ _ _ h => h) ?hy2 (by assumption) ?rest2
      case hy2 => (refine Or.inl ⟨by rfl, ?_⟩; intro W hSw; (try dsimp only at hSw); go_simp; (try with_reducible rfl))
      try simp only [Act.put, List.setIfInBounds_toArray, List.set_cons_zero, List.set_cons_succ]
      refine wpAnyH_take (i := 2) (oi := { dst := some 23, op := Op.fieldAddr 48 (Operand.tmp 22) 1, type := 0, pos := "valid.go:92", after := #[{ on := 1, ground := Ground.data }], guard := none }) (v := ?vv3) rfl (by kernel_rfl) (by kernel_rfl) (by kernel_rfl) (fun _ _ _ h => h) ?hy3 (by assumption) ?rest3
      case hy3 => (refine Or.inl ⟨by rfl, ?_⟩; intro W hSw; (try dsimp only at hSw); go_simp; (try with_reducible rfl))
      try simp only [Act.put, List.setIfInBounds_toArray, List.set_cons_zero, List.set_cons_succ]
      refine wpAnyH_take (i := 3) (oi := { dst := some 24, op := Op.load 26 (Operand.tmp 23), type := 26, pos := "valid.go:92", after := #[{ on := 2, ground := Ground.data }], guard := none }) (v := ?vv4) rfl (by kernel_rfl) (by kernel_rfl) (by kernel_rfl) (fun _ _ _ h => h) ?hy4 (by assumption) ?rest4
      case hy4 => (refine Or.inl ⟨by rfl, ?_⟩; intro W hSw; (try dsimp only at hSw); go_simp; (try with_reducible rfl))
      try simp only [Act.put, List.setIfInBounds_toArray, List.set_cons_zero, List.set_cons_succ]
      refine wpAnyH_take (i := 4) (oi := { dst := some 25, op := Op.move (Operand.tmp 1), type := 3, pos := "valid.go:92", after := #[], guard := none }) (v := ?vv5) rfl (by kernel_rfl) (by kernel_rfl) (by kernel_rfl) (fun _ _ _ h => h) ?hy5 (by assumption) ?rest5
      case hy5 => (refine Or.inl ⟨by rfl, ?_⟩; intro W hSw; (try dsimp only at hSw); go_simp; (try with_reducible rfl))
      try simp only [Act.put, List.setIfInBounds_toArray, List.set_cons_zero, List.set_cons_succ]
      refine wpAnyH_take (i := 5) (oi := { dst := some 26, op := Op.move (Operand.tmp 0), type := 23, pos := "valid.go:92", after := #[], guard := none }) (v := ?vv6) rfl (by kernel_rfl) (by kernel_rfl) (by kernel_rfl) (fun _ _ _ h => h) ?hy6 (by assumption) ?rest6
      case hy6 => (refine Or.inl ⟨by rfl, ?_⟩; intro W hSw; (try dsimp only at hSw); go_simp; (try with_reducible rfl))
      try simp only [Act.put, List.setIfInBounds_toArray, List.set_cons_zero, List.set_cons_succ]
      refine wpAnyH_take (i := 6) (oi := { dst := some 27, op := Op.nilCheck (Operand.tmp 26), type := 0, pos := "valid.go:92", after := #[{ on := 5, ground := Ground.data }], guard := none }) (v := ?vv7) rfl (by kernel_rfl) (by kernel_rfl) (by kernel_rfl) (fun _ _ _ h => h) ?hy7 (by assumption) ?rest7
      case hy7 => (refine Or.inl ⟨by rfl, ?_⟩; intro W hSw; (try dsimp only at hSw); go_simp; (try with_reducible rfl))
      try simp only [Act.put, List.setIfInBounds_toArray, List.set_cons_zero, List.set_cons_succ]
      refine wpAnyH_take (i := 7) (oi := { dst := some 28, op := Op.fieldAddr 48 (Operand.tmp 27) 0, type := 0, pos := "valid.go:92", after := #[{ on := 6, ground := Ground.data }], guard := none }) (v := ?vv8) rfl (by kernel_rfl) (by kernel_rfl) (by kernel_rfl) (fun _ _ _ h => h) ?hy8 (by assumption) ?rest8
      case hy8 => (refine Or.inl ⟨by rfl, ?_⟩; intro W hSw; (try dsimp only at hSw); go_simp; (try with_reducible rfl))
      try simp only [Act.put, List.setIfInBounds_toArray, List.set_cons_zero, List.set_cons_succ]
      refine wpAnyH_take (i := 8) (oi := { dst := some 29, op := Op.load 3 (Operand.tmp 28), type := 3, pos := "valid.go:92", after := #[{ on := 7, ground := Ground.data }], guard := none }) (v := ?vv9) rfl (by kernel_rfl) (by kernel_rfl) (by kernel_rfl) (fun _ _ _ h => h) ?hy9 (by assumption) ?rest9
      case hy9 => (refine Or.inl ⟨by rfl, ?_⟩; intro W hSw; (try dsimp only at hSw); go_simp; (try with_reducible rfl))
      try simp only [Act.put, List.setIfInBounds_toArray, List.set_cons_zero, List.set_cons_succ]
      refine wpAnyH_take (i := 9) (oi := { dst := some 30, op := Op.binOp BinOp.sub 3 (Operand.tmp 25) (Operand.tmp 29) 3, type := 3, pos := "valid.go:92", after := #[{ on := 4, ground := Ground.data }, { on := 8, ground := Ground.data }], guard := none }) (v := ?vv10) rfl (by kernel_rfl) (by kernel_rfl) (by kernel_rfl) (fun _ _ _ h => h) ?hy10 (by assumption) ?rest10
      case hy10 => (refine Or.inl ⟨by rfl, ?_⟩; intro W hSw; (try dsimp only at hSw); go_simp; (try with_reducible rfl))
      try simp only [Act.put, List.setIfInBounds_toArray, List.set_cons_zero, List.set_cons_succ]
      refine wpAnyH_take (i := 10) (oi := { dst := some 31, op := Op.binOp BinOp.sub 3 (Operand.tmp 30) (Operand.const (Value.int IntKind.i64 1)) 3, type := 3, pos := "valid.go:92", after := #[{ on := 9, ground := Ground.data }], guard := none }) (v := ?vv11) rfl (by kernel_rfl) (by kernel_rfl) (by kernel_rfl) (fun _ _ _ h => h) ?hy11 (by assumption) ?rest11
      case hy11 => (refine Or.inl ⟨by rfl, ?_⟩; intro W hSw; (try dsimp only at hSw); go_simp; (try with_reducible rfl))
      try simp only [Act.put, List.setIfInBounds_toArray, List.set_cons_zero, List.set_cons_succ]
      refine wpAnyH_take (i := 11) (oi := { dst := some 32, op := Op.indexAddr 26 (Operand.tmp 24) (Operand.tmp 31), type := 0, pos := "valid.go:92", after := #[{ on := 3, ground := Ground.data }, { on := 10, ground := Ground.data }], guard := none }) (v := ?vv12) rfl (by kernel_rfl) (by kernel_rfl) (by kernel_rfl) (fun _ _ _ h => h) ?hy12 (by assumption) ?rest12
      case hy12 => (refine Or.inl ⟨by rfl, ?_⟩; intro W hSw; (try dsimp only at hSw); go_simp; (try with_reducible rfl))
      try simp only [Act.put, List.setIfInBounds_toArray, List.set_cons_zero, List.set_cons_succ]
      refine wpAnyH_take (i := 12) (oi := { dst := some 33, op := Op.load 29 (Operand.tmp 32), type := 29, pos := "valid.go:92", after := #[{ on := 11, ground := Ground.data }], guard := none }) (v := ?vv13) rfl (by kernel_rfl) (by kernel_rfl) (by kernel_rfl) (fun _ _ _ h => h) ?hy13 (by assumption) ?rest13
      case hy13 => (refine Or.inl ⟨by rfl, ?_⟩; intro W hSw; (try dsimp only at hSw); go_simp; (try with_reducible rfl))
      try simp only [Act.put, List.setIfInBounds_toArray, List.set_cons_zero, List.set_cons_succ]
      refine wpAnyH_ready (rs := [13]) (by kernel_rfl) (by simp) ?_
      refine AllReadyH.cons (o := { dst := some 34, op := Op.call { callee := Callee.value (Operand.func 26), args := #[Operand.tmp 33], argTypes := #[29] }, type := 29, pos := "valid.go:92", after := #[{ on := 12, ground := Ground.data }], guard := none }) rfl (fun K hK => ?step14) ?more14
      case more14 => exact AllReadyH.nil
      ((go_simp; go_at_call 26; refine (HCL.out).mono ?_; rintro e w4 ⟨v4, rfl, hr4, ho4, hb4⟩; obtain ⟨A4, c4, rfl, _⟩ := id hr4.form; go_wp2_with fail))
      refine hK.out _ _ ?hS14 (fun hHeld => ?rr14)
      case hS14 => (exact HSW.out _ hb4)
      clear hK K
      try simp only [Act.put, List.setIfInBounds_toArray, List.set_cons_zero, List.set_cons_succ]
      refine wpAnyH_take (i := 14) (oi := { dst := some 4, op := Op.assign (Operand.tmp 34), type := 29, pos := "valid.go:92", after := #[{ on := 13, ground := Ground.data }, { on := 13, ground := Ground.chain }, { on := 0, ground := Ground.phase }, { on := 1, ground := Ground.phase }, { on := 2, ground := Ground.phase }, { on := 3, ground := Ground.phase }, { on := 4, ground := Ground.phase }, { on := 5, ground := Ground.phase }, { on := 6, ground := Ground.phase }, { on := 7, ground := Ground.phase }, { on := 8, ground := Ground.phase }, { on := 9, ground := Ground.phase }, { on := 10, ground := Ground.phase }, { on := 11, ground := Ground.phase }, { on := 12, ground := Ground.phase }, { on := 13, ground := Ground.phase }], guard := none }) (v := ?vv15) rfl (by kernel_rfl) (by kernel_rfl) (by kernel_rfl) (fun _ _ _ h => h) ?hy15 (by assumption) ?rest15
      case hy15 => (refine Or.inl ⟨by rfl, ?_⟩; intro W hSw; (try dsimp only at hSw); go_simp; (try with_reducible rfl))
      try simp only [Act.put, List.setIfInBounds_toArray, List.set_cons_zero, List.set_cons_succ]
      refine wpAnyH_done (by kernel_rfl) ?_ _
      clear hHeld
      dsimp only [onlyN]
      go_wp2_with fail
      go_ret
      exact ⟨_, rfl, hr4, (fun b e => Nat.le_trans HB1.out.size (ho4 b e)), HB1.out.trans (hb4.mono HB1.out.size)⟩
end Go.Proofs.YtoidfkcecggjfaaDoor
