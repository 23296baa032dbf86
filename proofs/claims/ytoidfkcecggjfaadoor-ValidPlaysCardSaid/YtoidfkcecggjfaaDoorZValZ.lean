/- ValidPlays: the law's walk. -/
import Derived.Test.YtoidfkcecggjfaaDoorZValY
import Derived.Test.YtoidfkcecggjfaaDoorZValK
import Derived.Test.YtoidfkcecggjfaaDoorZPrfVo
set_option linter.unusedSimpArgs false
set_option linter.unusedVariables false
set_option linter.unnecessarySimpa false
namespace Go.Proofs.YtoidfkcecggjfaaDoor
open Go.RowKit Go.Shelf

/-- Another condition from here on. -/
theorem wpAnyH_into {P : Program} {ops : Array Oper} {Q : Exit → Act → World → Prop} {md : Region.Mode} {S T : World → Prop} (hS : ∀ w, T w → S w) : ∀ (fuel : Nat) (listed : Array Bool) (a : Act) (w : World), wpAnyH P md ops Q T fuel listed a w → wpAnyH P md ops Q S fuel listed a w
  | 0, _, _, _, h => h
  | fuel + 1, _, _, _, h => ⟨h.1, fun i hi => wpOp_mono (fun a' w' h' => ⟨hS _ h'.1, wpAnyH_into hS fuel _ a' w' h'.2⟩) (h.2 i hi)⟩
section
variable {w0 w W : World} {h r F : Nat} {A : List (List K)} {v u : Value} {vs us : List Value}
theorem BothP.now (b : BothP w0 w h r F A v vs u us) : Calls Tryd.prog 8 #[.pointer (some ⟨h, 0, none⟩)] w fun e w' => e = .returned (.int .i64 A.length) ∧ Below w.heap.size w w' := by
  refine (now_any b.hh.toHistAt b.hh.few).mono ?_
  rintro e w' ⟨rfl, rfl⟩
  have hF := b.hF
  exact ⟨by rw [List.length_drop, show ((F : Int) + ((A.length - F : Nat) : Int)) = (A.length : Int) by omega], below_drewN (Below.refl _ _) 1⟩
theorem BothP.floor (b : BothP w0 w h r F A v vs u us) : Calls Tryd.prog 9 #[.pointer (some ⟨h, 0, none⟩)] w fun e w' => e = .returned (.int .i64 F) ∧ Below w.heap.size w w' := by
  refine (floor_any b.hh.toHistAt).mono ?_
  rintro e w' ⟨rfl, rfl⟩
  exact ⟨rfl, Below.refl _ _⟩
theorem BothP.nothing {n : Nat} (b : BothP w0 w h r F A v vs u us) (h1 : F ≤ n) (h2 : n ≤ A.length) :
    Calls Tryd.prog 10 #[.pointer (some ⟨h, 0, none⟩), .int .i64 n, .slice none 0 0] w fun e w' => e = .returned (.int .i64 0) ∧ Below w.heap.size w w' := by
  have hF : F ≤ A.length := by omega
  refine (Check_any b.hh (reads := []) (since := (n : Nat)) (RowIs.nil w 1) (by simp)).mono ?_
  rintro e w' ⟨rfl, hb⟩
  exact ⟨by rw [check_nothing hF h1 h2], hb⟩
end
theorem both_new {w w1 : World} {h : Nat} (hG : Glob w) (h1 : HH w1 h (.slice none 0 0) 0 [] []) (hb1 : Below w.heap.size w w1) (hc1 : w.heap.size ≤ h) :
    BothV w (w1.alloc (.cells #[.slice none 0 0, .int .i64 0] 28)) h w1.heap.size 0 [] := by
  have hb := below_new (w := w1) (.cells #[.slice none 0 0, .int .i64 0] 28)
  have hl := heap_lt h1.head
  have hr : RAt (w1.alloc (.cells #[.slice none 0 0, .int .i64 0] 28)) w1.heap.size (.slice none 0 0) 0 [] [] := ⟨alloc_at w1 _, RowIs.nil _ _, (fun i ks hi => by simp at hi), (fun e => by cases e), rfl⟩
  refine ⟨.slice none 0 0, [], .slice none 0 0, [], h1.below hb, hr, Nat.le_refl _, hG, hb1.trans (hb.mono hb1.size), hc1, hb1.size, ?_, by omega, ?_, ?_, ?_, ?_, ?_⟩
  · intro b e; cases e
  · intro e; cases e
  · intro x hx; cases hx
  · intro e; cases e
  · intro x hx; cases hx
  · intro b e; cases e
set_option maxRecDepth 100000 in
set_option maxHeartbeats 16000000 in
theorem law_plays {w : World} (hG : Glob w) {ov : Value} {m : Nat} (ho : OpvIs w ov m) :
    Calls Tryd.prog 3 #[ov] w fun e w' => e = .returned (.bool true) ∧ Below w.heap.size w w' := by
  have HN := Lib.hid (New_any hG)
  obtain ⟨A, cap, rfl, ho1, ho2, ho3⟩ := ho
  have HO3 := Lib.hid ho3
  have HG := Lib.hid hG
  unfold maxLen at ho2
  clear ho3 hG
  go_enter Tryd.func3, Tryd.ntmps3
  go_wp2_with fail
  refine (HN.out).mono ?_
  rintro e w1 ⟨h, rfl, h1, hb1, hc1⟩
  have HB := Lib.hid (both_new HG.out h1 hb1 hc1)
  clear h1 hb1 hc1 HN
  go_upto_block 0 with fail
  go_cut [5, 6, 12] from 13 to 57 (fun s5 s6 s12 wx => ∃ F A, BothV w wx h w1.heap.size F A ∧ A.length ≤ 50)
  case first =>
    go_wp2_with fail
    go_loopw [12] (fun iv wx => ∃ (k F : Nat) (A : List (List K)), k ≤ m ∧ k ≤ 50 ∧ iv = .int .i64 k ∧ BothV w wx h w1.heap.size F A ∧ A.length ≤ k) (fun iv _ => m - (intOf iv).toNat)
    case atStart => exact ⟨0, 0, [], Nat.zero_le _, Nat.zero_le _, rfl, HB.out, Nat.zero_le _⟩
    case round =>
      obtain ⟨k, F, L, hkm, hk50, rfl, hb, hL⟩ := hrel
      have HB1 := Lib.hid hb
      clear HB
      by_cases hkm2 : k < m
      · obtain ⟨a, kd, n, nr, lv, T, rfl, hab, k0, k1, k2, k3, ht, hkd, hn⟩ := HO3.out k hkm2
        have l1 : (k : Int) < (m : Int) := by omega
        obtain ⟨v, vs, u, us, b⟩ := id hb
        have HBL := Lib.hid b.below
        replace k0 := (HBL.out.cell (p := a.add (k * 4)) (by rw [add_block]; exact hab)).trans k0
        replace k1 : wr.cell? ⟨(a.add (k * 4)).block, (a.add (k * 4)).off + 1, none⟩ = some (.bool nr) := (HBL.out.cell (p := (a.add (k * 4)).add 1) (by rw [add_block, add_block]; exact hab)).trans k1
        replace k2 : wr.cell? ⟨(a.add (k * 4)).block, (a.add (k * 4)).off + 2, none⟩ = some (.int .i64 n) := (HBL.out.cell (p := (a.add (k * 4)).add 2) (by rw [add_block, add_block]; exact hab)).trans k2
        replace k3 : wr.cell? ⟨(a.add (k * 4)).block, (a.add (k * 4)).off + 3, none⟩ = some lv := (HBL.out.cell (p := (a.add (k * 4)).add 3) (by rw [add_block, add_block]; exact hab)).trans k3
        have hbn := below_new (w := wr) (.cells #[.int .i64 kd, .bool nr, .int .i64 n, lv] 31)
        by_cases hk2 : k < 50
        · have l2 : (k : Int) < 50 := by omega
          have HLT : Hid (k + 1 ≤ m ∧ k + 1 ≤ 50) := Lib.hid ⟨hkm2, hk2⟩
          have HST := Lib.hid (step_any (kd := kd) (nr := nr) (hb.keep (below_drew hbn)) (by omega) ((ht.below HBL.out).below (below_drew hbn)) hn)
          obtain ⟨A3, c3, rfl, _⟩ := id ht
          clear b hb ht hbn hkm2 hk2 hkm hk50 HBL hkd hn
          go_wp2_with fail
          refine wp_only ?_
          refine wp_region_held_drew (S := fun _ => True) (by kernel_rfl) trivial (fun hHeld => ?_)
          refine wpAnyH_take (i := 0) (oi := { dst := some 19, op := Op.move (Operand.tmp 3), type := 23, pos := "law.go:111", after := #[], guard := none }) (v := ?vv1) rfl (by kernel_rfl) (by kernel_rfl) (by kernel_rfl) (fun _ _ _ h => h) ?hy1 (by assumption) ?rest1
          case hy1 => (refine Or.inl ⟨by rfl, ?_⟩; intro W hSw; (try dsimp only at hSw); go_simp; (try with_reducible rfl))
          try simp only [Act.put, List.setIfInBounds_toArray, List.set_cons_zero, List.set_cons_succ]
          refine wpAnyH_take (i := 1) (oi := { dst := some 20, op := Op.move (Operand.tmp 4), type := 25, pos := "law.go:111", after := #[], guard := none }) (v := ?vv2) rfl (by kernel_rfl) (by kernel_rfl) (by kernel_rfl) (fun _ _ _ h => h) ?hy2 (by assumption) ?rest2
          case hy2 => (refine Or.inl ⟨by rfl, ?_⟩; intro W hSw; (try dsimp only at hSw); go_simp; (try with_reducible rfl))
          try simp only [Act.put, List.setIfInBounds_toArray, List.set_cons_zero, List.set_cons_succ]
          refine wpAnyH_ready (rs := [2]) (by kernel_rfl) (by simp) ?_
          refine AllReadyH.cons (o := { dst := some 21, op := Op.load 31 (Operand.tmp 6), type := 31, pos := "law.go:111", after := #[], guard := none }) rfl (fun K hK => ?step3) ?more3
          case more3 => exact AllReadyH.nil
          ((go_simp))
          refine hK.out _ _ ?hS3 (fun hHeld => ?rr3)
          case hS3 => (trivial)
          clear hK K
          try simp only [Act.put, List.setIfInBounds_toArray, List.set_cons_zero, List.set_cons_succ]
          refine wpAnyH_ready (rs := [3]) (by kernel_rfl) (by simp) ?_
          refine AllReadyH.cons (o := { dst := some 22, op := Op.call { callee := Callee.value (Operand.func 7), args := #[Operand.tmp 19, Operand.tmp 20, Operand.tmp 21], argTypes := #[23, 25, 31] }, type := 4, pos := "law.go:111", after := #[{ on := 0, ground := Ground.data }, { on := 1, ground := Ground.data }, { on := 2, ground := Ground.data }], guard := none }) rfl (fun K hK => ?step4) ?more4
          case more4 => exact AllReadyH.nil
          ((go_simp; go_at_call 7; refine (HST.out).mono ?_; rintro e w3 ⟨rfl, F2, A2, hb3, hA2⟩; go_wp2_with fail))
          refine hK.out _ _ ?hS4 (fun hHeld => ?rr4)
          case hS4 => (trivial)
          clear hK K
          try simp only [Act.put, List.setIfInBounds_toArray, List.set_cons_zero, List.set_cons_succ]
          obtain ⟨v2, vs2, u2, us2, b3⟩ := id hb3
          have hF2 := b3.hF
          obtain ⟨Au, cu, rfl, hu1, hu2, _⟩ := id b3.ra.row.form
          have HC : Hid (∀ W, Below w3.heap.size w3 W → W.cell? ⟨w1.heap.size, 0, none⟩ = some (.slice Au A2.length cu) ∧ W.cell? ⟨w1.heap.size, 1, none⟩ = some (.int .i64 F2)) := Lib.hid (fun W hW => ⟨cell_of ((b3.keep hW).ra.head) 0, cell_of ((b3.keep hW).ra.head) 1⟩)
          have HBB := Lib.hid b3
          clear hb3 b3 HST k0 k1 k2 k3 hHeld
          refine wpAnyH_into (T := fun W => W.cell? ⟨w1.heap.size, 0, none⟩ = some (.slice Au A2.length cu) ∧ W.cell? ⟨w1.heap.size, 1, none⟩ = some (.int .i64 F2)) (fun _ _ => trivial) _ _ _ _ ?_
          have hHeld := HC.out w3 (Below.refl _ _)
          refine wpAnyH_take (i := 4) (oi := { dst := some 23, op := Op.unOp UnOp.not 4 (Operand.tmp 22), type := 4, pos := "law.go:111", after := #[{ on := 3, ground := Ground.data }], guard := none }) (v := ?vv5) rfl (by kernel_rfl) (by kernel_rfl) (by kernel_rfl) (fun _ _ _ h => h) ?hy5 (by assumption) ?rest5
          case hy5 => (refine Or.inl ⟨by rfl, ?_⟩; intro W hSw; (try dsimp only at hSw); go_simp; (try with_reducible rfl))
          try simp only [Act.put, List.setIfInBounds_toArray, List.set_cons_zero, List.set_cons_succ]
          refine wpAnyH_take (i := 5) (oi := { dst := some 24, op := Op.move (Operand.tmp 23), type := 4, pos := "law.go:111", after := #[{ on := 4, ground := Ground.data }, { on := 3, ground := Ground.chain }], guard := none }) (v := ?vv6) rfl (by kernel_rfl) (by kernel_rfl) (by kernel_rfl) (fun _ _ _ h => h) ?hy6 (by assumption) ?rest6
          case hy6 => (refine Or.inl ⟨by rfl, ?_⟩; intro W hSw; (try dsimp only at hSw); go_simp; (try with_reducible rfl))
          try simp only [Act.put, List.setIfInBounds_toArray, List.set_cons_zero, List.set_cons_succ]
          refine wpAnyH_take (i := 6) (oi := { dst := some 25, op := Op.move (Operand.tmp 3), type := 23, pos := "law.go:111", after := #[{ on := 5, ground := Ground.guard }], guard := some (5, false) }) (v := ?vv7) rfl (by kernel_rfl) (by kernel_rfl) (by kernel_rfl) (fun _ _ _ h => h) ?hy7 (by assumption) ?rest7
          case hy7 => (refine Or.inl ⟨by rfl, ?_⟩; intro W hSw; (try dsimp only at hSw); go_simp; (try with_reducible rfl))
          try simp only [Act.put, List.setIfInBounds_toArray, List.set_cons_zero, List.set_cons_succ]
          refine wpAnyH_take (i := 8) (oi := { dst := some 27, op := Op.move (Operand.tmp 4), type := 25, pos := "law.go:111", after := #[{ on := 5, ground := Ground.guard }], guard := some (5, false) }) (v := ?vv8) rfl (by kernel_rfl) (by kernel_rfl) (by kernel_rfl) (fun _ _ _ h => h) ?hy8 (by assumption) ?rest8
          case hy8 => (refine Or.inl ⟨by rfl, ?_⟩; intro W hSw; (try dsimp only at hSw); go_simp; (try with_reducible rfl))
          try simp only [Act.put, List.setIfInBounds_toArray, List.set_cons_zero, List.set_cons_succ]
          refine wpAnyH_take (i := 9) (oi := { dst := some 28, op := Op.nilCheck (Operand.tmp 27), type := 0, pos := "law.go:111", after := #[{ on := 8, ground := Ground.data }, { on := 5, ground := Ground.guard }], guard := some (5, false) }) (v := ?vv9) rfl (by kernel_rfl) (by kernel_rfl) (by kernel_rfl) (fun _ _ _ h => h) ?hy9 (by assumption) ?rest9
          case hy9 => (refine Or.inl ⟨by rfl, ?_⟩; intro W hSw; (try dsimp only at hSw); go_simp; (try with_reducible rfl))
          try simp only [Act.put, List.setIfInBounds_toArray, List.set_cons_zero, List.set_cons_succ]
          refine wpAnyH_take (i := 10) (oi := { dst := some 29, op := Op.fieldAddr 28 (Operand.tmp 28) 0, type := 0, pos := "law.go:111", after := #[{ on := 9, ground := Ground.data }, { on := 5, ground := Ground.guard }], guard := some (5, false) }) (v := ?vv10) rfl (by kernel_rfl) (by kernel_rfl) (by kernel_rfl) (fun _ _ _ h => h) ?hy10 (by assumption) ?rest10
          case hy10 => (refine Or.inl ⟨by rfl, ?_⟩; intro W hSw; (try dsimp only at hSw); go_simp; (try with_reducible rfl))
          try simp only [Act.put, List.setIfInBounds_toArray, List.set_cons_zero, List.set_cons_succ]
          refine wpAnyH_take (i := 11) (oi := { dst := some 30, op := Op.load 26 (Operand.tmp 29), type := 26, pos := "law.go:111", after := #[{ on := 10, ground := Ground.data }, { on := 5, ground := Ground.guard }], guard := some (5, false) }) (v := ?vv11) rfl (by kernel_rfl) (by kernel_rfl) (by kernel_rfl) (fun _ _ _ h => h) ?hy11 (by assumption) ?rest11
          case hy11 => (refine Or.inl ⟨by rfl, ?_⟩; intro W hSw; (try dsimp only at hSw); go_simp; (try with_reducible rfl))
          try simp only [Act.put, List.setIfInBounds_toArray, List.set_cons_zero, List.set_cons_succ]
          refine wpAnyH_take (i := 12) (oi := { dst := some 31, op := Op.call { callee := Callee.builtin Builtin.len, args := #[Operand.tmp 30], argTypes := #[26] }, type := 3, pos := "law.go:111", after := #[{ on := 11, ground := Ground.data }, { on := 5, ground := Ground.guard }], guard := some (5, false) }) (v := ?vv12) rfl (by kernel_rfl) (by kernel_rfl) (by kernel_rfl) (fun _ _ _ h => h) ?hy12 (by assumption) ?rest12
          case hy12 => (refine Or.inl ⟨by rfl, ?_⟩; intro W hSw; (try dsimp only at hSw); go_simp; (try with_reducible rfl))
          try simp only [Act.put, List.setIfInBounds_toArray, List.set_cons_zero, List.set_cons_succ]
          refine wpAnyH_ready (rs := [7]) (by kernel_rfl) (by simp) ?_
          refine AllReadyH.cons (o := { dst := some 26, op := Op.call { callee := Callee.value (Operand.func 8), args := #[Operand.tmp 25], argTypes := #[23] }, type := 3, pos := "law.go:111", after := #[{ on := 6, ground := Ground.data }, { on := 5, ground := Ground.chain }, { on := 5, ground := Ground.guard }], guard := some (5, false) }) rfl (fun K hK => ?step13) ?more13
          case more13 => exact AllReadyH.nil
          ((go_simp; go_at_call 8; refine (HBB.out.now).mono ?_; rintro e w4 ⟨rfl, hw4⟩; go_wp2_with fail))
          refine hK.out _ _ ?hS13 (fun hHeld => ?rr13)
          case hS13 => (exact HC.out _ hw4)
          clear hK K
          try simp only [Act.put, List.setIfInBounds_toArray, List.set_cons_zero, List.set_cons_succ]
          refine wpAnyH_take (i := 13) (oi := { dst := some 32, op := Op.binOp BinOp.neq 3 (Operand.tmp 26) (Operand.tmp 31) 3, type := 4, pos := "law.go:111", after := #[{ on := 7, ground := Ground.data }, { on := 12, ground := Ground.data }, { on := 5, ground := Ground.guard }], guard := some (5, false) }) (v := ?vv14) rfl (by kernel_rfl) (by kernel_rfl) (by kernel_rfl) (fun _ _ _ h => h) ?hy14 (by assumption) ?rest14
          case hy14 => (refine Or.inl ⟨by rfl, ?_⟩; intro W hSw; (try dsimp only at hSw); go_simp; (try with_reducible rfl))
          try simp only [Act.put, List.setIfInBounds_toArray, List.set_cons_zero, List.set_cons_succ]
          refine wpAnyH_take (i := 14) (oi := { dst := some 33, op := Op.pick (Operand.tmp 24) (Operand.const (Value.bool true)) (Operand.tmp 32), type := 4, pos := "law.go:111", after := #[{ on := 5, ground := Ground.data }, { on := 13, ground := Ground.data }], guard := none }) (v := ?vv15) rfl (by kernel_rfl) (by kernel_rfl) (by kernel_rfl) (fun _ _ _ h => h) ?hy15 (by assumption) ?rest15
          case hy15 => (refine Or.inl ⟨by rfl, ?_⟩; intro W hSw; (try dsimp only at hSw); go_simp; (try with_reducible rfl))
          try simp only [Act.put, List.setIfInBounds_toArray, List.set_cons_zero, List.set_cons_succ]
          refine wpAnyH_take (i := 15) (oi := { dst := some 34, op := Op.move (Operand.tmp 33), type := 4, pos := "law.go:111", after := #[{ on := 14, ground := Ground.data }, { on := 7, ground := Ground.chain }], guard := none }) (v := ?vv16) rfl (by kernel_rfl) (by kernel_rfl) (by kernel_rfl) (fun _ _ _ h => h) ?hy16 (by assumption) ?rest16
          case hy16 => (refine Or.inl ⟨by rfl, ?_⟩; intro W hSw; (try dsimp only at hSw); go_simp; (try with_reducible rfl))
          try simp only [Act.put, List.setIfInBounds_toArray, List.set_cons_zero, List.set_cons_succ]
          refine wpAnyH_take (i := 16) (oi := { dst := some 35, op := Op.move (Operand.tmp 3), type := 23, pos := "law.go:111", after := #[{ on := 15, ground := Ground.guard }], guard := some (15, false) }) (v := ?vv17) rfl (by kernel_rfl) (by kernel_rfl) (by kernel_rfl) (fun _ _ _ h => h) ?hy17 (by assumption) ?rest17
          case hy17 => (refine Or.inl ⟨by rfl, ?_⟩; intro W hSw; (try dsimp only at hSw); go_simp; (try with_reducible rfl))
          try simp only [Act.put, List.setIfInBounds_toArray, List.set_cons_zero, List.set_cons_succ]
          refine wpAnyH_take (i := 18) (oi := { dst := some 37, op := Op.move (Operand.tmp 4), type := 25, pos := "law.go:111", after := #[{ on := 15, ground := Ground.guard }], guard := some (15, false) }) (v := ?vv18) rfl (by kernel_rfl) (by kernel_rfl) (by kernel_rfl) (fun _ _ _ h => h) ?hy18 (by assumption) ?rest18
          case hy18 => (refine Or.inl ⟨by rfl, ?_⟩; intro W hSw; (try dsimp only at hSw); go_simp; (try with_reducible rfl))
          try simp only [Act.put, List.setIfInBounds_toArray, List.set_cons_zero, List.set_cons_succ]
          refine wpAnyH_take (i := 19) (oi := { dst := some 38, op := Op.nilCheck (Operand.tmp 37), type := 0, pos := "law.go:111", after := #[{ on := 18, ground := Ground.data }, { on := 15, ground := Ground.guard }], guard := some (15, false) }) (v := ?vv19) rfl (by kernel_rfl) (by kernel_rfl) (by kernel_rfl) (fun _ _ _ h => h) ?hy19 (by assumption) ?rest19
          case hy19 => (refine Or.inl ⟨by rfl, ?_⟩; intro W hSw; (try dsimp only at hSw); go_simp; (try with_reducible rfl))
          try simp only [Act.put, List.setIfInBounds_toArray, List.set_cons_zero, List.set_cons_succ]
          refine wpAnyH_take (i := 20) (oi := { dst := some 39, op := Op.fieldAddr 28 (Operand.tmp 38) 1, type := 0, pos := "law.go:111", after := #[{ on := 19, ground := Ground.data }, { on := 15, ground := Ground.guard }], guard := some (15, false) }) (v := ?vv20) rfl (by kernel_rfl) (by kernel_rfl) (by kernel_rfl) (fun _ _ _ h => h) ?hy20 (by assumption) ?rest20
          case hy20 => (refine Or.inl ⟨by rfl, ?_⟩; intro W hSw; (try dsimp only at hSw); go_simp; (try with_reducible rfl))
          try simp only [Act.put, List.setIfInBounds_toArray, List.set_cons_zero, List.set_cons_succ]
          refine wpAnyH_take (i := 21) (oi := { dst := some 40, op := Op.load 3 (Operand.tmp 39), type := 3, pos := "law.go:111", after := #[{ on := 20, ground := Ground.data }, { on := 15, ground := Ground.guard }], guard := some (15, false) }) (v := ?vv21) rfl (by kernel_rfl) (by kernel_rfl) (by kernel_rfl) (fun _ _ _ h => h) ?hy21 (by assumption) ?rest21
          case hy21 => (refine Or.inl ⟨by rfl, ?_⟩; intro W hSw; (try dsimp only at hSw); go_simp; (try with_reducible rfl))
          try simp only [Act.put, List.setIfInBounds_toArray, List.set_cons_zero, List.set_cons_succ]
          refine wpAnyH_ready (rs := [17]) (by kernel_rfl) (by simp) ?_
          refine AllReadyH.cons (o := { dst := some 36, op := Op.call { callee := Callee.value (Operand.func 9), args := #[Operand.tmp 35], argTypes := #[23] }, type := 3, pos := "law.go:111", after := #[{ on := 16, ground := Ground.data }, { on := 15, ground := Ground.chain }, { on := 15, ground := Ground.guard }], guard := some (15, false) }) rfl (fun K hK => ?step22) ?more22
          case more22 => exact AllReadyH.nil
          ((go_simp; go_at_call 9; refine ((HBB.out.keep hw4).floor).mono ?_; rintro e w5 ⟨rfl, hw5⟩; go_wp2_with fail))
          refine hK.out _ _ ?hS22 (fun hHeld => ?rr22)
          case hS22 => (exact HC.out _ (hw4.trans (hw5.mono hw4.size)))
          clear hK K
          try simp only [Act.put, List.setIfInBounds_toArray, List.set_cons_zero, List.set_cons_succ]
          have HW5 := Lib.hid (hw4.trans (hw5.mono hw4.size))
          clear hw4 hw5
          refine wpAnyH_take (i := 22) (oi := { dst := some 41, op := Op.binOp BinOp.neq 3 (Operand.tmp 36) (Operand.tmp 40) 3, type := 4, pos := "law.go:111", after := #[{ on := 17, ground := Ground.data }, { on := 21, ground := Ground.data }, { on := 15, ground := Ground.guard }], guard := some (15, false) }) (v := ?vv23) rfl (by kernel_rfl) (by kernel_rfl) (by kernel_rfl) (fun _ _ _ h => h) ?hy23 (by assumption) ?rest23
          case hy23 => (refine Or.inl ⟨by rfl, ?_⟩; intro W hSw; (try dsimp only at hSw); go_simp; (try with_reducible rfl))
          try simp only [Act.put, List.setIfInBounds_toArray, List.set_cons_zero, List.set_cons_succ]
          refine wpAnyH_take (i := 23) (oi := { dst := some 42, op := Op.pick (Operand.tmp 34) (Operand.const (Value.bool true)) (Operand.tmp 41), type := 4, pos := "law.go:111", after := #[{ on := 15, ground := Ground.data }, { on := 22, ground := Ground.data }], guard := none }) (v := ?vv24) rfl (by kernel_rfl) (by kernel_rfl) (by kernel_rfl) (fun _ _ _ h => h) ?hy24 (by assumption) ?rest24
          case hy24 => (refine Or.inl ⟨by rfl, ?_⟩; intro W hSw; (try dsimp only at hSw); go_simp; (try with_reducible rfl))
          try simp only [Act.put, List.setIfInBounds_toArray, List.set_cons_zero, List.set_cons_succ]
          refine wpAnyH_take (i := 24) (oi := { dst := some 43, op := Op.move (Operand.tmp 42), type := 4, pos := "law.go:111", after := #[{ on := 23, ground := Ground.data }, { on := 17, ground := Ground.chain }], guard := none }) (v := ?vv25) rfl (by kernel_rfl) (by kernel_rfl) (by kernel_rfl) (fun _ _ _ h => h) ?hy25 (by assumption) ?rest25
          case hy25 => (refine Or.inl ⟨by rfl, ?_⟩; intro W hSw; (try dsimp only at hSw); go_simp; (try with_reducible rfl))
          try simp only [Act.put, List.setIfInBounds_toArray, List.set_cons_zero, List.set_cons_succ]
          refine wpAnyH_take (i := 25) (oi := { dst := some 44, op := Op.move (Operand.tmp 3), type := 23, pos := "law.go:111", after := #[{ on := 24, ground := Ground.guard }], guard := some (24, false) }) (v := ?vv26) rfl (by kernel_rfl) (by kernel_rfl) (by kernel_rfl) (fun _ _ _ h => h) ?hy26 (by assumption) ?rest26
          case hy26 => (refine Or.inl ⟨by rfl, ?_⟩; intro W hSw; (try dsimp only at hSw); go_simp; (try with_reducible rfl))
          try simp only [Act.put, List.setIfInBounds_toArray, List.set_cons_zero, List.set_cons_succ]
          refine wpAnyH_take (i := 26) (oi := { dst := some 45, op := Op.move (Operand.tmp 3), type := 23, pos := "law.go:111", after := #[{ on := 24, ground := Ground.guard }], guard := some (24, false) }) (v := ?vv27) rfl (by kernel_rfl) (by kernel_rfl) (by kernel_rfl) (fun _ _ _ h => h) ?hy27 (by assumption) ?rest27
          case hy27 => (refine Or.inl ⟨by rfl, ?_⟩; intro W hSw; (try dsimp only at hSw); go_simp; (try with_reducible rfl))
          try simp only [Act.put, List.setIfInBounds_toArray, List.set_cons_zero, List.set_cons_succ]
          refine wpAnyH_ready (rs := [27]) (by kernel_rfl) (by simp) ?_
          refine AllReadyH.cons (o := { dst := some 46, op := Op.call { callee := Callee.value (Operand.func 8), args := #[Operand.tmp 45], argTypes := #[23] }, type := 3, pos := "law.go:111", after := #[{ on := 26, ground := Ground.data }, { on := 24, ground := Ground.chain }, { on := 24, ground := Ground.guard }], guard := some (24, false) }) rfl (fun K hK => ?step28) ?more28
          case more28 => exact AllReadyH.nil
          ((go_simp; go_at_call 8; refine ((HBB.out.keep HW5.out).now).mono ?_; rintro e w6 ⟨rfl, hw6⟩; go_wp2_with fail))
          refine hK.out _ _ ?hS28 (fun hHeld => ?rr28)
          case hS28 => (exact HC.out _ (HW5.out.trans (hw6.mono HW5.out.size)))
          clear hK K
          try simp only [Act.put, List.setIfInBounds_toArray, List.set_cons_zero, List.set_cons_succ]
          have HW6 := Lib.hid (HW5.out.trans (hw6.mono HW5.out.size))
          clear hw6
          refine wpAnyH_ready (rs := [28]) (by kernel_rfl) (by simp) ?_
          refine AllReadyH.cons (o := { dst := some 47, op := Op.call { callee := Callee.value (Operand.func 10), args := #[Operand.tmp 44, Operand.tmp 46, Operand.const (Value.slice none 0 0)], argTypes := #[23, 3, 29] }, type := 34, pos := "law.go:111", after := #[{ on := 25, ground := Ground.data }, { on := 27, ground := Ground.data }, { on := 27, ground := Ground.chain }, { on := 24, ground := Ground.guard }], guard := some (24, false) }) rfl (fun K hK => ?step29) ?more29
          case more29 => exact AllReadyH.nil
          ((go_simp; go_at_call 10; refine ((HBB.out.keep HW6.out).nothing hF2 (Nat.le_refl _)).mono ?_; rintro e w7 ⟨rfl, hw7⟩; go_wp2_with fail))
          refine hK.out _ _ ?hS29 (fun hHeld => ?rr29)
          case hS29 => (exact HC.out _ (HW6.out.trans (hw7.mono HW6.out.size)))
          clear hK K
          try simp only [Act.put, List.setIfInBounds_toArray, List.set_cons_zero, List.set_cons_succ]
          have HW7 := Lib.hid (HW6.out.trans (hw7.mono HW6.out.size))
          clear hw7
          refine wpAnyH_take (i := 29) (oi := { dst := some 48, op := Op.binOp BinOp.neq 34 (Operand.tmp 47) (Operand.const (Value.int IntKind.i64 0)) 34, type := 4, pos := "law.go:111", after := #[{ on := 28, ground := Ground.data }, { on := 24, ground := Ground.guard }], guard := some (24, false) }) (v := ?vv30) rfl (by kernel_rfl) (by kernel_rfl) (by kernel_rfl) (fun _ _ _ h => h) ?hy30 (by assumption) ?rest30
          case hy30 => (refine Or.inl ⟨by rfl, ?_⟩; intro W hSw; (try dsimp only at hSw); go_simp; (try with_reducible rfl))
          try simp only [Act.put, List.setIfInBounds_toArray, List.set_cons_zero, List.set_cons_succ]
          refine wpAnyH_take (i := 30) (oi := { dst := some 49, op := Op.pick (Operand.tmp 43) (Operand.const (Value.bool true)) (Operand.tmp 48), type := 4, pos := "law.go:111", after := #[{ on := 24, ground := Ground.data }, { on := 29, ground := Ground.data }], guard := none }) (v := ?vv31) rfl (by kernel_rfl) (by kernel_rfl) (by kernel_rfl) (fun _ _ _ h => h) ?hy31 (by assumption) ?rest31
          case hy31 => (refine Or.inl ⟨by rfl, ?_⟩; intro W hSw; (try dsimp only at hSw); go_simp; (try with_reducible rfl))
          try simp only [Act.put, List.setIfInBounds_toArray, List.set_cons_zero, List.set_cons_succ]
          refine wpAnyH_take (i := 31) (oi := { dst := some 50, op := Op.move (Operand.tmp 49), type := 4, pos := "law.go:111", after := #[{ on := 30, ground := Ground.data }, { on := 28, ground := Ground.chain }], guard := none }) (v := ?vv32) rfl (by kernel_rfl) (by kernel_rfl) (by kernel_rfl) (fun _ _ _ h => h) ?hy32 (by assumption) ?rest32
          case hy32 => (refine Or.inl ⟨by rfl, ?_⟩; intro W hSw; (try dsimp only at hSw); go_simp; (try with_reducible rfl))
          try simp only [Act.put, List.setIfInBounds_toArray, List.set_cons_zero, List.set_cons_succ]
          refine wpAnyH_take (i := 32) (oi := { dst := some 51, op := Op.move (Operand.tmp 3), type := 23, pos := "law.go:111", after := #[{ on := 31, ground := Ground.guard }], guard := some (31, false) }) (v := ?vv33) rfl (by kernel_rfl) (by kernel_rfl) (by kernel_rfl) (fun _ _ _ h => h) ?hy33 (by assumption) ?rest33
          case hy33 => (refine Or.inl ⟨by rfl, ?_⟩; intro W hSw; (try dsimp only at hSw); go_simp; (try with_reducible rfl))
          try simp only [Act.put, List.setIfInBounds_toArray, List.set_cons_zero, List.set_cons_succ]
          refine wpAnyH_take (i := 33) (oi := { dst := some 52, op := Op.move (Operand.tmp 3), type := 23, pos := "law.go:111", after := #[{ on := 31, ground := Ground.guard }], guard := some (31, false) }) (v := ?vv34) rfl (by kernel_rfl) (by kernel_rfl) (by kernel_rfl) (fun _ _ _ h => h) ?hy34 (by assumption) ?rest34
          case hy34 => (refine Or.inl ⟨by rfl, ?_⟩; intro W hSw; (try dsimp only at hSw); go_simp; (try with_reducible rfl))
          try simp only [Act.put, List.setIfInBounds_toArray, List.set_cons_zero, List.set_cons_succ]
          refine wpAnyH_ready (rs := [34]) (by kernel_rfl) (by simp) ?_
          refine AllReadyH.cons (o := { dst := some 53, op := Op.call { callee := Callee.value (Operand.func 9), args := #[Operand.tmp 52], argTypes := #[23] }, type := 3, pos := "law.go:111", after := #[{ on := 33, ground := Ground.data }, { on := 31, ground := Ground.chain }, { on := 31, ground := Ground.guard }], guard := some (31, false) }) rfl (fun K hK => ?step35) ?more35
          case more35 => exact AllReadyH.nil
          ((go_simp; go_at_call 9; refine ((HBB.out.keep HW7.out).floor).mono ?_; rintro e w8 ⟨rfl, hw8⟩; go_wp2_with fail))
          refine hK.out _ _ ?hS35 (fun hHeld => ?rr35)
          case hS35 => (exact HC.out _ (HW7.out.trans (hw8.mono HW7.out.size)))
          clear hK K
          try simp only [Act.put, List.setIfInBounds_toArray, List.set_cons_zero, List.set_cons_succ]
          have HW8 := Lib.hid (HW7.out.trans (hw8.mono HW7.out.size))
          clear hw8
          refine wpAnyH_ready (rs := [35]) (by kernel_rfl) (by simp) ?_
          refine AllReadyH.cons (o := { dst := some 54, op := Op.call { callee := Callee.value (Operand.func 10), args := #[Operand.tmp 51, Operand.tmp 53, Operand.const (Value.slice none 0 0)], argTypes := #[23, 3, 29] }, type := 34, pos := "law.go:111", after := #[{ on := 32, ground := Ground.data }, { on := 34, ground := Ground.data }, { on := 34, ground := Ground.chain }, { on := 31, ground := Ground.guard }], guard := some (31, false) }) rfl (fun K hK => ?step36) ?more36
          case more36 => exact AllReadyH.nil
          ((go_simp; go_at_call 10; refine ((HBB.out.keep HW8.out).nothing (Nat.le_refl _) hF2).mono ?_; rintro e w9 ⟨rfl, hw9⟩; go_wp2_with fail))
          refine hK.out _ _ ?hS36 (fun hHeld => ?rr36)
          case hS36 => (exact HC.out _ (HW8.out.trans (hw9.mono HW8.out.size)))
          clear hK K
          try simp only [Act.put, List.setIfInBounds_toArray, List.set_cons_zero, List.set_cons_succ]
          have HW9 := Lib.hid (HW8.out.trans (hw9.mono HW8.out.size))
          clear hw9
          refine wpAnyH_take (i := 36) (oi := { dst := some 55, op := Op.binOp BinOp.neq 34 (Operand.tmp 54) (Operand.const (Value.int IntKind.i64 0)) 34, type := 4, pos := "law.go:111", after := #[{ on := 35, ground := Ground.data }, { on := 31, ground := Ground.guard }], guard := some (31, false) }) (v := ?vv37) rfl (by kernel_rfl) (by kernel_rfl) (by kernel_rfl) (fun _ _ _ h => h) ?hy37 (by assumption) ?rest37
          case hy37 => (refine Or.inl ⟨by rfl, ?_⟩; intro W hSw; (try dsimp only at hSw); go_simp; (try with_reducible rfl))
          try simp only [Act.put, List.setIfInBounds_toArray, List.set_cons_zero, List.set_cons_succ]
          refine wpAnyH_take (i := 37) (oi := { dst := some 56, op := Op.pick (Operand.tmp 50) (Operand.const (Value.bool true)) (Operand.tmp 55), type := 4, pos := "law.go:111", after := #[{ on := 31, ground := Ground.data }, { on := 36, ground := Ground.data }], guard := none }) (v := ?vv38) rfl (by kernel_rfl) (by kernel_rfl) (by kernel_rfl) (fun _ _ _ h => h) ?hy38 (by assumption) ?rest38
          case hy38 => (refine Or.inl ⟨by rfl, ?_⟩; intro W hSw; (try dsimp only at hSw); go_simp; (try with_reducible rfl))
          try simp only [Act.put, List.setIfInBounds_toArray, List.set_cons_zero, List.set_cons_succ]
          refine wpAnyH_done (by kernel_rfl) ?_ _
          clear hHeld
          have HB9 : Hid (BothV w w9 h w1.heap.size F2 A2) := Lib.hid ⟨v2, vs2, _, us2, HBB.out.keep HW9.out⟩
          clear HC HBB HW5 HW6 HW7 HW8 HW9
          dsimp only [onlyN]
          go_wp2_with fail
          go_roundw
          case rel => exact ⟨k + 1, F2, A2, HLT.out.1, HLT.out.2, by go_num, HB9.out, by omega⟩
          case measure => have := HLT.out; simp [intOf]; omega
        · have l2 : ¬ (k : Int) < 50 := by omega
          have l3 : (50 : Int) ≤ (k : Int) := by omega
          obtain ⟨A3, c3, rfl, _⟩ := id ht
          have HB2 := Lib.hid (hb.keep hbn)
          clear b hb hkm2 ht hbn HBL
          go_wp2_with fail
          go_meet
          exact ⟨F, L, HB2.out, by omega⟩
      · have l1 : ¬ (k : Int) < (m : Int) := by omega
        clear hb
        go_wp2_with fail
        go_meet
        exact ⟨F, L, HB1.out, by omega⟩
  case rest =>
    obtain ⟨F, L, hb, hL⟩ := hcut
    obtain ⟨v, vs, u, us, b⟩ := id hb
    obtain ⟨Au, cu, rfl, hu1, hu2, _⟩ := id b.ra.row.form
    have HB2 := Lib.hid b
    have HBL := Lib.hid b.below
    have HC : Hid (∀ W, Below wc.heap.size wc W → W.cell? ⟨w1.heap.size, 0, none⟩ = some (.slice Au L.length cu)) := Lib.hid (fun W hW => cell_of ((b.keep hW).ra.head) 0)
    have HD : Hid (Below wc.heap.size wc wc.drew) := Lib.hid (below_drew (Below.refl _ _))
    clear b hb HB HO3
    go_wp2_with fail
    refine wp_only ?_
    refine wp_region_held_drew (S := fun W => W.cell? ⟨w1.heap.size, 0, none⟩ = some (.slice Au L.length cu)) (by kernel_rfl) (HC.out _ (below_drew (Below.refl _ _))) (fun hHeld => ?_)
    refine wpAnyH_take (i := 0) (oi := { dst := some 58, op := Op.move (Operand.tmp 3), type := 23, pos := "law.go:115", after := #[], guard := none }) (v := ?vv39) rfl (by kernel_rfl) (by kernel_rfl) (by kernel_rfl) (fun _ _ _ h => h) ?hy39 (by assumption) ?rest39
    case hy39 => (refine Or.inl ⟨by rfl, ?_⟩; intro W hSw; (try dsimp only at hSw); go_simp; (try with_reducible rfl))
    try simp only [Act.put, List.setIfInBounds_toArray, List.set_cons_zero, List.set_cons_succ]
    refine wpAnyH_take (i := 2) (oi := { dst := some 60, op := Op.move (Operand.tmp 4), type := 25, pos := "law.go:115", after := #[], guard := none }) (v := ?vv40) rfl (by kernel_rfl) (by kernel_rfl) (by kernel_rfl) (fun _ _ _ h => h) ?hy40 (by assumption) ?rest40
    case hy40 => (refine Or.inl ⟨by rfl, ?_⟩; intro W hSw; (try dsimp only at hSw); go_simp; (try with_reducible rfl))
    try simp only [Act.put, List.setIfInBounds_toArray, List.set_cons_zero, List.set_cons_succ]
    refine wpAnyH_take (i := 3) (oi := { dst := some 61, op := Op.nilCheck (Operand.tmp 60), type := 0, pos := "law.go:115", after := #[{ on := 2, ground := Ground.data }], guard := none }) (v := ?vv41) rfl (by kernel_rfl) (by kernel_rfl) (by kernel_rfl) (fun _ _ _ h => h) ?hy41 (by assumption) ?rest41
    case hy41 => (refine Or.inl ⟨by rfl, ?_⟩; intro W hSw; (try dsimp only at hSw); go_simp; (try with_reducible rfl))
    try simp only [Act.put, List.setIfInBounds_toArray, List.set_cons_zero, List.set_cons_succ]
    refine wpAnyH_take (i := 4) (oi := { dst := some 62, op := Op.fieldAddr 28 (Operand.tmp 61) 0, type := 0, pos := "law.go:115", after := #[{ on := 3, ground := Ground.data }], guard := none }) (v := ?vv42) rfl (by kernel_rfl) (by kernel_rfl) (by kernel_rfl) (fun _ _ _ h => h) ?hy42 (by assumption) ?rest42
    case hy42 => (refine Or.inl ⟨by rfl, ?_⟩; intro W hSw; (try dsimp only at hSw); go_simp; (try with_reducible rfl))
    try simp only [Act.put, List.setIfInBounds_toArray, List.set_cons_zero, List.set_cons_succ]
    refine wpAnyH_take (i := 5) (oi := { dst := some 63, op := Op.load 26 (Operand.tmp 62), type := 26, pos := "law.go:115", after := #[{ on := 4, ground := Ground.data }], guard := none }) (v := ?vv43) rfl (by kernel_rfl) (by kernel_rfl) (by kernel_rfl) (fun _ _ _ h => h) ?hy43 (by assumption) ?rest43
    case hy43 => (refine Or.inl ⟨by rfl, ?_⟩; intro W hSw; (try dsimp only at hSw); go_simp; (try with_reducible rfl))
    try simp only [Act.put, List.setIfInBounds_toArray, List.set_cons_zero, List.set_cons_succ]
    refine wpAnyH_take (i := 6) (oi := { dst := some 64, op := Op.call { callee := Callee.builtin Builtin.len, args := #[Operand.tmp 63], argTypes := #[26] }, type := 3, pos := "law.go:115", after := #[{ on := 5, ground := Ground.data }], guard := none }) (v := ?vv44) rfl (by kernel_rfl) (by kernel_rfl) (by kernel_rfl) (fun _ _ _ h => h) ?hy44 (by assumption) ?rest44
    case hy44 => (refine Or.inl ⟨by rfl, ?_⟩; intro W hSw; (try dsimp only at hSw); go_simp; (try with_reducible rfl))
    try simp only [Act.put, List.setIfInBounds_toArray, List.set_cons_zero, List.set_cons_succ]
    refine wpAnyH_ready (rs := [1]) (by kernel_rfl) (by simp) ?_
    refine AllReadyH.cons (o := { dst := some 59, op := Op.call { callee := Callee.value (Operand.func 8), args := #[Operand.tmp 58], argTypes := #[23] }, type := 3, pos := "law.go:115", after := #[{ on := 0, ground := Ground.data }], guard := none }) rfl (fun K hK => ?step45) ?more45
    case more45 => exact AllReadyH.nil
    ((go_simp; go_at_call 8; refine ((HB2.out.keep (below_drew (Below.refl _ _))).now).mono ?_; rintro e w4 ⟨rfl, hw4⟩; go_wp2_with fail))
    refine hK.out _ _ ?hS45 (fun hHeld => ?rr45)
    case hS45 => (exact HC.out _ (HD.out.trans (hw4.mono HD.out.size)))
    clear hK K
    try simp only [Act.put, List.setIfInBounds_toArray, List.set_cons_zero, List.set_cons_succ]
    have HW4 := Lib.hid (HD.out.trans (hw4.mono HD.out.size))
    clear hw4
    refine wpAnyH_take (i := 7) (oi := { dst := some 65, op := Op.binOp BinOp.eql 3 (Operand.tmp 59) (Operand.tmp 64) 3, type := 4, pos := "law.go:115", after := #[{ on := 1, ground := Ground.data }, { on := 6, ground := Ground.data }], guard := none }) (v := ?vv46) rfl (by kernel_rfl) (by kernel_rfl) (by kernel_rfl) (fun _ _ _ h => h) ?hy46 (by assumption) ?rest46
    case hy46 => (refine Or.inl ⟨by rfl, ?_⟩; intro W hSw; (try dsimp only at hSw); go_simp; (try with_reducible rfl))
    try simp only [Act.put, List.setIfInBounds_toArray, List.set_cons_zero, List.set_cons_succ]
    refine wpAnyH_take (i := 8) (oi := { dst := some 66, op := Op.move (Operand.tmp 65), type := 4, pos := "law.go:115", after := #[{ on := 7, ground := Ground.data }, { on := 1, ground := Ground.chain }], guard := none }) (v := ?vv47) rfl (by kernel_rfl) (by kernel_rfl) (by kernel_rfl) (fun _ _ _ h => h) ?hy47 (by assumption) ?rest47
    case hy47 => (refine Or.inl ⟨by rfl, ?_⟩; intro W hSw; (try dsimp only at hSw); go_simp; (try with_reducible rfl))
    try simp only [Act.put, List.setIfInBounds_toArray, List.set_cons_zero, List.set_cons_succ]
    have HB4 := Lib.hid (HBL.out.trans (HW4.out.mono HBL.out.size))
    refine wpAnyH_ready (rs := [9]) (by kernel_rfl) (by simp) ?_
    refine AllReadyH.cons (o := { dst := some 67, op := Op.call { callee := Callee.value (Operand.func 11), args := #[], argTypes := #[] }, type := 4, pos := "law.go:115", after := #[{ on := 8, ground := Ground.chain }, { on := 8, ground := Ground.guard }], guard := some (8, true) }) rfl (fun K hK => ?step48) ?more48
    case more48 => exact AllReadyH.nil
    ((go_simp; go_at_call 11; refine (awake_any (HG.out.below HB4.out)).mono ?_; rintro e w5 ⟨rfl, hw5⟩; go_wp2_with fail))
    refine hK.out _ _ ?hS48 (fun hHeld => ?rr48)
    case hS48 => (exact HC.out _ (HW4.out.trans (hw5.mono HW4.out.size)))
    clear hK K
    try simp only [Act.put, List.setIfInBounds_toArray, List.set_cons_zero, List.set_cons_succ]
    have HB5 := Lib.hid (HB4.out.trans (hw5.mono HB4.out.size))
    refine wpAnyH_take (i := 10) (oi := { dst := some 68, op := Op.pick (Operand.tmp 66) (Operand.tmp 67) (Operand.const (Value.bool false)), type := 4, pos := "law.go:115", after := #[{ on := 8, ground := Ground.data }, { on := 9, ground := Ground.data }], guard := none }) (v := ?vv49) rfl (by kernel_rfl) (by kernel_rfl) (by kernel_rfl) (fun _ _ _ h => h) ?hy49 (by assumption) ?rest49
    case hy49 => (refine Or.inl ⟨by rfl, ?_⟩; intro W hSw; (try dsimp only at hSw); go_simp; (try with_reducible rfl))
    try simp only [Act.put, List.setIfInBounds_toArray, List.set_cons_zero, List.set_cons_succ]
    refine wpAnyH_take (i := 11) (oi := { dst := some 2, op := Op.assign (Operand.tmp 68), type := 4, pos := "law.go:115", after := #[{ on := 10, ground := Ground.data }, { on := 9, ground := Ground.chain }, { on := 0, ground := Ground.phase }, { on := 1, ground := Ground.phase }, { on := 2, ground := Ground.phase }, { on := 3, ground := Ground.phase }, { on := 4, ground := Ground.phase }, { on := 5, ground := Ground.phase }, { on := 6, ground := Ground.phase }, { on := 7, ground := Ground.phase }, { on := 8, ground := Ground.phase }, { on := 9, ground := Ground.phase }, { on := 10, ground := Ground.phase }], guard := none }) (v := ?vv50) rfl (by kernel_rfl) (by kernel_rfl) (by kernel_rfl) (fun _ _ _ h => h) ?hy50 (by assumption) ?rest50
    case hy50 => (refine Or.inl ⟨by rfl, ?_⟩; intro W hSw; (try dsimp only at hSw); go_simp; (try with_reducible rfl))
    try simp only [Act.put, List.setIfInBounds_toArray, List.set_cons_zero, List.set_cons_succ]
    refine wpAnyH_done (by kernel_rfl) ?_ _
    clear hHeld
    dsimp only [onlyN]
    go_wp2_with fail
    go_ret
    exact ⟨by simp, HB5.out⟩
end Go.Proofs.YtoidfkcecggjfaaDoor
