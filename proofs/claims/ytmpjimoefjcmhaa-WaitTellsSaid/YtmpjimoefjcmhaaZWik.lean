/- The reference's has and All, walked. -/
import Derived.Test.YtmpjimoefjcmhaaZWij
set_option linter.unusedSimpArgs false
set_option linter.unusedVariables false
set_option linter.unnecessarySimpa false
namespace Go.Proofs.Ytmpjimoefjcmhaa
open Go.RowKit

set_option maxRecDepth 100000 in
set_option maxHeartbeats 4000000 in
theorem has_any {w : World} {v : Value} {l : List Int} {x : Int} (h : RowIs w 1 v l.length (ints l)) (hl : l.length ≤ 1000000000) : Calls Try.prog 22 #[v, .int .i64 x] w fun e w' => e = .returned (.bool (decide (x ∈ l))) ∧ w' = w := by
  obtain ⟨A, cap, rfl, h1, h2, _⟩ := id h.form
  unfold maxLen at h2
  obtain ⟨d, hd⟩ : ∃ d, decide (x ∈ l) = d := ⟨_, rfl⟩
  rw [hd]
  have HD := Lib.hid hd
  clear hd
  go_enter Try.func22, Try.ntmps22
  go_wp2_with fail
  have HC := Lib.hid ‹(A = none → l.length = 0 ∧ cap = 0) ∧ _›
  have HH := Lib.hid h
  have hl' : (l.length : Int) ≤ 1000000000 := by omega
  go_loopw [9] (fun iv wr => ∃ k : Nat, k ≤ l.length ∧ iv = .int .i64 k ∧ wr = w ∧ x ∉ l.take k) (fun iv _ => l.length - (intOf iv).toNat)
  case atStart => exact ⟨0, Nat.zero_le _, rfl, rfl, by simp⟩
  case round =>
    obtain ⟨k, hk, rfl, rfl, hno⟩ := hrel
    have HNO := Lib.hid hno
    by_cases hlt : k < l.length
    · have hx : l[k]? = some l[k] := List.getElem?_eq_getElem hlt
      have HMEM := Lib.hid (List.getElem_mem hlt)
      have HTK : Hid (l.take (k + 1) = l.take k ++ [l[k]]) := Lib.hid (List.take_succ_eq_append_getElem hlt)
      generalize l[k] = y at hx HMEM HTK
      obtain ⟨g, rfl, kc⟩ := HC.out.2.2 k (.int .i64 y) (by unfold ints; rw [List.getElem?_map, hx]; rfl)
      have hi : (k : Int) < (l.length : Int) := by omega
      have HLT := Lib.hid hlt
      by_cases he : y = x
      · have hb : (y == x) = true := by rw [he]; exact beq_self_eq_true x
        have HDT : d = true := by rw [← HD.out]; exact decide_eq_true (by rw [← he]; exact HMEM.out)
        subst HDT
        clear hx hno hk he h
        go_wp2_with fail
        go_ret
        first | trivial | exact ⟨rfl, rfl⟩
      · have hb : (y == x) = false := by rw [beq_eq_false_iff_ne]; exact he
        have HE := Lib.hid he
        clear hx hno hk he h
        go_wp2_with fail
        go_roundw
        case rel => exact ⟨k + 1, HLT.out, by go_num, by first | rfl | trivial, by rw [HTK.out, List.mem_append, List.mem_singleton]; exact fun h => h.elim HNO.out (fun h => HE.out h.symm)⟩
        case measure => have := HLT.out; simp [intOf]; omega
    · obtain rfl : k = l.length := by omega
      have HDT : d = false := by rw [← HD.out]; exact decide_eq_false (by have := HNO.out; rwa [List.take_length] at this)
      subst HDT
      clear hlt hk hno h
      go_wp2_with fail
      go_ret
      first | trivial | exact ⟨rfl, rfl⟩
theorem allP_take {l : List (Int × Int)} {k : Nat} {x : Int × Int} (h : l[k]? = some x) : allP (l.take (k + 1)) = intoP (intoP (allP (l.take k)) x.1) x.2 := by
  have hk := (List.getElem?_eq_some_iff.1 h).1
  unfold allP
  rw [List.take_succ_eq_append_getElem hk, (List.getElem?_eq_some_iff.1 h).2, List.foldl_append]
  rfl
set_option maxRecDepth 100000 in
set_option maxHeartbeats 4000000 in
theorem all_ref {w : World} {v : Value} {l : List (Int × Int)} (h : EIs w v l) (hl : l.length ≤ 1000) : Calls Try.prog 20 #[v] w fun e w' => ∃ v', e = .returned v' ∧ RowIs w' 1 v' (allP l).length (ints (allP l)) ∧ (∀ b, v'.ownBlock = some b → w.heap.size ≤ b) ∧ Below w.heap.size w w' := by
  have HE := Lib.hid h
  obtain ⟨A, cap, rfl, h1, h2, _⟩ := h
  unfold maxLen at h2
  have hl' : (l.length : Int) ≤ 1000 := by omega
  go_enter Try.func20, Try.ntmps20
  go_wp2_with fail
  go_loopw [3, 8] (fun av iv wr => ∃ k : Nat, k ≤ l.length ∧ iv = .int .i64 k ∧ RowIs wr 1 av (allP (l.take k)).length (ints (allP (l.take k))) ∧ (∀ b, av.ownBlock = some b → w.heap.size ≤ b) ∧ Below w.heap.size w wr) (fun _ iv _ => l.length - (intOf iv).toNat)
  case atStart => exact ⟨0, Nat.zero_le _, rfl, RowIs.nil _ _, (fun b e => by cases e), Below.refl _ _⟩
  case round =>
    obtain ⟨k, hk, rfl, hr, ho, hb⟩ := hrel
    have HB := Lib.hid hb
    have HO := Lib.hid ho
    have HR := Lib.hid hr
    by_cases hlt : k < l.length
    · have hx : l[k]? = some l[k] := List.getElem?_eq_getElem hlt
      generalize l[k] = e at hx
      obtain ⟨A', cap', e', _, _, h3⟩ := HE.out.below hb
      injection e' with e1 _ e3
      subst e1 e3
      obtain ⟨a, rfl, ha, k0, k1⟩ := h3 k e hx
      obtain ⟨x, y⟩ := e
      have hi : (k : Int) < (l.length : Int) := by omega
      have k1' : wr.cell? ⟨(a.add (k * 2)).block, (a.add (k * 2)).off + 1, none⟩ = some (.int .i64 y) := k1
      obtain ⟨q1, q2, q3⟩ := allP_holds (l.take k)
      have q4 : (allP (l.take k)).length ≤ 2000 := by rw [List.length_take] at q3; omega
      have hbn := below_new (w := wr) (.cells #[.int .i64 x, .int .i64 y] 40)
      have hbd : Below w.heap.size w (wr.alloc (.cells #[.int .i64 x, .int .i64 y] 40)).drew := below_drew (hb.trans (hbn.mono hb.size))
      have HI1 := Lib.hid (into_any (w := (wr.alloc (.cells #[.int .i64 x, .int .i64 y] 40)).drew) (n := x) (hr.below (below_drew hbn)) (by omega))
      have c0 := cell_of (alloc_at wr (.cells #[.int .i64 x, .int .i64 y] 40)) 0
      have c1 := cell_of (alloc_at wr (.cells #[.int .i64 x, .int .i64 y] 40)) 1
      have c0' : (wr.alloc (.cells #[.int .i64 x, .int .i64 y] 40)).cell? ⟨wr.heap.size, 0, none⟩ = some (.int .i64 x) := c0
      have c1' : (wr.alloc (.cells #[.int .i64 x, .int .i64 y] 40)).cell? ⟨wr.heap.size, 1, none⟩ = some (.int .i64 y) := c1
      have HCC : Hid (∀ W, Below (wr.alloc (.cells #[.int .i64 x, .int .i64 y] 40)).drew.heap.size (wr.alloc (.cells #[.int .i64 x, .int .i64 y] 40)).drew W → W.cell? ⟨wr.heap.size, 0, none⟩ = some (.int .i64 x) ∧ W.cell? ⟨wr.heap.size, 1, none⟩ = some (.int .i64 y)) := Lib.hid (fun W hW => ⟨(hW.cell (p := ⟨wr.heap.size, 0, none⟩) (by show wr.heap.size < (wr.alloc _).heap.size; rw [asz]; omega)).trans c0', (hW.cell (p := ⟨wr.heap.size, 1, none⟩) (by show wr.heap.size < (wr.alloc _).heap.size; rw [asz]; omega)).trans c1'⟩)
      have HBD := Lib.hid hbd
      have HQ1 := Lib.hid q1
      have HQ4 := Lib.hid q4
      have HLT := Lib.hid hlt
      have HFT := Lib.hid (allP_take hx)
      clear h3 hx hk k1 hr ho hb q1 q2 q3 q4 hbn hbd hlt
      go_wp2_with fail
      refine wp_region_held_drew (S := fun W => W.cell? ⟨wr.heap.size, 0, none⟩ = some (.int .i64 x) ∧ W.cell? ⟨wr.heap.size, 1, none⟩ = some (.int .i64 y)) (by kernel_rfl) (HCC.out _ (Below.refl _ _)) (fun hHeld => ?_)
      clear c0 c1 c0' c1' k0 k1'
      refine wpAnyH_take (i := 0) (oi := { dst := some 12, op := Op.move (Operand.tmp 3), type := 26, pos := "ref.go:10", after := #[], guard := none }) (v := ?vv1) rfl (by kernel_rfl) (by kernel_rfl) (by kernel_rfl) (fun _ _ _ h => h) ?hy1 (by assumption) ?rest1
      case hy1 => (refine Or.inl ⟨by rfl, ?_⟩; intro W hSw; (try dsimp only at hSw); go_simp; (try with_reducible rfl))
      try simp only [Act.put, List.setIfInBounds_toArray, List.set_cons_zero, List.set_cons_succ]
      refine wpAnyH_take (i := 1) (oi := { dst := some 13, op := Op.fieldAddr 40 (Operand.tmp 5) 0, type := 0, pos := "ref.go:10", after := #[], guard := none }) (v := ?vv2) rfl (by kernel_rfl) (by kernel_rfl) (by kernel_rfl) (fun _ _ _ h => h) ?hy2 (by assumption) ?rest2
      case hy2 => (refine Or.inl ⟨by rfl, ?_⟩; intro W hSw; (try dsimp only at hSw); go_simp; (try with_reducible rfl))
      try simp only [Act.put, List.setIfInBounds_toArray, List.set_cons_zero, List.set_cons_succ]
      refine wpAnyH_take (i := 2) (oi := { dst := some 14, op := Op.load 3 (Operand.tmp 13), type := 3, pos := "ref.go:10", after := #[{ on := 1, ground := Ground.data }], guard := none }) (v := ?vv3) rfl (by kernel_rfl) (by kernel_rfl) (by kernel_rfl) (fun _ _ _ h => h) ?hy3 (by assumption) ?rest3
      case hy3 => (refine Or.inl ⟨by rfl, ?_⟩; intro W hSw; (try dsimp only at hSw); go_simp; (try with_reducible rfl))
      try simp only [Act.put, List.setIfInBounds_toArray, List.set_cons_zero, List.set_cons_succ]
      refine wpAnyH_take (i := 4) (oi := { dst := some 16, op := Op.fieldAddr 40 (Operand.tmp 5) 1, type := 0, pos := "ref.go:10", after := #[], guard := none }) (v := ?vv4) rfl (by kernel_rfl) (by kernel_rfl) (by kernel_rfl) (fun _ _ _ h => h) ?hy4 (by assumption) ?rest4
      case hy4 => (refine Or.inl ⟨by rfl, ?_⟩; intro W hSw; (try dsimp only at hSw); go_simp; (try with_reducible rfl))
      try simp only [Act.put, List.setIfInBounds_toArray, List.set_cons_zero, List.set_cons_succ]
      refine wpAnyH_take (i := 5) (oi := { dst := some 17, op := Op.load 3 (Operand.tmp 16), type := 3, pos := "ref.go:10", after := #[{ on := 4, ground := Ground.data }], guard := none }) (v := ?vv5) rfl (by kernel_rfl) (by kernel_rfl) (by kernel_rfl) (fun _ _ _ h => h) ?hy5 (by assumption) ?rest5
      case hy5 => (refine Or.inl ⟨by rfl, ?_⟩; intro W hSw; (try dsimp only at hSw); go_simp; (try with_reducible rfl))
      try simp only [Act.put, List.setIfInBounds_toArray, List.set_cons_zero, List.set_cons_succ]
      refine wpAnyH_ready (rs := [3]) (by kernel_rfl) (by simp) ?_
      refine AllReadyH.cons (o := { dst := some 15, op := Op.call { callee := Callee.value (Operand.func 34), args := #[Operand.tmp 12, Operand.tmp 14], argTypes := #[26, 3] }, type := 26, pos := "ref.go:10", after := #[{ on := 0, ground := Ground.data }, { on := 2, ground := Ground.data }], guard := none }) rfl (fun K hK => ?step6) ?more6
      case more6 => exact AllReadyH.nil
      ((go_simp; go_at_call 34; refine (HI1.out).mono ?_; rintro e w2 ⟨v2, rfl, hv2, ho2, hb2⟩; go_wp2_with fail))
      refine hK.out _ _ ?hS6 (fun hHeld => ?rr6)
      case hS6 => (exact HCC.out _ hb2)
      clear hK K
      try simp only [Act.put, List.setIfInBounds_toArray, List.set_cons_zero, List.set_cons_succ]
      have HI2 := Lib.hid (into_any (n := y) hv2 (by have := intoP_len x HQ1.out; have := HQ4.out; omega))
      have HB2 := Lib.hid hb2
      have HV2 := Lib.hid hv2
      clear hv2 ho2 hb2
      refine wpAnyH_ready (rs := [6]) (by kernel_rfl) (by simp) ?_
      refine AllReadyH.cons (o := { dst := some 18, op := Op.call { callee := Callee.value (Operand.func 34), args := #[Operand.tmp 15, Operand.tmp 17], argTypes := #[26, 3] }, type := 26, pos := "ref.go:10", after := #[{ on := 3, ground := Ground.data }, { on := 5, ground := Ground.data }, { on := 3, ground := Ground.chain }], guard := none }) rfl (fun K hK => ?step7) ?more7
      case more7 => exact AllReadyH.nil
      ((go_simp; go_at_call 34; refine (HI2.out).mono ?_; rintro e w3 ⟨v3, rfl, hv3, ho3, hb3⟩; go_wp2_with fail))
      refine hK.out _ _ ?hS7 (fun hHeld => ?rr7)
      case hS7 => (exact HCC.out _ (HB2.out.trans (hb3.mono HB2.out.size)))
      clear hK K
      try simp only [Act.put, List.setIfInBounds_toArray, List.set_cons_zero, List.set_cons_succ]
      refine wpAnyH_take (i := 7) (oi := { dst := some 3, op := Op.assign (Operand.tmp 18), type := 26, pos := "ref.go:10", after := #[{ on := 6, ground := Ground.data }, { on := 6, ground := Ground.chain }, { on := 0, ground := Ground.phase }, { on := 1, ground := Ground.phase }, { on := 2, ground := Ground.phase }, { on := 3, ground := Ground.phase }, { on := 4, ground := Ground.phase }, { on := 5, ground := Ground.phase }, { on := 6, ground := Ground.phase }], guard := none }) (v := ?vv8) rfl (by kernel_rfl) (by kernel_rfl) (by kernel_rfl) (fun _ _ _ h => h) ?hy8 (by assumption) ?rest8
      case hy8 => (refine Or.inl ⟨by rfl, ?_⟩; intro W hSw; (try dsimp only at hSw); go_simp; (try with_reducible rfl))
      try simp only [Act.put, List.setIfInBounds_toArray, List.set_cons_zero, List.set_cons_succ]
      refine wpAnyH_done (by kernel_rfl) ?_ _
      have HB3 : Hid (Below w.heap.size w w3) := Lib.hid ((HBD.out.trans (HB2.out.mono HBD.out.size)).trans (hb3.mono (Nat.le_trans HBD.out.size HB2.out.size)))
      have HV3 := Lib.hid hv3
      have HO3 : Hid (∀ b, v3.ownBlock = some b → w.heap.size ≤ b) := Lib.hid (fun b e => by have := ho3 b e; have := HB2.out.size; have := HBD.out.size; omega)
      clear hv3 ho3 hb3 HI1 HI2
      go_wp2_with fail
      go_roundw
      case rel => exact ⟨k + 1, HLT.out, by go_num, by rw [HFT.out]; exact HV3.out, HO3.out, HB3.out⟩
      case measure => have := HLT.out; simp [intOf]; omega
    · obtain rfl : k = l.length := by omega
      rw [List.take_length] at HR
      clear hlt hk hr ho hb
      go_wp2_with fail
      go_ret
      exact ⟨_, rfl, HR.out, HO.out, HB.out⟩
end Go.Proofs.Ytmpjimoefjcmhaa
