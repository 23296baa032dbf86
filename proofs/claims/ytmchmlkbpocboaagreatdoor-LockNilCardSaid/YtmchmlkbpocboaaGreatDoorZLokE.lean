/- lock: check, busy. -/
import Derived.Test.YtmchmlkbpocboaaGreatDoorZLokD
import Derived.Test.YtmchmlkbpocboaaGreatDoorZEoD
set_option linter.unusedSimpArgs false
set_option linter.unusedVariables false
set_option linter.unnecessarySimpa false
namespace Go.Proofs.YtmchmlkbpocboaaGreatDoor
open Go.RowKit

/-- An error of a code. -/
def ErrK (code : Int) (w : World) (e : Ending) (w' : World) : Prop := ∃ (t : TypeId) (u : Value) (c : List Lk), e = .returned (.iface t u) ∧ ErrIs w' c (.iface t u) ∧ NumOk c ∧ c.length < 1000 ∧ codeOf c = code ∧ Below w.heap.size w w'
theorem errk_of {code : Int} {k : Lk} {w : World} {e : Ending} {w' : World} (hk : ∀ x, k ≠ .num x) (hkn : k.isNum = false) (h0 : code ≠ 0) (h : MadePost (onto k [.num code]) w e w') : ErrK code w e w' := by
  obtain ⟨v, rfl, he, hb⟩ := h
  obtain ⟨t, u, rfl⟩ := he.form1
  refine ⟨t, u, _, rfl, he, fun x hx => ?_, by simp [onto], ?_, hb⟩
  · rcases List.mem_cons.1 hx with e | e
    · exact absurd e.symm (hk x)
    · rw [List.mem_singleton] at e
      injection e with e
      rw [e]
      exact h0
  · cases k with
    | num x => exact absurd rfl (hk x)
    | _ => rfl
theorem errk_num {code : Int} (w : World) : ErrIs w [.num code] (.iface 121 (.agg #[.int .i64 code])) := ⟨rfl, rfl⟩
set_option maxRecDepth 100000 in
set_option maxHeartbeats 1000000 in
theorem busy_any {w : World} (s : ByteArray) (m : Bool) : Calls Tryz.prog 77 #[.agg #[.string s, .bool m]] w (ErrK 20 w) := by
  have hb1 := below_new (w := w) (.cells #[.string s, .bool m] 43)
  have hx1 := alloc_at w (.cells #[.string s, .bool m] 43)
  obtain ⟨w1, hw1⟩ : ∃ w1, w1 = w.alloc (.cells #[.string s, .bool m] 43) := ⟨_, rfl⟩
  rw [← hw1] at hb1 hx1
  have HW1 := Lib.hid hw1
  have HB1 := Lib.hid hb1
  have HS : Hid (w1.drew.cell? ⟨w.heap.size, 0, none⟩ = some (.string s)) := Lib.hid (cell_of hx1 0)
  have HX1 := Lib.hid hx1
  clear hb1 hx1 hw1
  go_enter Tryz.func77, Tryz.ntmps77
  go_wp2_with fail
  rw [← HW1.out]
  refine wp_region_held_drew (S := fun W => W.cell? ⟨w.heap.size, 0, none⟩ = some (.string s)) (by kernel_rfl) HS.out (fun hHeld => ?_)
  refine wpAnyH_take (i := 0) (oi := { dst := some 3, op := Op.fieldAddr 43 (Operand.tmp 1) 0, type := 0, pos := "lock.go:126", after := #[], guard := none }) (v := ?vv1) rfl (by kernel_rfl) (by kernel_rfl) (by kernel_rfl) (fun _ _ _ h => h) ?hy1 (by assumption) ?rest1
  case hy1 => (refine Or.inl ⟨by rfl, ?_⟩; intro W hSw; (try dsimp only at hSw); go_simp; (try with_reducible rfl))
  try simp only [Act.put, List.setIfInBounds_toArray, List.set_cons_zero, List.set_cons_succ]
  refine wpAnyH_take (i := 1) (oi := { dst := some 4, op := Op.load 9 (Operand.tmp 3), type := 9, pos := "lock.go:126", after := #[{ on := 0, ground := Ground.data }], guard := none }) (v := ?vv2) rfl (by kernel_rfl) (by kernel_rfl) (by kernel_rfl) (fun _ _ _ h => h) ?hy2 (by assumption) ?rest2
  case hy2 => (refine Or.inl ⟨by rfl, ?_⟩; intro W hSw; (try dsimp only at hSw); go_simp; (try with_reducible rfl))
  try simp only [Act.put, List.setIfInBounds_toArray, List.set_cons_zero, List.set_cons_succ]
  refine wpAnyH_ready (rs := [2]) (by kernel_rfl) (by simp) ?_
  refine AllReadyH.cons (o := { dst := some 5, op := Op.call { callee := Callee.value (Operand.func 103), args := #[Operand.const (Value.int IntKind.i64 20)], argTypes := #[55] }, type := 98, pos := "lock.go:126", after := #[], guard := none }) rfl (fun K hK => ?step3) ?more3
  case more3 => exact AllReadyH.nil
  ((go_simp; go_at_call 103; refine (new_num 20 (by decide) _).mono ?_; rintro e w2 ⟨rfl, rfl⟩; go_wp2_with fail))
  refine hK.out _ _ ?hS3 (fun hHeld => ?rr3)
  case hS3 => (exact HS.out)
  clear hK K
  try simp only [Act.put, List.setIfInBounds_toArray, List.set_cons_zero, List.set_cons_succ]
  refine wpAnyH_ready (rs := [3]) (by kernel_rfl) (by simp) ?_
  refine AllReadyH.cons (o := { dst := some 6, op := Op.call { callee := Callee.value (Operand.func 104), args := #[Operand.tmp 4, Operand.tmp 5], argTypes := #[9, 98] }, type := 98, pos := "lock.go:126", after := #[{ on := 1, ground := Ground.data }, { on := 2, ground := Ground.data }, { on := 2, ground := Ground.chain }], guard := none }) rfl (fun K hK => ?step4) ?more4
  case more4 => exact AllReadyH.nil
  ((go_simp; go_at_call 104; refine (in_any s (errk_num w1.drew)).mono ?_; intro e w2 hm; obtain ⟨t, u, c, rfl, e1, e2, e3, e4, hb2⟩ := errk_of (code := 20) (by intro x h; cases h) rfl (by decide) hm; go_wp2_with fail))
  refine hK.out _ _ ?hS4 (fun hHeld => ?rr4)
  case hS4 => (exact cell_of ((hb2.block _ (heap_lt HX1.out)).trans HX1.out) 0)
  clear hK K
  try simp only [Act.put, List.setIfInBounds_toArray, List.set_cons_zero, List.set_cons_succ]
  refine wpAnyH_take (i := 4) (oi := { dst := some 2, op := Op.assign (Operand.tmp 6), type := 98, pos := "lock.go:126", after := #[{ on := 3, ground := Ground.data }, { on := 3, ground := Ground.chain }, { on := 0, ground := Ground.phase }, { on := 1, ground := Ground.phase }, { on := 2, ground := Ground.phase }, { on := 3, ground := Ground.phase }], guard := none }) (v := ?vv5) rfl (by kernel_rfl) (by kernel_rfl) (by kernel_rfl) (fun _ _ _ h => h) ?hy5 (by assumption) ?rest5
  case hy5 => (refine Or.inl ⟨by rfl, ?_⟩; intro W hSw; (try dsimp only at hSw); go_simp; (try with_reducible rfl))
  try simp only [Act.put, List.setIfInBounds_toArray, List.set_cons_zero, List.set_cons_succ]
  refine wpAnyH_done (by kernel_rfl) ?_ _
  have HE := Lib.hid (And.intro e1 (And.intro e2 (And.intro e3 e4)))
  have HB2 := Lib.hid (HB1.out.trans ((below_of_drew hb2).mono HB1.out.size))
  clear hHeld HS e1 e2 e3 e4 hb2 hm
  go_wp2_with fail
  refine bodyPost_ret (v := .iface t u) (by simp [results, Tryz.results77, go_sem]) rfl ⟨t, u, c, rfl, HE.out.1, HE.out.2.1, HE.out.2.2.1, HE.out.2.2.2, HB2.out⟩
def CheckP (who : Int) (s : ByteArray) (w : World) (e : Ending) (w' : World) : Prop := ((who < 1 ∨ 1073741824 < who ∨ 16 < s.size) ∧ ErrK 2 w e w') ∨ (¬ (who < 1 ∨ 1073741824 < who ∨ 16 < s.size) ∧ e = .returned .nilIface ∧ w = w')
set_option maxRecDepth 100000 in
set_option maxHeartbeats 1000000 in
theorem check_any {w : World} (who : Int) (s : ByteArray) (hw : InR64 who) (hs : s.size ≤ maxLen) : Calls Tryz.prog 73 #[.int .i64 who, .string s] w (CheckP who s w) := by
  unfold maxLen at hs
  have HB := Lib.hid (fun (g l : Int) => bound_any (w := w) l g (errk_num (code := 2) w))
  by_cases h1 : who < 1
  · go_enter Tryz.func73, Tryz.ntmps73
    go_wp2_with fail
    refine (new_num 2 (by decide) _).mono ?_
    rintro e w2 ⟨rfl, rfl⟩
    go_wp2_with fail
    refine (HB.out who 1073741824).mono ?_
    intro e w2 hm
    obtain ⟨t, u, c, rfl, e1⟩ := errk_of (code := 2) (by intro x h; cases h) rfl (by decide) hm
    have HE := Lib.hid e1
    have H1 := Lib.hid h1
    clear e1 hm h1
    go_wp2_with fail
    refine bodyPost_ret (v := .iface t u) (by simp [results, Tryz.results73, go_sem]) rfl (.inl ⟨.inl H1.out, t, u, c, rfl, HE.out⟩)
  · by_cases h2 : 1073741824 < who
    · go_enter Tryz.func73, Tryz.ntmps73
      go_wp2_with fail
      refine (new_num 2 (by decide) _).mono ?_
      rintro e w2 ⟨rfl, rfl⟩
      go_wp2_with fail
      refine (HB.out who 1073741824).mono ?_
      intro e w2 hm
      obtain ⟨t, u, c, rfl, e1⟩ := errk_of (code := 2) (by intro x h; cases h) rfl (by decide) hm
      have HE := Lib.hid e1
      have H1 := Lib.hid h2
      clear e1 hm h1 h2
      go_wp2_with fail
      refine bodyPost_ret (v := .iface t u) (by simp [results, Tryz.results73, go_sem]) rfl (.inl ⟨.inr (.inl H1.out), t, u, c, rfl, HE.out⟩)
    · by_cases h3 : 16 < s.size
      · have h3I : (16 : Int) < (s.size : Int) := by omega
        go_enter Tryz.func73, Tryz.ntmps73
        go_wp2_with fail
        refine (new_num 2 (by decide) _).mono ?_
        rintro e w2 ⟨rfl, rfl⟩
        go_wp2_with fail
        refine (HB.out _ 16).mono ?_
        intro e w2 hm
        obtain ⟨t, u, c, rfl, e1⟩ := errk_of (code := 2) (by intro x h; cases h) rfl (by decide) hm
        have HE := Lib.hid e1
        have H1 := Lib.hid h3
        clear e1 hm h1 h2 h3
        go_wp2_with fail
        refine bodyPost_ret (v := .iface t u) (by simp [results, Tryz.results73, go_sem]) rfl (.inl ⟨.inr (.inr H1.out), t, u, c, rfl, HE.out⟩)
      · have h3I : ¬ (16 : Int) < (s.size : Int) := by omega
        go_enter Tryz.func73, Tryz.ntmps73
        go_wp2_with fail
        refine bodyPost_ret (v := .nilIface) (by simp [results, Tryz.results73, go_sem]) rfl (.inr ⟨fun h => by omega, rfl, rfl⟩)
end Go.Proofs.YtmchmlkbpocboaaGreatDoor
