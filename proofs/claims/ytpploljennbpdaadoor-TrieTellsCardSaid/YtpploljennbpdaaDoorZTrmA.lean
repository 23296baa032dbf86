/- trie, the document's own tree in memory: Meet, Prefers (gentrma.py wrote it). -/
import Derived.Test.YtpploljennbpdaaDoorZTrkC
set_option linter.unusedSimpArgs false
set_option linter.unusedVariables false
set_option linter.unnecessarySimpa false
namespace Go.Proofs.YtpploljennbpdaaDoor
open Go.RowKit Go.Shelf

theorem find_hit {α : Type} {f : α → Bool} {A : List α} {i : Nat} {n : α} (hx : A[i]? = some n) (hn : f n = true) (hno : ∀ m ∈ A.take i, f m = false) : A.find? f = some n := by
  have hl := (List.getElem?_eq_some_iff.1 hx).1
  rw [← List.take_append_drop i A, List.find?_append, List.find?_eq_none.2 (fun m hm => by rw [hno m hm]; simp)]
  have hd : A.drop i = n :: A.drop (i + 1) := by
    rw [List.drop_eq_getElem_cons hl]
    congr 1
    exact (List.getElem?_eq_some_iff.1 hx).2
  rw [hd, List.find?_cons, hn]
  rfl
theorem firstI_hit {A B : List Nat} {i n : Nat} (hx : A[i]? = some n) (hn : n ∈ B) (hno : ∀ m ∈ A.take i, m ∉ B) : firstI A B = (n : Int) := by
  unfold firstI
  rw [find_hit (f := fun n => B.contains n) hx (by simp [hn]) (fun m hm => by simp [hno m hm])]
theorem firstI_none {A B : List Nat} (hno : ∀ m ∈ A, m ∉ B) : firstI A B = -1 := by
  unfold firstI
  rw [List.find?_eq_none.2 (fun m hm => by simp [hno m hm])]
theorem firstB_hit {O : List Nat} {a b i n : Nat} (hx : O[i]? = some n) (hn : (n == a || n == b) = true) (hno : ∀ m ∈ O.take i, (m == a || m == b) = false) : firstB O a b = (n == a) := by
  unfold firstB
  rw [find_hit (f := fun n => n == a || n == b) hx hn hno]
theorem firstB_none {O : List Nat} {a b : Nat} (hno : ∀ m ∈ O, (m == a || m == b) = false) : firstB O a b = false := by
  unfold firstB
  rw [List.find?_eq_none.2 (fun m hm => by rw [hno m hm]; simp)]
theorem above_few {P : List Pth} (hT : TreeP P) (m : Int) : (aboveI P m).length ≤ 9 := by
  unfold aboveI
  split
  · rename_i h
    have hn : P[m.toNat]? = some (P[m.toNat]'(by omega)) := List.getElem?_eq_getElem _
    rw [above_len hn]
    have := hT.len hn
    omega
  · simp
set_option maxRecDepth 100000 in
set_option maxHeartbeats 4000000 in
theorem RMeet_any {w : World} {v : Value} {P : List Pth} (a b : Int) (h : RTr w v P) : Calls Tryd.prog 21 #[.agg #[v], .int .i64 a, .int .i64 b] w fun e w' => e = .returned (.int .i64 (meetI P a b)) ∧ Below w.heap.size w w' := by
  obtain ⟨A, cap, rfl, h1, h2⟩ := h.row.form
  unfold maxLen at h2
  have hPI : (P.length : Int) ≤ 900 := by have := h.few; omega
  have hb0 := below_new (w := w) (.cells #[.slice A P.length cap] 32)
  have hbx := alloc_at w (.cells #[.slice A P.length cap] 32)
  obtain ⟨w1, hw1⟩ : ∃ w1, w1 = w.alloc (.cells #[.slice A P.length cap] 32) := ⟨_, rfl⟩
  rw [← hw1] at hb0 hbx
  have HW1 := Lib.hid hw1
  have HB0 := Lib.hid hb0
  have HBX := Lib.hid hbx
  have HAA := Lib.hid (RAbove_any a (h.below hb0))
  have HAB := Lib.hid (fun W (hW : Below w1.heap.size w1 W) => RAbove_any b ((h.below hb0).below hW))
  have q1 := cell_of hbx 0
  obtain ⟨X, hX⟩ : ∃ X, aboveI P a = X := ⟨_, rfl⟩
  obtain ⟨Y, hY⟩ : ∃ Y, aboveI P b = Y := ⟨_, rfl⟩
  have hxl := above_few h.tree a
  have hyl := above_few h.tree b
  obtain ⟨z, hz⟩ : ∃ z, meetI P a b = z := ⟨_, rfl⟩
  have hme : firstI X Y = z := by rw [← hX, ← hY, ← hz]; rfl
  rw [hX] at HAA hxl
  rw [hY] at HAB hyl
  rw [hz]
  have HME := Lib.hid hme
  have hxI : (X.length : Int) ≤ 9 := by omega
  have hyI : (Y.length : Int) ≤ 9 := by omega
  clear h hb0 hbx hw1 hX hY hz hme hxl hyl
  go_enter Tryd.func21, Tryd.ntmps21
  go_wp2_with fail
  rw [← HW1.out]
  go_wp2_with fail
  refine (HAA.out).mono ?_
  rintro e w2 ⟨xv, rfl, hxr, _, hb2⟩
  have HXR := Lib.hid hxr
  have HB2 := Lib.hid hb2
  obtain ⟨xA, xc, rfl, hx1, hx2, _⟩ := id hxr.form
  unfold maxLen at hx2
  clear hxr hb2 q1
  go_wp2_with fail
  go_loopw [15] (fun iv wr => ∃ i : Nat, i ≤ X.length ∧ iv = .int .i64 i ∧ Below w2.heap.size w2 wr ∧ ∀ m ∈ X.take i, m ∉ Y) (fun iv _ => X.length - (intOf iv).toNat)
  case atStart => exact ⟨0, Nat.zero_le _, rfl, Below.refl _ _, by simp⟩
  case round =>
    obtain ⟨i, hi, rfl, hbw, hno⟩ := hrel
    have HNO := Lib.hid hno
    have HB := Lib.hid hbw
    by_cases hlt : i < X.length
    · have hx : X[i]? = some X[i] := List.getElem?_eq_getElem hlt
      have HTK : Hid (X.take (i + 1) = X.take i ++ [X[i]]) := Lib.hid (List.take_succ_eq_append_getElem hlt)
      generalize X[i] = n at hx HTK
      obtain ⟨_, _, e', _, _, _, _, hxc⟩ := (HXR.out.below hbw).form
      injection e' with e1 e2 e3
      subst e1 e3
      obtain ⟨gx, rfl, kx⟩ := hxc i _ (natI_at hx)
      have hb1w := HB2.out.trans (hbw.mono HB2.out.size)
      have qb := cell_of ((hb1w.block _ (heap_lt HBX.out)).trans HBX.out) 0
      have HABW := Lib.hid (HAB.out wr hb1w)
      have hiI : (i : Int) < (X.length : Int) := by omega
      have HLT := Lib.hid hlt
      have HX := Lib.hid hx
      clear hi hbw hno hlt hx hxc e2 hb1w
      go_wp2_with fail
      refine (HABW.out).mono ?_
      rintro e w3 ⟨yv, rfl, hyr, _, hb3⟩
      have HYR := Lib.hid hyr
      have HB3 := Lib.hid (HB.out.trans (hb3.mono HB.out.size))
      obtain ⟨yA, yc, rfl, hy1, hy2, _⟩ := id hyr.form
      unfold maxLen at hy2
      clear hyr hb3 qb kx
      go_wp2_with fail
      go_loopw [23] (fun jv wr => ∃ j : Nat, j ≤ Y.length ∧ jv = .int .i64 j ∧ w3 = wr ∧ n ∉ Y.take j) (fun jv _ => Y.length - (intOf jv).toNat)
      case atStart => exact ⟨0, Nat.zero_le _, rfl, rfl, by simp⟩
      case round =>
        obtain ⟨j, hj, rfl, rfl, hnj⟩ := hrel
        have HNJ := Lib.hid hnj
        by_cases hjl : j < Y.length
        · have hy : Y[j]? = some Y[j] := List.getElem?_eq_getElem hjl
          have HTJ : Hid (Y.take (j + 1) = Y.take j ++ [Y[j]]) := Lib.hid (List.take_succ_eq_append_getElem hjl)
          generalize Y[j] = m at hy HTJ
          obtain ⟨_, _, e', _, _, _, _, hyc⟩ := HYR.out.form
          injection e' with e1 e2 e3
          subst e1 e3
          obtain ⟨gy, rfl, ky⟩ := hyc j _ (natI_at hy)
          have hjI : (j : Int) < (Y.length : Int) := by omega
          have HJL := Lib.hid hjl
          by_cases hnm : n = m
          · subst hnm
            have hb : ((n : Int) == (n : Int)) = true := beq_self_eq_true _
            have HZ : Hid (z = (n : Int)) := Lib.hid (by rw [← HME.out]; exact firstI_hit HX.out (List.mem_of_getElem? hy) HNO.out)
            clear hj hnj hjl hy hyc e2
            go_wp2_with fail
            refine bodyPost_ret (v := .int .i64 (n : Int)) (by simp [results, Tryd.results21, go_sem]) rfl ⟨by rw [HZ.out], HB0.out.trans ((HB2.out.trans (HB3.out.mono HB2.out.size)).mono HB0.out.size)⟩
          · have hb : ((n : Int) == (m : Int)) = false := by rw [beq_eq_false_iff_ne]; omega
            have HN2 : Hid (n ∉ Y.take (j + 1)) := Lib.hid (by rw [HTJ.out, List.mem_append, List.mem_singleton]; exact fun h => h.elim HNJ.out hnm)
            clear hj hnj hjl hy hyc e2 hnm
            go_wp2_with fail
            go_roundw
            case rel => exact ⟨j + 1, HJL.out, by go_num, by first | rfl | trivial, HN2.out⟩
            case measure => have := HJL.out; simp [intOf]; omega
        · obtain rfl : j = Y.length := by omega
          rw [List.take_length] at hnj
          have HN2 : Hid (∀ m ∈ X.take (i + 1), m ∉ Y) := Lib.hid (fun m hm => by
            rw [HTK.out, List.mem_append, List.mem_singleton] at hm
            rcases hm with hm | rfl
            · exact HNO.out m hm
            · exact hnj)
          have hn2 : ¬ (Y.length : Int) < (Y.length : Int) := by omega
          clear hj hnj hjl
          go_wp2_with fail
          go_roundw
          case rel => exact ⟨i + 1, HLT.out, by go_num, HB3.out, HN2.out⟩
          case measure => have := HLT.out; simp [intOf]; omega
    · obtain rfl : i = X.length := by omega
      rw [List.take_length] at hno
      have HZ : Hid (z = -1) := Lib.hid (by rw [← HME.out]; exact firstI_none hno)
      have hn3 : ¬ (X.length : Int) < (X.length : Int) := by omega
      clear hi hbw hno hlt
      go_wp2_with fail
      refine bodyPost_ret (v := .int .i64 (-1)) (by simp [results, Tryd.results21, go_sem]) rfl ⟨by rw [HZ.out], HB0.out.trans ((HB2.out.trans (HB.out.mono HB2.out.size)).mono HB0.out.size)⟩
theorem pref_out1 {P : List Pth} {a b : Int} (h : inI P a = false) : prefI P a b = false := by unfold prefI; rw [h]; rfl
theorem pref_out2 {P : List Pth} {a b : Int} (h : inI P b = false) : prefI P a b = false := by unfold prefI; rw [h]; simp
theorem in_at {P : List Pth} {a : Int} (h : inI P a = true) : ∃ (n : Nat) (p : Pth), a = (n : Int) ∧ P[n]? = some p := by
  have h2 := of_decide_eq_true h
  refine ⟨a.toNat, P[a.toNat]'(by omega), by omega, List.getElem?_eq_getElem _⟩
theorem pref_two {P : List Pth} (hT : TreeP P) {a b : Nat} {p q : Pth} (ha : P[a]? = some p) (hb : P[b]? = some q) : prefI P (a : Int) (b : Int) = (!beginsB p q && firstB (preP P 0) a b) := by
  rw [pref_nat hT ha hb, pref_ref hT ha hb]
  rfl
set_option maxRecDepth 100000 in
set_option maxHeartbeats 4000000 in
theorem RPrefers_any {w : World} {v : Value} {P : List Pth} (a b : Int) (h : RTr w v P) : Calls Tryd.prog 23 #[.agg #[v], .int .i64 a, .int .i64 b] w fun e w' => e = .returned (.bool (prefI P a b)) ∧ Below w.heap.size w w' := by
  obtain ⟨A, cap, rfl, h1, h2⟩ := h.row.form
  unfold maxLen at h2
  have hP9 : P.length ≤ 1000 := by have := h.few; omega
  have hPI : (P.length : Int) ≤ 900 := by have := h.few; omega
  have hb0 := below_new (w := w) (.cells #[.slice A P.length cap] 32)
  have hbx := alloc_at w (.cells #[.slice A P.length cap] 32)
  obtain ⟨w1, hw1⟩ : ∃ w1, w1 = w.alloc (.cells #[.slice A P.length cap] 32) := ⟨_, rfl⟩
  rw [← hw1] at hb0 hbx
  have HW1 := Lib.hid hw1
  have HB0 := Lib.hid hb0
  have HBX := Lib.hid hbx
  have HH := Lib.hid (h.below hb0)
  have HTA := Lib.hid (fun (W : World) => There_any (w := W) (A := A) (P := P) (cap := cap) a hP9)
  have HTB := Lib.hid (fun (W : World) => There_any (w := W) (A := A) (P := P) (cap := cap) b hP9)
  have HQ : Hid (∀ W, Below w1.heap.size w1 W → W.cell? ⟨w.heap.size, 0, none⟩ = some (.slice A P.length cap)) := Lib.hid (fun W hW => cell_of ((hW.block _ (heap_lt hbx)).trans hbx) 0)
  have HS := Lib.hid (HQ.out _ (below_drew (Below.refl _ w1)))
  clear h hb0 hbx hw1 hP9
  by_cases ha : inI P a = false
  · have HF := Lib.hid (pref_out1 (b := b) ha)
    rw [ha] at HTA
    clear ha
    go_enter Tryd.func23, Tryd.ntmps23
    go_wp2_with fail
    rw [← HW1.out]
    go_wp2_with fail
    refine wp_region_held_drew (S := fun W => W.cell? ⟨w.heap.size, 0, none⟩ = some (.slice A P.length cap)) (by kernel_rfl) HS.out (fun hHeld => ?_)
    refine wpAnyH_take (i := 0) (oi := { dst := some 9, op := Op.load 32 (Operand.tmp 3), type := 32, pos := "ref.go:104", after := #[], guard := none }) (v := ?vv1) rfl (by kernel_rfl) (by kernel_rfl) (by kernel_rfl) (fun _ _ _ h => h) ?hy1 (by assumption) ?rest1
    case hy1 => (refine Or.inl ⟨by rfl, ?_⟩; intro W hSw; (try dsimp only at hSw); go_simp; (try with_reducible rfl))
    try simp only [Act.put, List.setIfInBounds_toArray, List.set_cons_zero, List.set_cons_succ]
    refine wpAnyH_take (i := 1) (oi := { dst := some 10, op := Op.move (Operand.tmp 1), type := 3, pos := "ref.go:104", after := #[], guard := none }) (v := ?vv2) rfl (by kernel_rfl) (by kernel_rfl) (by kernel_rfl) (fun _ _ _ h => h) ?hy2 (by assumption) ?rest2
    case hy2 => (refine Or.inl ⟨by rfl, ?_⟩; intro W hSw; (try dsimp only at hSw); go_simp; (try with_reducible rfl))
    try simp only [Act.put, List.setIfInBounds_toArray, List.set_cons_zero, List.set_cons_succ]
    refine wpAnyH_ready (rs := [2]) (by kernel_rfl) (by simp) ?_
    refine AllReadyH.cons (o := { dst := some 11, op := Op.call { callee := Callee.value (Operand.func 11), args := #[Operand.tmp 9, Operand.tmp 10], argTypes := #[32, 3] }, type := 4, pos := "ref.go:104", after := #[{ on := 0, ground := Ground.data }, { on := 1, ground := Ground.data }], guard := none }) rfl (fun K hK => ?step3) ?more3
    case more3 => exact AllReadyH.nil
    ((go_simp; go_at_call 11; refine (HTA.out _).mono ?_; rintro e w2 ⟨rfl, hb2⟩; go_wp2_with fail))
    refine hK.out _ _ ?hS3 (fun hHeld => ?rr3)
    case hS3 => (exact HQ.out _ (below_of_drew hb2))
    clear hK K
    try simp only [Act.put, List.setIfInBounds_toArray, List.set_cons_zero, List.set_cons_succ]
    have HB2 := Lib.hid (HB0.out.trans ((below_of_drew hb2).mono HB0.out.size))
    refine wpAnyH_take (i := 3) (oi := { dst := some 12, op := Op.unOp UnOp.not 4 (Operand.tmp 11), type := 4, pos := "ref.go:104", after := #[{ on := 2, ground := Ground.data }], guard := none }) (v := (.bool true)) rfl (by kernel_rfl) (by kernel_rfl) (by kernel_rfl) (fun _ _ _ h => h) ?hy4 (by assumption) ?rest4
    case hy4 => ((refine Or.inl ⟨by rfl, ?_⟩; intro W hSw; (try dsimp only at hSw); go_simp; (first | done | with_reducible rfl | simp)))
    try simp only [Act.put, List.setIfInBounds_toArray, List.set_cons_zero, List.set_cons_succ]
    refine wpAnyH_take (i := 4) (oi := { dst := some 13, op := Op.move (Operand.tmp 12), type := 4, pos := "ref.go:104", after := #[{ on := 3, ground := Ground.data }, { on := 2, ground := Ground.chain }], guard := none }) (v := ?vv5) rfl (by kernel_rfl) (by kernel_rfl) (by kernel_rfl) (fun _ _ _ h => h) ?hy5 (by assumption) ?rest5
    case hy5 => (refine Or.inl ⟨by rfl, ?_⟩; intro W hSw; (try dsimp only at hSw); go_simp; (try with_reducible rfl))
    try simp only [Act.put, List.setIfInBounds_toArray, List.set_cons_zero, List.set_cons_succ]
    refine wpAnyH_take (i := 5) (oi := { dst := some 14, op := Op.load 32 (Operand.tmp 3), type := 32, pos := "ref.go:104", after := #[{ on := 4, ground := Ground.guard }], guard := some (4, false) }) (v := undef) rfl (by kernel_rfl) (by kernel_rfl) (by kernel_rfl) (fun _ _ _ h => h) ?hy6 (by assumption) ?rest6
    case hy6 => (exact Or.inr ⟨by rfl, rfl⟩)
    try simp only [Act.put, List.setIfInBounds_toArray, List.set_cons_zero, List.set_cons_succ]
    refine wpAnyH_take (i := 6) (oi := { dst := some 15, op := Op.move (Operand.tmp 2), type := 3, pos := "ref.go:104", after := #[{ on := 4, ground := Ground.guard }], guard := some (4, false) }) (v := undef) rfl (by kernel_rfl) (by kernel_rfl) (by kernel_rfl) (fun _ _ _ h => h) ?hy7 (by assumption) ?rest7
    case hy7 => (exact Or.inr ⟨by rfl, rfl⟩)
    try simp only [Act.put, List.setIfInBounds_toArray, List.set_cons_zero, List.set_cons_succ]
    refine wpAnyH_take (i := 7) (oi := { dst := some 16, op := Op.call { callee := Callee.value (Operand.func 11), args := #[Operand.tmp 14, Operand.tmp 15], argTypes := #[32, 3] }, type := 4, pos := "ref.go:104", after := #[{ on := 5, ground := Ground.data }, { on := 6, ground := Ground.data }, { on := 4, ground := Ground.chain }, { on := 4, ground := Ground.guard }], guard := some (4, false) }) (v := undef) rfl (by kernel_rfl) (by kernel_rfl) (by kernel_rfl) (fun _ _ _ h => h) ?hy8 (by assumption) ?rest8
    case hy8 => (exact Or.inr ⟨by rfl, rfl⟩)
    try simp only [Act.put, List.setIfInBounds_toArray, List.set_cons_zero, List.set_cons_succ]
    refine wpAnyH_take (i := 8) (oi := { dst := some 17, op := Op.unOp UnOp.not 4 (Operand.tmp 16), type := 4, pos := "ref.go:104", after := #[{ on := 7, ground := Ground.data }, { on := 4, ground := Ground.guard }], guard := some (4, false) }) (v := undef) rfl (by kernel_rfl) (by kernel_rfl) (by kernel_rfl) (fun _ _ _ h => h) ?hy9 (by assumption) ?rest9
    case hy9 => (exact Or.inr ⟨by rfl, rfl⟩)
    try simp only [Act.put, List.setIfInBounds_toArray, List.set_cons_zero, List.set_cons_succ]
    refine wpAnyH_take (i := 9) (oi := { dst := some 18, op := Op.pick (Operand.tmp 13) (Operand.const (Value.bool true)) (Operand.tmp 17), type := 4, pos := "ref.go:104", after := #[{ on := 4, ground := Ground.data }, { on := 8, ground := Ground.data }], guard := none }) (v := (.bool true)) rfl (by kernel_rfl) (by kernel_rfl) (by kernel_rfl) (fun _ _ _ h => h) ?hy10 (by assumption) ?rest10
    case hy10 => ((refine Or.inl ⟨by rfl, ?_⟩; intro W hSw; (try dsimp only at hSw); go_simp; (first | done | with_reducible rfl | simp)))
    try simp only [Act.put, List.setIfInBounds_toArray, List.set_cons_zero, List.set_cons_succ]
    refine wpAnyH_take (i := 10) (oi := { dst := some 19, op := Op.move (Operand.tmp 18), type := 4, pos := "ref.go:104", after := #[{ on := 9, ground := Ground.data }, { on := 7, ground := Ground.chain }], guard := none }) (v := ?vv11) rfl (by kernel_rfl) (by kernel_rfl) (by kernel_rfl) (fun _ _ _ h => h) ?hy11 (by assumption) ?rest11
    case hy11 => (refine Or.inl ⟨by rfl, ?_⟩; intro W hSw; (try dsimp only at hSw); go_simp; (try with_reducible rfl))
    try simp only [Act.put, List.setIfInBounds_toArray, List.set_cons_zero, List.set_cons_succ]
    refine wpAnyH_take (i := 11) (oi := { dst := some 20, op := Op.fieldAddr 32 (Operand.tmp 3) 0, type := 0, pos := "ref.go:104", after := #[{ on := 10, ground := Ground.guard }], guard := some (10, false) }) (v := undef) rfl (by kernel_rfl) (by kernel_rfl) (by kernel_rfl) (fun _ _ _ h => h) ?hy12 (by assumption) ?rest12
    case hy12 => (exact Or.inr ⟨by rfl, rfl⟩)
    try simp only [Act.put, List.setIfInBounds_toArray, List.set_cons_zero, List.set_cons_succ]
    refine wpAnyH_take (i := 12) (oi := { dst := some 21, op := Op.load 22 (Operand.tmp 20), type := 22, pos := "ref.go:104", after := #[{ on := 11, ground := Ground.data }, { on := 10, ground := Ground.guard }], guard := some (10, false) }) (v := undef) rfl (by kernel_rfl) (by kernel_rfl) (by kernel_rfl) (fun _ _ _ h => h) ?hy13 (by assumption) ?rest13
    case hy13 => (exact Or.inr ⟨by rfl, rfl⟩)
    try simp only [Act.put, List.setIfInBounds_toArray, List.set_cons_zero, List.set_cons_succ]
    refine wpAnyH_take (i := 13) (oi := { dst := some 22, op := Op.move (Operand.tmp 1), type := 3, pos := "ref.go:104", after := #[{ on := 10, ground := Ground.guard }], guard := some (10, false) }) (v := undef) rfl (by kernel_rfl) (by kernel_rfl) (by kernel_rfl) (fun _ _ _ h => h) ?hy14 (by assumption) ?rest14
    case hy14 => (exact Or.inr ⟨by rfl, rfl⟩)
    try simp only [Act.put, List.setIfInBounds_toArray, List.set_cons_zero, List.set_cons_succ]
    refine wpAnyH_take (i := 14) (oi := { dst := some 23, op := Op.indexAddr 22 (Operand.tmp 21) (Operand.tmp 22), type := 0, pos := "ref.go:104", after := #[{ on := 12, ground := Ground.data }, { on := 13, ground := Ground.data }, { on := 10, ground := Ground.guard }], guard := some (10, false) }) (v := undef) rfl (by kernel_rfl) (by kernel_rfl) (by kernel_rfl) (fun _ _ _ h => h) ?hy15 (by assumption) ?rest15
    case hy15 => (exact Or.inr ⟨by rfl, rfl⟩)
    try simp only [Act.put, List.setIfInBounds_toArray, List.set_cons_zero, List.set_cons_succ]
    refine wpAnyH_take (i := 15) (oi := { dst := some 24, op := Op.load 24 (Operand.tmp 23), type := 24, pos := "ref.go:104", after := #[{ on := 14, ground := Ground.data }, { on := 10, ground := Ground.guard }], guard := some (10, false) }) (v := undef) rfl (by kernel_rfl) (by kernel_rfl) (by kernel_rfl) (fun _ _ _ h => h) ?hy16 (by assumption) ?rest16
    case hy16 => (exact Or.inr ⟨by rfl, rfl⟩)
    try simp only [Act.put, List.setIfInBounds_toArray, List.set_cons_zero, List.set_cons_succ]
    refine wpAnyH_take (i := 16) (oi := { dst := some 25, op := Op.fieldAddr 32 (Operand.tmp 3) 0, type := 0, pos := "ref.go:104", after := #[{ on := 10, ground := Ground.guard }], guard := some (10, false) }) (v := undef) rfl (by kernel_rfl) (by kernel_rfl) (by kernel_rfl) (fun _ _ _ h => h) ?hy17 (by assumption) ?rest17
    case hy17 => (exact Or.inr ⟨by rfl, rfl⟩)
    try simp only [Act.put, List.setIfInBounds_toArray, List.set_cons_zero, List.set_cons_succ]
    refine wpAnyH_take (i := 17) (oi := { dst := some 26, op := Op.load 22 (Operand.tmp 25), type := 22, pos := "ref.go:104", after := #[{ on := 16, ground := Ground.data }, { on := 10, ground := Ground.guard }], guard := some (10, false) }) (v := undef) rfl (by kernel_rfl) (by kernel_rfl) (by kernel_rfl) (fun _ _ _ h => h) ?hy18 (by assumption) ?rest18
    case hy18 => (exact Or.inr ⟨by rfl, rfl⟩)
    try simp only [Act.put, List.setIfInBounds_toArray, List.set_cons_zero, List.set_cons_succ]
    refine wpAnyH_take (i := 18) (oi := { dst := some 27, op := Op.move (Operand.tmp 2), type := 3, pos := "ref.go:104", after := #[{ on := 10, ground := Ground.guard }], guard := some (10, false) }) (v := undef) rfl (by kernel_rfl) (by kernel_rfl) (by kernel_rfl) (fun _ _ _ h => h) ?hy19 (by assumption) ?rest19
    case hy19 => (exact Or.inr ⟨by rfl, rfl⟩)
    try simp only [Act.put, List.setIfInBounds_toArray, List.set_cons_zero, List.set_cons_succ]
    refine wpAnyH_take (i := 19) (oi := { dst := some 28, op := Op.indexAddr 22 (Operand.tmp 26) (Operand.tmp 27), type := 0, pos := "ref.go:104", after := #[{ on := 17, ground := Ground.data }, { on := 18, ground := Ground.data }, { on := 10, ground := Ground.guard }], guard := some (10, false) }) (v := undef) rfl (by kernel_rfl) (by kernel_rfl) (by kernel_rfl) (fun _ _ _ h => h) ?hy20 (by assumption) ?rest20
    case hy20 => (exact Or.inr ⟨by rfl, rfl⟩)
    try simp only [Act.put, List.setIfInBounds_toArray, List.set_cons_zero, List.set_cons_succ]
    refine wpAnyH_take (i := 20) (oi := { dst := some 29, op := Op.load 24 (Operand.tmp 28), type := 24, pos := "ref.go:104", after := #[{ on := 19, ground := Ground.data }, { on := 10, ground := Ground.guard }], guard := some (10, false) }) (v := undef) rfl (by kernel_rfl) (by kernel_rfl) (by kernel_rfl) (fun _ _ _ h => h) ?hy21 (by assumption) ?rest21
    case hy21 => (exact Or.inr ⟨by rfl, rfl⟩)
    try simp only [Act.put, List.setIfInBounds_toArray, List.set_cons_zero, List.set_cons_succ]
    refine wpAnyH_take (i := 21) (oi := { dst := some 30, op := Op.call { callee := Callee.value (Operand.func 26), args := #[Operand.tmp 24, Operand.tmp 29], argTypes := #[24, 24] }, type := 4, pos := "ref.go:104", after := #[{ on := 15, ground := Ground.data }, { on := 20, ground := Ground.data }, { on := 10, ground := Ground.chain }, { on := 10, ground := Ground.guard }], guard := some (10, false) }) (v := undef) rfl (by kernel_rfl) (by kernel_rfl) (by kernel_rfl) (fun _ _ _ h => h) ?hy22 (by assumption) ?rest22
    case hy22 => (exact Or.inr ⟨by rfl, rfl⟩)
    try simp only [Act.put, List.setIfInBounds_toArray, List.set_cons_zero, List.set_cons_succ]
    refine wpAnyH_take (i := 22) (oi := { dst := some 31, op := Op.pick (Operand.tmp 19) (Operand.const (Value.bool true)) (Operand.tmp 30), type := 4, pos := "ref.go:104", after := #[{ on := 10, ground := Ground.data }, { on := 21, ground := Ground.data }], guard := none }) (v := (.bool true)) rfl (by kernel_rfl) (by kernel_rfl) (by kernel_rfl) (fun _ _ _ h => h) ?hy23 (by assumption) ?rest23
    case hy23 => ((refine Or.inl ⟨by rfl, ?_⟩; intro W hSw; (try dsimp only at hSw); go_simp; (first | done | with_reducible rfl | simp)))
    try simp only [Act.put, List.setIfInBounds_toArray, List.set_cons_zero, List.set_cons_succ]
    refine wpAnyH_done (by kernel_rfl) ?_ _
    clear hHeld HS hb2 HQ HTA HTB
    go_wp2_with fail
    refine bodyPost_ret (v := .bool false) (by simp [results, Tryd.results23, go_sem]) rfl ⟨by rw [HF.out], HB2.out⟩
  · have ha : inI P a = true := by simpa using ha
    rw [ha] at HTA
    by_cases hb : inI P b = false
    · have HF := Lib.hid (pref_out2 (a := a) hb)
      rw [hb] at HTB
      clear ha hb
      go_enter Tryd.func23, Tryd.ntmps23
      go_wp2_with fail
      rw [← HW1.out]
      go_wp2_with fail
      refine wp_region_held_drew (S := fun W => W.cell? ⟨w.heap.size, 0, none⟩ = some (.slice A P.length cap)) (by kernel_rfl) HS.out (fun hHeld => ?_)
      refine wpAnyH_take (i := 0) (oi := { dst := some 9, op := Op.load 32 (Operand.tmp 3), type := 32, pos := "ref.go:104", after := #[], guard := none }) (v := ?vv24) rfl (by kernel_rfl) (by kernel_rfl) (by kernel_rfl) (fun _ _ _ h => h) ?hy24 (by assumption) ?rest24
      case hy24 => (refine Or.inl ⟨by rfl, ?_⟩; intro W hSw; (try dsimp only at hSw); go_simp; (try with_reducible rfl))
      try simp only [Act.put, List.setIfInBounds_toArray, List.set_cons_zero, List.set_cons_succ]
      refine wpAnyH_take (i := 1) (oi := { dst := some 10, op := Op.move (Operand.tmp 1), type := 3, pos := "ref.go:104", after := #[], guard := none }) (v := ?vv25) rfl (by kernel_rfl) (by kernel_rfl) (by kernel_rfl) (fun _ _ _ h => h) ?hy25 (by assumption) ?rest25
      case hy25 => (refine Or.inl ⟨by rfl, ?_⟩; intro W hSw; (try dsimp only at hSw); go_simp; (try with_reducible rfl))
      try simp only [Act.put, List.setIfInBounds_toArray, List.set_cons_zero, List.set_cons_succ]
      refine wpAnyH_ready (rs := [2]) (by kernel_rfl) (by simp) ?_
      refine AllReadyH.cons (o := { dst := some 11, op := Op.call { callee := Callee.value (Operand.func 11), args := #[Operand.tmp 9, Operand.tmp 10], argTypes := #[32, 3] }, type := 4, pos := "ref.go:104", after := #[{ on := 0, ground := Ground.data }, { on := 1, ground := Ground.data }], guard := none }) rfl (fun K hK => ?step26) ?more26
      case more26 => exact AllReadyH.nil
      ((go_simp; go_at_call 11; refine (HTA.out _).mono ?_; rintro e w2 ⟨rfl, hb2⟩; go_wp2_with fail))
      refine hK.out _ _ ?hS26 (fun hHeld => ?rr26)
      case hS26 => (exact HQ.out _ (below_of_drew hb2))
      clear hK K
      try simp only [Act.put, List.setIfInBounds_toArray, List.set_cons_zero, List.set_cons_succ]
      have HC2 := Lib.hid (below_of_drew hb2)
      refine wpAnyH_take (i := 3) (oi := { dst := some 12, op := Op.unOp UnOp.not 4 (Operand.tmp 11), type := 4, pos := "ref.go:104", after := #[{ on := 2, ground := Ground.data }], guard := none }) (v := (.bool false)) rfl (by kernel_rfl) (by kernel_rfl) (by kernel_rfl) (fun _ _ _ h => h) ?hy27 (by assumption) ?rest27
      case hy27 => ((refine Or.inl ⟨by rfl, ?_⟩; intro W hSw; (try dsimp only at hSw); go_simp; (first | done | with_reducible rfl | simp)))
      try simp only [Act.put, List.setIfInBounds_toArray, List.set_cons_zero, List.set_cons_succ]
      refine wpAnyH_take (i := 4) (oi := { dst := some 13, op := Op.move (Operand.tmp 12), type := 4, pos := "ref.go:104", after := #[{ on := 3, ground := Ground.data }, { on := 2, ground := Ground.chain }], guard := none }) (v := ?vv28) rfl (by kernel_rfl) (by kernel_rfl) (by kernel_rfl) (fun _ _ _ h => h) ?hy28 (by assumption) ?rest28
      case hy28 => (refine Or.inl ⟨by rfl, ?_⟩; intro W hSw; (try dsimp only at hSw); go_simp; (try with_reducible rfl))
      try simp only [Act.put, List.setIfInBounds_toArray, List.set_cons_zero, List.set_cons_succ]
      refine wpAnyH_take (i := 5) (oi := { dst := some 14, op := Op.load 32 (Operand.tmp 3), type := 32, pos := "ref.go:104", after := #[{ on := 4, ground := Ground.guard }], guard := some (4, false) }) (v := ?vv29) rfl (by kernel_rfl) (by kernel_rfl) (by kernel_rfl) (fun _ _ _ h => h) ?hy29 (by assumption) ?rest29
      case hy29 => (refine Or.inl ⟨by rfl, ?_⟩; intro W hSw; (try dsimp only at hSw); go_simp; (try with_reducible rfl))
      try simp only [Act.put, List.setIfInBounds_toArray, List.set_cons_zero, List.set_cons_succ]
      refine wpAnyH_take (i := 6) (oi := { dst := some 15, op := Op.move (Operand.tmp 2), type := 3, pos := "ref.go:104", after := #[{ on := 4, ground := Ground.guard }], guard := some (4, false) }) (v := ?vv30) rfl (by kernel_rfl) (by kernel_rfl) (by kernel_rfl) (fun _ _ _ h => h) ?hy30 (by assumption) ?rest30
      case hy30 => (refine Or.inl ⟨by rfl, ?_⟩; intro W hSw; (try dsimp only at hSw); go_simp; (try with_reducible rfl))
      try simp only [Act.put, List.setIfInBounds_toArray, List.set_cons_zero, List.set_cons_succ]
      refine wpAnyH_ready (rs := [7]) (by kernel_rfl) (by simp) ?_
      refine AllReadyH.cons (o := { dst := some 16, op := Op.call { callee := Callee.value (Operand.func 11), args := #[Operand.tmp 14, Operand.tmp 15], argTypes := #[32, 3] }, type := 4, pos := "ref.go:104", after := #[{ on := 5, ground := Ground.data }, { on := 6, ground := Ground.data }, { on := 4, ground := Ground.chain }, { on := 4, ground := Ground.guard }], guard := some (4, false) }) rfl (fun K hK => ?step31) ?more31
      case more31 => exact AllReadyH.nil
      ((go_simp; go_at_call 11; refine (HTB.out _).mono ?_; rintro e w3 ⟨rfl, hb3⟩; go_wp2_with fail))
      refine hK.out _ _ ?hS31 (fun hHeld => ?rr31)
      case hS31 => (exact HQ.out _ (HC2.out.trans (hb3.mono HC2.out.size)))
      clear hK K
      try simp only [Act.put, List.setIfInBounds_toArray, List.set_cons_zero, List.set_cons_succ]
      have HB3 := Lib.hid (HB0.out.trans ((HC2.out.trans (hb3.mono HC2.out.size)).mono HB0.out.size))
      refine wpAnyH_take (i := 8) (oi := { dst := some 17, op := Op.unOp UnOp.not 4 (Operand.tmp 16), type := 4, pos := "ref.go:104", after := #[{ on := 7, ground := Ground.data }, { on := 4, ground := Ground.guard }], guard := some (4, false) }) (v := (.bool true)) rfl (by kernel_rfl) (by kernel_rfl) (by kernel_rfl) (fun _ _ _ h => h) ?hy32 (by assumption) ?rest32
      case hy32 => ((refine Or.inl ⟨by rfl, ?_⟩; intro W hSw; (try dsimp only at hSw); go_simp; (first | done | with_reducible rfl | simp)))
      try simp only [Act.put, List.setIfInBounds_toArray, List.set_cons_zero, List.set_cons_succ]
      refine wpAnyH_take (i := 9) (oi := { dst := some 18, op := Op.pick (Operand.tmp 13) (Operand.const (Value.bool true)) (Operand.tmp 17), type := 4, pos := "ref.go:104", after := #[{ on := 4, ground := Ground.data }, { on := 8, ground := Ground.data }], guard := none }) (v := (.bool true)) rfl (by kernel_rfl) (by kernel_rfl) (by kernel_rfl) (fun _ _ _ h => h) ?hy33 (by assumption) ?rest33
      case hy33 => ((refine Or.inl ⟨by rfl, ?_⟩; intro W hSw; (try dsimp only at hSw); go_simp; (first | done | with_reducible rfl | simp)))
      try simp only [Act.put, List.setIfInBounds_toArray, List.set_cons_zero, List.set_cons_succ]
      refine wpAnyH_take (i := 10) (oi := { dst := some 19, op := Op.move (Operand.tmp 18), type := 4, pos := "ref.go:104", after := #[{ on := 9, ground := Ground.data }, { on := 7, ground := Ground.chain }], guard := none }) (v := ?vv34) rfl (by kernel_rfl) (by kernel_rfl) (by kernel_rfl) (fun _ _ _ h => h) ?hy34 (by assumption) ?rest34
      case hy34 => (refine Or.inl ⟨by rfl, ?_⟩; intro W hSw; (try dsimp only at hSw); go_simp; (try with_reducible rfl))
      try simp only [Act.put, List.setIfInBounds_toArray, List.set_cons_zero, List.set_cons_succ]
      refine wpAnyH_take (i := 11) (oi := { dst := some 20, op := Op.fieldAddr 32 (Operand.tmp 3) 0, type := 0, pos := "ref.go:104", after := #[{ on := 10, ground := Ground.guard }], guard := some (10, false) }) (v := undef) rfl (by kernel_rfl) (by kernel_rfl) (by kernel_rfl) (fun _ _ _ h => h) ?hy35 (by assumption) ?rest35
      case hy35 => (exact Or.inr ⟨by rfl, rfl⟩)
      try simp only [Act.put, List.setIfInBounds_toArray, List.set_cons_zero, List.set_cons_succ]
      refine wpAnyH_take (i := 12) (oi := { dst := some 21, op := Op.load 22 (Operand.tmp 20), type := 22, pos := "ref.go:104", after := #[{ on := 11, ground := Ground.data }, { on := 10, ground := Ground.guard }], guard := some (10, false) }) (v := undef) rfl (by kernel_rfl) (by kernel_rfl) (by kernel_rfl) (fun _ _ _ h => h) ?hy36 (by assumption) ?rest36
      case hy36 => (exact Or.inr ⟨by rfl, rfl⟩)
      try simp only [Act.put, List.setIfInBounds_toArray, List.set_cons_zero, List.set_cons_succ]
      refine wpAnyH_take (i := 13) (oi := { dst := some 22, op := Op.move (Operand.tmp 1), type := 3, pos := "ref.go:104", after := #[{ on := 10, ground := Ground.guard }], guard := some (10, false) }) (v := undef) rfl (by kernel_rfl) (by kernel_rfl) (by kernel_rfl) (fun _ _ _ h => h) ?hy37 (by assumption) ?rest37
      case hy37 => (exact Or.inr ⟨by rfl, rfl⟩)
      try simp only [Act.put, List.setIfInBounds_toArray, List.set_cons_zero, List.set_cons_succ]
      refine wpAnyH_take (i := 14) (oi := { dst := some 23, op := Op.indexAddr 22 (Operand.tmp 21) (Operand.tmp 22), type := 0, pos := "ref.go:104", after := #[{ on := 12, ground := Ground.data }, { on := 13, ground := Ground.data }, { on := 10, ground := Ground.guard }], guard := some (10, false) }) (v := undef) rfl (by kernel_rfl) (by kernel_rfl) (by kernel_rfl) (fun _ _ _ h => h) ?hy38 (by assumption) ?rest38
      case hy38 => (exact Or.inr ⟨by rfl, rfl⟩)
      try simp only [Act.put, List.setIfInBounds_toArray, List.set_cons_zero, List.set_cons_succ]
      refine wpAnyH_take (i := 15) (oi := { dst := some 24, op := Op.load 24 (Operand.tmp 23), type := 24, pos := "ref.go:104", after := #[{ on := 14, ground := Ground.data }, { on := 10, ground := Ground.guard }], guard := some (10, false) }) (v := undef) rfl (by kernel_rfl) (by kernel_rfl) (by kernel_rfl) (fun _ _ _ h => h) ?hy39 (by assumption) ?rest39
      case hy39 => (exact Or.inr ⟨by rfl, rfl⟩)
      try simp only [Act.put, List.setIfInBounds_toArray, List.set_cons_zero, List.set_cons_succ]
      refine wpAnyH_take (i := 16) (oi := { dst := some 25, op := Op.fieldAddr 32 (Operand.tmp 3) 0, type := 0, pos := "ref.go:104", after := #[{ on := 10, ground := Ground.guard }], guard := some (10, false) }) (v := undef) rfl (by kernel_rfl) (by kernel_rfl) (by kernel_rfl) (fun _ _ _ h => h) ?hy40 (by assumption) ?rest40
      case hy40 => (exact Or.inr ⟨by rfl, rfl⟩)
      try simp only [Act.put, List.setIfInBounds_toArray, List.set_cons_zero, List.set_cons_succ]
      refine wpAnyH_take (i := 17) (oi := { dst := some 26, op := Op.load 22 (Operand.tmp 25), type := 22, pos := "ref.go:104", after := #[{ on := 16, ground := Ground.data }, { on := 10, ground := Ground.guard }], guard := some (10, false) }) (v := undef) rfl (by kernel_rfl) (by kernel_rfl) (by kernel_rfl) (fun _ _ _ h => h) ?hy41 (by assumption) ?rest41
      case hy41 => (exact Or.inr ⟨by rfl, rfl⟩)
      try simp only [Act.put, List.setIfInBounds_toArray, List.set_cons_zero, List.set_cons_succ]
      refine wpAnyH_take (i := 18) (oi := { dst := some 27, op := Op.move (Operand.tmp 2), type := 3, pos := "ref.go:104", after := #[{ on := 10, ground := Ground.guard }], guard := some (10, false) }) (v := undef) rfl (by kernel_rfl) (by kernel_rfl) (by kernel_rfl) (fun _ _ _ h => h) ?hy42 (by assumption) ?rest42
      case hy42 => (exact Or.inr ⟨by rfl, rfl⟩)
      try simp only [Act.put, List.setIfInBounds_toArray, List.set_cons_zero, List.set_cons_succ]
      refine wpAnyH_take (i := 19) (oi := { dst := some 28, op := Op.indexAddr 22 (Operand.tmp 26) (Operand.tmp 27), type := 0, pos := "ref.go:104", after := #[{ on := 17, ground := Ground.data }, { on := 18, ground := Ground.data }, { on := 10, ground := Ground.guard }], guard := some (10, false) }) (v := undef) rfl (by kernel_rfl) (by kernel_rfl) (by kernel_rfl) (fun _ _ _ h => h) ?hy43 (by assumption) ?rest43
      case hy43 => (exact Or.inr ⟨by rfl, rfl⟩)
      try simp only [Act.put, List.setIfInBounds_toArray, List.set_cons_zero, List.set_cons_succ]
      refine wpAnyH_take (i := 20) (oi := { dst := some 29, op := Op.load 24 (Operand.tmp 28), type := 24, pos := "ref.go:104", after := #[{ on := 19, ground := Ground.data }, { on := 10, ground := Ground.guard }], guard := some (10, false) }) (v := undef) rfl (by kernel_rfl) (by kernel_rfl) (by kernel_rfl) (fun _ _ _ h => h) ?hy44 (by assumption) ?rest44
      case hy44 => (exact Or.inr ⟨by rfl, rfl⟩)
      try simp only [Act.put, List.setIfInBounds_toArray, List.set_cons_zero, List.set_cons_succ]
      refine wpAnyH_take (i := 21) (oi := { dst := some 30, op := Op.call { callee := Callee.value (Operand.func 26), args := #[Operand.tmp 24, Operand.tmp 29], argTypes := #[24, 24] }, type := 4, pos := "ref.go:104", after := #[{ on := 15, ground := Ground.data }, { on := 20, ground := Ground.data }, { on := 10, ground := Ground.chain }, { on := 10, ground := Ground.guard }], guard := some (10, false) }) (v := undef) rfl (by kernel_rfl) (by kernel_rfl) (by kernel_rfl) (fun _ _ _ h => h) ?hy45 (by assumption) ?rest45
      case hy45 => (exact Or.inr ⟨by rfl, rfl⟩)
      try simp only [Act.put, List.setIfInBounds_toArray, List.set_cons_zero, List.set_cons_succ]
      refine wpAnyH_take (i := 22) (oi := { dst := some 31, op := Op.pick (Operand.tmp 19) (Operand.const (Value.bool true)) (Operand.tmp 30), type := 4, pos := "ref.go:104", after := #[{ on := 10, ground := Ground.data }, { on := 21, ground := Ground.data }], guard := none }) (v := (.bool true)) rfl (by kernel_rfl) (by kernel_rfl) (by kernel_rfl) (fun _ _ _ h => h) ?hy46 (by assumption) ?rest46
      case hy46 => ((refine Or.inl ⟨by rfl, ?_⟩; intro W hSw; (try dsimp only at hSw); go_simp; (first | done | with_reducible rfl | simp)))
      try simp only [Act.put, List.setIfInBounds_toArray, List.set_cons_zero, List.set_cons_succ]
      refine wpAnyH_done (by kernel_rfl) ?_ _
      clear hHeld HS hb2 hb3 HQ HTA HTB
      go_wp2_with fail
      refine bodyPost_ret (v := .bool false) (by simp [results, Tryd.results23, go_sem]) rfl ⟨by rw [HF.out], HB3.out⟩
    · have hb : inI P b = true := by simpa using hb
      rw [hb] at HTB
      obtain ⟨x, p, rfl, hx⟩ := in_at ha
      obtain ⟨y, q, rfl, hy⟩ := in_at hb
      have hxI := (in_nat hx).2
      have hyI := (in_nat hy).2
      have hpr := pref_two HH.out.tree hx hy
      obtain ⟨gA, pv, eg, hgb, kp, hsp⟩ := HH.out.row.at hx
      subst eg
      obtain ⟨gA', qv, eg, _, kq, hsq⟩ := HH.out.row.at hy
      injection eg with eg
      subst eg
      obtain ⟨c, hc⟩ : ∃ c, beginsB p q = c := ⟨_, rfl⟩
      have hp8 := HH.out.len hx
      have hq8 := HH.out.len hy
      have HBG : Hid (∀ W, Below w1.heap.size w1 W → Calls Tryd.prog 26 #[pv, qv] W fun e w' => e = .returned (.bool c) ∧ Below W.heap.size W w') := Lib.hid (fun W hW => by
        have := Begins_any (hsp.below hW) (hsq.below hW) (by omega) (by omega)
        rwa [hc] at this)
      rw [hc] at hpr
      have HALL : Hid (∀ W, Below w1.heap.size w1 W → W.cell? ⟨w.heap.size, 0, none⟩ = some (.slice (some gA) P.length cap) ∧ W.cell? (gA.add x) = some pv ∧ W.cell? (gA.add y) = some qv) := Lib.hid (fun W hW => ⟨HQ.out W hW, (hW.cell (p := gA.add x) (by rw [add_block]; exact hgb)).trans kp, (hW.cell (p := gA.add y) (by rw [add_block]; exact hgb)).trans kq⟩)
      have HS2 := Lib.hid (HALL.out _ (below_drew (Below.refl _ w1)))
      have HPR := Lib.hid hpr
      have HBL := Lib.hid (fun W (hW : Below w1.heap.size w1 W) => RBelow_in HH.out.tree 0 [] HH.out.tree.root W _ (HH.out.below hW))
      have hol := pre_len HH.out.tree 0
      obtain ⟨O, hO⟩ : ∃ O, preP P 0 = O := ⟨_, rfl⟩
      rw [hO] at HPR HBL hol
      have hOI : (O.length : Int) ≤ 900 := by omega
      obtain ⟨z, hz⟩ : ∃ z, prefI P (x : Int) (y : Int) = z := ⟨_, rfl⟩
      rw [hz] at HPR ⊢
      obtain ⟨pA, pn, pc, rfl⟩ : ∃ A n c, pv = .slice A n c := by
        obtain ⟨A, c, e, _⟩ := hsp.form
        exact ⟨A, _, c, e⟩
      obtain ⟨qA, qn, qc, rfl⟩ : ∃ A n c, qv = .slice A n c := by
        obtain ⟨A, c, e, _⟩ := hsq.form
        exact ⟨A, _, c, e⟩
      clear ha hb hx hy hpr hgb kp hsp kq hsq hc hp8 hq8 hol hO hz HS
      go_enter Tryd.func23, Tryd.ntmps23
      go_wp2_with fail
      rw [← HW1.out]
      go_wp2_with fail
      refine wp_region_held_drew (S := fun W => W.cell? ⟨w.heap.size, 0, none⟩ = some (.slice (some gA) P.length cap) ∧ W.cell? (gA.add x) = some (.slice pA pn pc) ∧ W.cell? (gA.add y) = some (.slice qA qn qc)) (by kernel_rfl) HS2.out (fun hHeld => ?_)
      refine wpAnyH_take (i := 0) (oi := { dst := some 9, op := Op.load 32 (Operand.tmp 3), type := 32, pos := "ref.go:104", after := #[], guard := none }) (v := ?vv47) rfl (by kernel_rfl) (by kernel_rfl) (by kernel_rfl) (fun _ _ _ h => h) ?hy47 (by assumption) ?rest47
      case hy47 => (refine Or.inl ⟨by rfl, ?_⟩; intro W hSw; (try dsimp only at hSw); go_simp; (try with_reducible rfl))
      try simp only [Act.put, List.setIfInBounds_toArray, List.set_cons_zero, List.set_cons_succ]
      refine wpAnyH_take (i := 1) (oi := { dst := some 10, op := Op.move (Operand.tmp 1), type := 3, pos := "ref.go:104", after := #[], guard := none }) (v := ?vv48) rfl (by kernel_rfl) (by kernel_rfl) (by kernel_rfl) (fun _ _ _ h => h) ?hy48 (by assumption) ?rest48
      case hy48 => (refine Or.inl ⟨by rfl, ?_⟩; intro W hSw; (try dsimp only at hSw); go_simp; (try with_reducible rfl))
      try simp only [Act.put, List.setIfInBounds_toArray, List.set_cons_zero, List.set_cons_succ]
      refine wpAnyH_ready (rs := [2]) (by kernel_rfl) (by simp) ?_
      refine AllReadyH.cons (o := { dst := some 11, op := Op.call { callee := Callee.value (Operand.func 11), args := #[Operand.tmp 9, Operand.tmp 10], argTypes := #[32, 3] }, type := 4, pos := "ref.go:104", after := #[{ on := 0, ground := Ground.data }, { on := 1, ground := Ground.data }], guard := none }) rfl (fun K hK => ?step49) ?more49
      case more49 => exact AllReadyH.nil
      ((go_simp; go_at_call 11; refine (HTA.out _).mono ?_; rintro e w2 ⟨rfl, hb2⟩; go_wp2_with fail))
      refine hK.out _ _ ?hS49 (fun hHeld => ?rr49)
      case hS49 => (exact HALL.out _ (below_of_drew hb2))
      clear hK K
      try simp only [Act.put, List.setIfInBounds_toArray, List.set_cons_zero, List.set_cons_succ]
      have HC2 := Lib.hid (below_of_drew hb2)
      refine wpAnyH_take (i := 3) (oi := { dst := some 12, op := Op.unOp UnOp.not 4 (Operand.tmp 11), type := 4, pos := "ref.go:104", after := #[{ on := 2, ground := Ground.data }], guard := none }) (v := (.bool false)) rfl (by kernel_rfl) (by kernel_rfl) (by kernel_rfl) (fun _ _ _ h => h) ?hy50 (by assumption) ?rest50
      case hy50 => ((refine Or.inl ⟨by rfl, ?_⟩; intro W hSw; (try dsimp only at hSw); go_simp; (first | done | with_reducible rfl | simp)))
      try simp only [Act.put, List.setIfInBounds_toArray, List.set_cons_zero, List.set_cons_succ]
      refine wpAnyH_take (i := 4) (oi := { dst := some 13, op := Op.move (Operand.tmp 12), type := 4, pos := "ref.go:104", after := #[{ on := 3, ground := Ground.data }, { on := 2, ground := Ground.chain }], guard := none }) (v := ?vv51) rfl (by kernel_rfl) (by kernel_rfl) (by kernel_rfl) (fun _ _ _ h => h) ?hy51 (by assumption) ?rest51
      case hy51 => (refine Or.inl ⟨by rfl, ?_⟩; intro W hSw; (try dsimp only at hSw); go_simp; (try with_reducible rfl))
      try simp only [Act.put, List.setIfInBounds_toArray, List.set_cons_zero, List.set_cons_succ]
      refine wpAnyH_take (i := 5) (oi := { dst := some 14, op := Op.load 32 (Operand.tmp 3), type := 32, pos := "ref.go:104", after := #[{ on := 4, ground := Ground.guard }], guard := some (4, false) }) (v := ?vv52) rfl (by kernel_rfl) (by kernel_rfl) (by kernel_rfl) (fun _ _ _ h => h) ?hy52 (by assumption) ?rest52
      case hy52 => (refine Or.inl ⟨by rfl, ?_⟩; intro W hSw; (try dsimp only at hSw); go_simp; (try with_reducible rfl))
      try simp only [Act.put, List.setIfInBounds_toArray, List.set_cons_zero, List.set_cons_succ]
      refine wpAnyH_take (i := 6) (oi := { dst := some 15, op := Op.move (Operand.tmp 2), type := 3, pos := "ref.go:104", after := #[{ on := 4, ground := Ground.guard }], guard := some (4, false) }) (v := ?vv53) rfl (by kernel_rfl) (by kernel_rfl) (by kernel_rfl) (fun _ _ _ h => h) ?hy53 (by assumption) ?rest53
      case hy53 => (refine Or.inl ⟨by rfl, ?_⟩; intro W hSw; (try dsimp only at hSw); go_simp; (try with_reducible rfl))
      try simp only [Act.put, List.setIfInBounds_toArray, List.set_cons_zero, List.set_cons_succ]
      refine wpAnyH_ready (rs := [7]) (by kernel_rfl) (by simp) ?_
      refine AllReadyH.cons (o := { dst := some 16, op := Op.call { callee := Callee.value (Operand.func 11), args := #[Operand.tmp 14, Operand.tmp 15], argTypes := #[32, 3] }, type := 4, pos := "ref.go:104", after := #[{ on := 5, ground := Ground.data }, { on := 6, ground := Ground.data }, { on := 4, ground := Ground.chain }, { on := 4, ground := Ground.guard }], guard := some (4, false) }) rfl (fun K hK => ?step54) ?more54
      case more54 => exact AllReadyH.nil
      ((go_simp; go_at_call 11; refine (HTB.out _).mono ?_; rintro e w3 ⟨rfl, hb3⟩; go_wp2_with fail))
      refine hK.out _ _ ?hS54 (fun hHeld => ?rr54)
      case hS54 => (exact HALL.out _ (HC2.out.trans (hb3.mono HC2.out.size)))
      clear hK K
      try simp only [Act.put, List.setIfInBounds_toArray, List.set_cons_zero, List.set_cons_succ]
      have HC3 := Lib.hid (HC2.out.trans (hb3.mono HC2.out.size))
      refine wpAnyH_take (i := 8) (oi := { dst := some 17, op := Op.unOp UnOp.not 4 (Operand.tmp 16), type := 4, pos := "ref.go:104", after := #[{ on := 7, ground := Ground.data }, { on := 4, ground := Ground.guard }], guard := some (4, false) }) (v := (.bool false)) rfl (by kernel_rfl) (by kernel_rfl) (by kernel_rfl) (fun _ _ _ h => h) ?hy55 (by assumption) ?rest55
      case hy55 => ((refine Or.inl ⟨by rfl, ?_⟩; intro W hSw; (try dsimp only at hSw); go_simp; (first | done | with_reducible rfl | simp)))
      try simp only [Act.put, List.setIfInBounds_toArray, List.set_cons_zero, List.set_cons_succ]
      refine wpAnyH_take (i := 9) (oi := { dst := some 18, op := Op.pick (Operand.tmp 13) (Operand.const (Value.bool true)) (Operand.tmp 17), type := 4, pos := "ref.go:104", after := #[{ on := 4, ground := Ground.data }, { on := 8, ground := Ground.data }], guard := none }) (v := (.bool false)) rfl (by kernel_rfl) (by kernel_rfl) (by kernel_rfl) (fun _ _ _ h => h) ?hy56 (by assumption) ?rest56
      case hy56 => ((refine Or.inl ⟨by rfl, ?_⟩; intro W hSw; (try dsimp only at hSw); go_simp; (first | done | with_reducible rfl | simp)))
      try simp only [Act.put, List.setIfInBounds_toArray, List.set_cons_zero, List.set_cons_succ]
      refine wpAnyH_take (i := 10) (oi := { dst := some 19, op := Op.move (Operand.tmp 18), type := 4, pos := "ref.go:104", after := #[{ on := 9, ground := Ground.data }, { on := 7, ground := Ground.chain }], guard := none }) (v := ?vv57) rfl (by kernel_rfl) (by kernel_rfl) (by kernel_rfl) (fun _ _ _ h => h) ?hy57 (by assumption) ?rest57
      case hy57 => (refine Or.inl ⟨by rfl, ?_⟩; intro W hSw; (try dsimp only at hSw); go_simp; (try with_reducible rfl))
      try simp only [Act.put, List.setIfInBounds_toArray, List.set_cons_zero, List.set_cons_succ]
      refine wpAnyH_take (i := 11) (oi := { dst := some 20, op := Op.fieldAddr 32 (Operand.tmp 3) 0, type := 0, pos := "ref.go:104", after := #[{ on := 10, ground := Ground.guard }], guard := some (10, false) }) (v := ?vv58) rfl (by kernel_rfl) (by kernel_rfl) (by kernel_rfl) (fun _ _ _ h => h) ?hy58 (by assumption) ?rest58
      case hy58 => (refine Or.inl ⟨by rfl, ?_⟩; intro W hSw; (try dsimp only at hSw); go_simp; (try with_reducible rfl))
      try simp only [Act.put, List.setIfInBounds_toArray, List.set_cons_zero, List.set_cons_succ]
      refine wpAnyH_take (i := 12) (oi := { dst := some 21, op := Op.load 22 (Operand.tmp 20), type := 22, pos := "ref.go:104", after := #[{ on := 11, ground := Ground.data }, { on := 10, ground := Ground.guard }], guard := some (10, false) }) (v := ?vv59) rfl (by kernel_rfl) (by kernel_rfl) (by kernel_rfl) (fun _ _ _ h => h) ?hy59 (by assumption) ?rest59
      case hy59 => (refine Or.inl ⟨by rfl, ?_⟩; intro W hSw; (try dsimp only at hSw); go_simp; (try with_reducible rfl))
      try simp only [Act.put, List.setIfInBounds_toArray, List.set_cons_zero, List.set_cons_succ]
      refine wpAnyH_take (i := 13) (oi := { dst := some 22, op := Op.move (Operand.tmp 1), type := 3, pos := "ref.go:104", after := #[{ on := 10, ground := Ground.guard }], guard := some (10, false) }) (v := ?vv60) rfl (by kernel_rfl) (by kernel_rfl) (by kernel_rfl) (fun _ _ _ h => h) ?hy60 (by assumption) ?rest60
      case hy60 => (refine Or.inl ⟨by rfl, ?_⟩; intro W hSw; (try dsimp only at hSw); go_simp; (try with_reducible rfl))
      try simp only [Act.put, List.setIfInBounds_toArray, List.set_cons_zero, List.set_cons_succ]
      refine wpAnyH_take (i := 14) (oi := { dst := some 23, op := Op.indexAddr 22 (Operand.tmp 21) (Operand.tmp 22), type := 0, pos := "ref.go:104", after := #[{ on := 12, ground := Ground.data }, { on := 13, ground := Ground.data }, { on := 10, ground := Ground.guard }], guard := some (10, false) }) (v := ?vv61) rfl (by kernel_rfl) (by kernel_rfl) (by kernel_rfl) (fun _ _ _ h => h) ?hy61 (by assumption) ?rest61
      case hy61 => (refine Or.inl ⟨by rfl, ?_⟩; intro W hSw; (try dsimp only at hSw); go_simp; (try with_reducible rfl))
      try simp only [Act.put, List.setIfInBounds_toArray, List.set_cons_zero, List.set_cons_succ]
      refine wpAnyH_take (i := 15) (oi := { dst := some 24, op := Op.load 24 (Operand.tmp 23), type := 24, pos := "ref.go:104", after := #[{ on := 14, ground := Ground.data }, { on := 10, ground := Ground.guard }], guard := some (10, false) }) (v := ?vv62) rfl (by kernel_rfl) (by kernel_rfl) (by kernel_rfl) (fun _ _ _ h => h) ?hy62 (by assumption) ?rest62
      case hy62 => (refine Or.inl ⟨by rfl, ?_⟩; intro W hSw; (try dsimp only at hSw); go_simp; (try with_reducible rfl))
      try simp only [Act.put, List.setIfInBounds_toArray, List.set_cons_zero, List.set_cons_succ]
      refine wpAnyH_take (i := 16) (oi := { dst := some 25, op := Op.fieldAddr 32 (Operand.tmp 3) 0, type := 0, pos := "ref.go:104", after := #[{ on := 10, ground := Ground.guard }], guard := some (10, false) }) (v := ?vv63) rfl (by kernel_rfl) (by kernel_rfl) (by kernel_rfl) (fun _ _ _ h => h) ?hy63 (by assumption) ?rest63
      case hy63 => (refine Or.inl ⟨by rfl, ?_⟩; intro W hSw; (try dsimp only at hSw); go_simp; (try with_reducible rfl))
      try simp only [Act.put, List.setIfInBounds_toArray, List.set_cons_zero, List.set_cons_succ]
      refine wpAnyH_take (i := 17) (oi := { dst := some 26, op := Op.load 22 (Operand.tmp 25), type := 22, pos := "ref.go:104", after := #[{ on := 16, ground := Ground.data }, { on := 10, ground := Ground.guard }], guard := some (10, false) }) (v := ?vv64) rfl (by kernel_rfl) (by kernel_rfl) (by kernel_rfl) (fun _ _ _ h => h) ?hy64 (by assumption) ?rest64
      case hy64 => (refine Or.inl ⟨by rfl, ?_⟩; intro W hSw; (try dsimp only at hSw); go_simp; (try with_reducible rfl))
      try simp only [Act.put, List.setIfInBounds_toArray, List.set_cons_zero, List.set_cons_succ]
      refine wpAnyH_take (i := 18) (oi := { dst := some 27, op := Op.move (Operand.tmp 2), type := 3, pos := "ref.go:104", after := #[{ on := 10, ground := Ground.guard }], guard := some (10, false) }) (v := ?vv65) rfl (by kernel_rfl) (by kernel_rfl) (by kernel_rfl) (fun _ _ _ h => h) ?hy65 (by assumption) ?rest65
      case hy65 => (refine Or.inl ⟨by rfl, ?_⟩; intro W hSw; (try dsimp only at hSw); go_simp; (try with_reducible rfl))
      try simp only [Act.put, List.setIfInBounds_toArray, List.set_cons_zero, List.set_cons_succ]
      refine wpAnyH_take (i := 19) (oi := { dst := some 28, op := Op.indexAddr 22 (Operand.tmp 26) (Operand.tmp 27), type := 0, pos := "ref.go:104", after := #[{ on := 17, ground := Ground.data }, { on := 18, ground := Ground.data }, { on := 10, ground := Ground.guard }], guard := some (10, false) }) (v := ?vv66) rfl (by kernel_rfl) (by kernel_rfl) (by kernel_rfl) (fun _ _ _ h => h) ?hy66 (by assumption) ?rest66
      case hy66 => (refine Or.inl ⟨by rfl, ?_⟩; intro W hSw; (try dsimp only at hSw); go_simp; (try with_reducible rfl))
      try simp only [Act.put, List.setIfInBounds_toArray, List.set_cons_zero, List.set_cons_succ]
      refine wpAnyH_take (i := 20) (oi := { dst := some 29, op := Op.load 24 (Operand.tmp 28), type := 24, pos := "ref.go:104", after := #[{ on := 19, ground := Ground.data }, { on := 10, ground := Ground.guard }], guard := some (10, false) }) (v := ?vv67) rfl (by kernel_rfl) (by kernel_rfl) (by kernel_rfl) (fun _ _ _ h => h) ?hy67 (by assumption) ?rest67
      case hy67 => (refine Or.inl ⟨by rfl, ?_⟩; intro W hSw; (try dsimp only at hSw); go_simp; (try with_reducible rfl))
      try simp only [Act.put, List.setIfInBounds_toArray, List.set_cons_zero, List.set_cons_succ]
      refine wpAnyH_ready (rs := [21]) (by kernel_rfl) (by simp) ?_
      refine AllReadyH.cons (o := { dst := some 30, op := Op.call { callee := Callee.value (Operand.func 26), args := #[Operand.tmp 24, Operand.tmp 29], argTypes := #[24, 24] }, type := 4, pos := "ref.go:104", after := #[{ on := 15, ground := Ground.data }, { on := 20, ground := Ground.data }, { on := 10, ground := Ground.chain }, { on := 10, ground := Ground.guard }], guard := some (10, false) }) rfl (fun K hK => ?step68) ?more68
      case more68 => exact AllReadyH.nil
      ((go_simp; go_at_call 26; refine (HBG.out _ HC3.out).mono ?_; rintro e w4 ⟨rfl, hb4⟩; go_wp2_with fail))
      refine hK.out _ _ ?hS68 (fun hHeld => ?rr68)
      case hS68 => (exact HALL.out _ (HC3.out.trans (hb4.mono HC3.out.size)))
      clear hK K
      try simp only [Act.put, List.setIfInBounds_toArray, List.set_cons_zero, List.set_cons_succ]
      have HC4 := Lib.hid (HC3.out.trans (hb4.mono HC3.out.size))
      refine wpAnyH_take (i := 22) (oi := { dst := some 31, op := Op.pick (Operand.tmp 19) (Operand.const (Value.bool true)) (Operand.tmp 30), type := 4, pos := "ref.go:104", after := #[{ on := 10, ground := Ground.data }, { on := 21, ground := Ground.data }], guard := none }) (v := (.bool c)) rfl (by kernel_rfl) (by kernel_rfl) (by kernel_rfl) (fun _ _ _ h => h) ?hy69 (by assumption) ?rest69
      case hy69 => ((refine Or.inl ⟨by rfl, ?_⟩; intro W hSw; (try dsimp only at hSw); go_simp; (first | done | with_reducible rfl | simp)))
      try simp only [Act.put, List.setIfInBounds_toArray, List.set_cons_zero, List.set_cons_succ]
      refine wpAnyH_done (by kernel_rfl) ?_ _
      clear hHeld HS2 hb2 hb3 hb4 HTA HTB HBG
      cases c with
      | true =>
        have HZ : Hid (z = false) := Lib.hid HPR.out
        go_wp2_with fail
        refine bodyPost_ret (v := .bool false) (by simp [results, Tryd.results23, go_sem]) rfl ⟨by rw [HZ.out], HB0.out.trans (HC4.out.mono HB0.out.size)⟩
      | false =>
        have HZ : Hid (z = firstB O x y) := Lib.hid (by rw [HPR.out]; rfl)
        have q4 := HQ.out _ HC4.out
        go_wp2_with fail
        refine (HBL.out _ HC4.out).mono ?_
        rintro e w5 ⟨ov, rfl, hor, _, hb5⟩
        have HOR := Lib.hid hor
        have HB5 := Lib.hid (HB0.out.trans ((HC4.out.trans (hb5.mono HC4.out.size)).mono HB0.out.size))
        obtain ⟨oA, oc, rfl, ho1, ho2, _⟩ := id hor.form
        unfold maxLen at ho2
        clear hor hb5 q4
        go_wp2_with fail
        go_loopw [35] (fun iv wr => ∃ i : Nat, i ≤ O.length ∧ iv = .int .i64 i ∧ w5 = wr ∧ ∀ m ∈ O.take i, (m == x || m == y) = false) (fun iv _ => O.length - (intOf iv).toNat)
        case atStart => exact ⟨0, Nat.zero_le _, rfl, rfl, by simp⟩
        case round =>
          obtain ⟨i, hi, rfl, rfl, hno⟩ := hrel
          have HNO := Lib.hid hno
          by_cases hlt : i < O.length
          · have hn : O[i]? = some O[i] := List.getElem?_eq_getElem hlt
            have HTK : Hid (O.take (i + 1) = O.take i ++ [O[i]]) := Lib.hid (List.take_succ_eq_append_getElem hlt)
            generalize O[i] = n at hn HTK
            obtain ⟨_, _, e', _, _, _, _, hoc⟩ := HOR.out.form
            injection e' with e1 e2 e3
            subst e1 e3
            obtain ⟨go, rfl, ko⟩ := hoc i _ (natI_at hn)
            have hiI : (i : Int) < (O.length : Int) := by omega
            have HLT := Lib.hid hlt
            have HN := Lib.hid hn
            clear hi hno hlt hn hoc e2
            by_cases hnx : n = x
            · have hb1 : ((n : Int) == (x : Int)) = true := by rw [beq_iff_eq]; omega
              have HF : Hid (firstB O x y = true) := Lib.hid (by rw [firstB_hit HN.out (by simp [hnx]) HNO.out]; simp [hnx])
              clear hnx
              go_wp2_with fail
              refine bodyPost_ret (v := .bool true) (by simp [results, Tryd.results23, go_sem]) rfl ⟨by rw [HZ.out, HF.out], HB5.out⟩
            · have hb1 : ((n : Int) == (x : Int)) = false := by rw [beq_eq_false_iff_ne]; omega
              by_cases hny : n = y
              · have hb2 : ((n : Int) == (y : Int)) = true := by rw [beq_iff_eq]; omega
                have HF : Hid (firstB O x y = false) := Lib.hid (by rw [firstB_hit HN.out (by simp [hny]) HNO.out, beq_eq_false_iff_ne]; exact hnx)
                clear hnx hny
                go_wp2_with fail
                refine bodyPost_ret (v := .bool false) (by simp [results, Tryd.results23, go_sem]) rfl ⟨by rw [HZ.out, HF.out], HB5.out⟩
              · have hb2 : ((n : Int) == (y : Int)) = false := by rw [beq_eq_false_iff_ne]; omega
                have HN2 : Hid (∀ m ∈ O.take (i + 1), (m == x || m == y) = false) := Lib.hid (fun m hm => by
                  rw [HTK.out, List.mem_append, List.mem_singleton] at hm
                  rcases hm with hm | rfl
                  · exact HNO.out m hm
                  · rw [beq_eq_false_iff_ne.2 hnx, beq_eq_false_iff_ne.2 hny]; rfl)
                clear hnx hny
                go_wp2_with fail
                go_roundw
                case rel => exact ⟨i + 1, HLT.out, by go_num, by first | rfl | trivial, HN2.out⟩
                case measure => have := HLT.out; simp [intOf]; omega
          · obtain rfl : i = O.length := by omega
            rw [List.take_length] at hno
            have HF := Lib.hid (firstB_none hno)
            have hn3 : ¬ (O.length : Int) < (O.length : Int) := by omega
            clear hi hno hlt
            go_wp2_with fail
            refine bodyPost_ret (v := .bool false) (by simp [results, Tryd.results23, go_sem]) rfl ⟨by rw [HZ.out, HF.out], HB5.out⟩
end Go.Proofs.YtpploljennbpdaaDoor
