/- One call of the laws, of program and reference. -/
import Derived.Test.YtmaokoekbjjgfaaDoorZChdG
set_option linter.unusedSimpArgs false
set_option linter.unusedVariables false
set_option linter.unnecessarySimpa false
namespace Go.Proofs.YtmaokoekbjjgfaaDoor
open Go.RowKit Go.Shelf

section
variable {w0 w w' : World} {c r : Nat} {Lc Lr L L1 : List Ver} {k k' : Nat} {bx : List (Nat × Obj)} {t n : Int} {th : Bool}
theorem endsP_len (L : List Ver) (t : Int) (c : Bool) : (endsP L t c).1.length ≤ L.length := by
  unfold endsP
  cases c
  · exact abortP_len L t
  · exact Nat.le_of_eq (commitP_len L t)
theorem Both.read (h : Both w0 w c r Lc Lr k bx) (ht : InR64 t) :
    Calls Tryd.prog 14 #[.pointer (some ⟨c, 0, none⟩), .int .i64 t] w fun e w' => e = .returned (.tuple #[.int .i64 (readP Lc t).2.1, .bool (readP Lc t).2.2.1, .int .i64 (readP Lc t).2.2.2]) ∧ Both w0 w' c r (readP Lc t).1 Lr k bx := by
  refine h.callC (L1 := (readP Lc t).1) (fun v hc => (Read_any hc ht).mono ?_) (Nat.le_refl _) ?_
  · rintro e w' ⟨he, h2, h3⟩
    exact ⟨he, v, h2, h3.mono (fun i _ e => .inr e), .inl rfl⟩
  · obtain ⟨v, _, hc, _⟩ := h.both
    rw [(readP_ris hc.ris).2]
    exact h.lenC
theorem Both.rread (h : Both w0 w c r Lc Lr k bx) (hF : Fine Lr) (hk : k ≤ 1000) :
    Calls Tryd.prog 25 #[.pointer (some ⟨r, 0, none⟩), .int .i64 t] w fun e w' => e = .returned (.tuple #[.int .i64 (readP Lr t).2.1, .bool (readP Lr t).2.2.1, .int .i64 (readP Lr t).2.2.2]) ∧ Both w0 w' c r Lc (readP Lr t).1 k bx := by
  refine h.callR (fun v hr => rread_any hr hF.ris (by have := h.lenR; omega)) ?_
  rw [(readP_ris hF.ris).2]
  exact h.lenR
theorem Both.write (h : Both w0 w c r Lc Lr k bx) (hk : k ≤ 1000) (ht : InR64 t) (hn : InR64 n) :
    Calls Tryd.prog 16 #[.pointer (some ⟨c, 0, none⟩), .int .i64 t, .int .i64 n, .bool th] w fun e w' => e = .returned (.int .i64 (writeP Lc t n th).2) ∧ Both w0 w' c r (writeP Lc t n th).1 Lr (k + 1) bx := by
  refine h.callC (L1 := (writeP Lc t n th).1) (fun v hc => (Write_all hc ht hn (by have := h.lenC; omega)).mono ?_) (Nat.le_succ _) ?_
  · rintro e w' ⟨v', he, h2, h3, h4⟩
    exact ⟨he, v', h2, h3, h4⟩
  · obtain ⟨v, _, hc, _⟩ := h.both
    have := (writeP_ris (t := t) (n := n) (there := th) hc.ris).2
    have := h.lenC
    omega
theorem Both.rwrite (h : Both w0 w c r Lc Lr (k + 1) bx) (hF : Fine Lr) (hk : k ≤ 1000) (hl : Lr.length ≤ k + 1) :
    Calls Tryd.prog 26 #[.pointer (some ⟨r, 0, none⟩), .int .i64 t, .int .i64 n, .bool th] w fun e w' => e = .returned (.int .i64 (writeP Lr t n th).2) ∧ Both w0 w' c r Lc (writeP Lr t n th).1 (k + 1) bx := by
  refine h.callR (fun v hr => rwrite_any hr hF.ris (by omega) hF.opn) ?_
  have := (writeP_ris (t := t) (n := n) (there := th) hF.ris).2
  omega
theorem Both.commit (h : Both w0 w c r Lc Lr k bx) :
    Calls Tryd.prog 18 #[.pointer (some ⟨c, 0, none⟩), .int .i64 t] w fun e w' => e = .returned (.bool (endsP Lc t true).2) ∧ Both w0 w' c r (endsP Lc t true).1 Lr k bx := by
  refine h.callC (L1 := (endsP Lc t true).1) (fun v hc => (Commit_any hc).mono ?_) (Nat.le_refl _) (Nat.le_trans (endsP_len ..) h.lenC)
  rintro e w' ⟨he, h2, h3⟩
  exact ⟨he, v, h2, h3.mono (fun i _ e => .inr e), .inl rfl⟩
theorem Both.abort (h : Both w0 w c r Lc Lr k bx) :
    Calls Tryd.prog 19 #[.pointer (some ⟨c, 0, none⟩), .int .i64 t] w fun e w' => e = .returned (.bool (endsP Lc t false).2) ∧ Both w0 w' c r (endsP Lc t false).1 Lr k bx := by
  refine h.callC (L1 := (endsP Lc t false).1) (fun v hc => (Abort_any hc).mono ?_) (Nat.le_refl _) (Nat.le_trans (endsP_len ..) h.lenC)
  rintro e w' ⟨v', he, h2, h3, h4⟩
  exact ⟨he, v', h2, h3, .inl h4⟩
theorem Both.rends (h : Both w0 w c r Lc Lr k bx) (hF : Fine Lr) (hk : k ≤ 1000) (b : Bool) :
    Calls Tryd.prog 27 #[.pointer (some ⟨r, 0, none⟩), .int .i64 t, .bool b] w fun e w' => e = .returned (.bool (endsP Lr t b).2) ∧ Both w0 w' c r Lc (endsP Lr t b).1 k bx :=
  h.callR (fun v hr => rends_any hr hF.ris (by have := h.lenR; omega)) (Nat.le_trans (endsP_len ..) h.lenR)
theorem Both.prune (h : Both w0 w c r Lc Lr k bx) (hF : Fine Lc) :
    Calls Tryd.prog 21 #[.pointer (some ⟨c, 0, none⟩), .int .i64 t] w fun e w' => e = .returned (.int .i64 ((Lc.length : Int) - ((pruneP Lc t).length : Int))) ∧ Both w0 w' c r (pruneP Lc t) Lr k bx := by
  refine h.callC (L1 := pruneP Lc t) (fun v hc => (Prune_any hc hF.ne).mono ?_) (Nat.le_refl _) (Nat.le_trans (keepV_len ..) h.lenC)
  rintro e w' ⟨v', he, h2, h3, h4⟩
  exact ⟨he, v', h2, h3, .inl h4⟩
theorem Both.rprune (h : Both w0 w c r Lc Lr k bx) (hF : Fine Lr) (hk : k ≤ 1000) :
    Calls Tryd.prog 28 #[.pointer (some ⟨r, 0, none⟩), .int .i64 t] w fun e w' => e = .returned (.int .i64 ((Lr.length : Int) - ((pruneP Lr t).length : Int))) ∧ Both w0 w' c r Lc (pruneP Lr t) k bx :=
  h.callR (fun v hr => rprune_any hr hF.ris hF.pos (by have := h.lenR; omega)) (Nat.le_trans (keepV_len ..) h.lenR)
end
set_option maxRecDepth 100000 in
set_option maxHeartbeats 16000000 in
theorem step_any {w0 w : World} {c r : Nat} {L : List Ver} {k : Nat} {bx : List (Nat × Obj)} {kd t n : Int} {th : Bool} (h : Both w0 w c r L L k bx) (hF : Fine L) (hk : k ≤ 900) (ht : InR64 t) (hn : InR64 n) :
    Calls Tryd.prog 12 #[.pointer (some ⟨c, 0, none⟩), .pointer (some ⟨r, 0, none⟩), .agg #[.int .i64 kd, .int .i64 t, .int .i64 n, .bool th]] w fun e w' => e = .returned (.bool true) ∧ Both w0 w' c r (stepL L kd t n th) (stepL L kd t n th) (k + 1) bx := by
  have HF := Lib.hid hF
  have HBX := Lib.hid (h.boxed (.cells #[.int .i64 kd, .int .i64 t, .int .i64 n, .bool th] 29))
  have HSC : Hid (∀ W Lc Lr K, Both w0 W c r Lc Lr K ((w.heap.size, (.cells #[.int .i64 kd, .int .i64 t, .int .i64 n, .bool th] 29)) :: bx) → W.cell? ⟨w.heap.size, 1, none⟩ = some (.int .i64 t) ∧ W.cell? ⟨w.heap.size, 2, none⟩ = some (.int .i64 n) ∧ W.cell? ⟨w.heap.size, 3, none⟩ = some (.bool th)) := Lib.hid (fun W Lc Lr K hB => by
    have := (hB.box _ (List.mem_cons_self ..)).1
    exact ⟨cell_of this 1, cell_of this 2, cell_of this 3⟩)
  clear h hF
  by_cases q0 : kd = 0 ∨ kd = 1
  · have hk0 := hk
    rcases q0 with rfl | rfl
    · have HST : Hid (stepL L 0 t n th = (readP L t).1) := Lib.hid rfl
      have HR := Lib.hid (HBX.out.read ht)
      clear hk0
      go_enter Tryd.func12, Tryd.ntmps12
      go_wp2_with fail
      refine (HR.out).mono ?_
      rintro e w2 ⟨rfl, hs2⟩
      have hbx := (hs2.box _ (List.mem_cons_self ..)).1
      have b1 := cell_of hbx 1
      simp at b1
      have HRR := Lib.hid (hs2.rread (t := t) HF.out (by omega))
      clear hs2 hbx HR
      go_wp2_with fail
      refine (HRR.out).mono ?_
      rintro e w3 ⟨rfl, hs3⟩
      have HS3 := Lib.hid hs3
      clear hs3 HRR
      obtain ⟨P, hP⟩ : ∃ P, P = readP L t := ⟨_, rfl⟩
      rw [← hP] at HS3 HST ⊢
      have HP := Lib.hid hP
      clear hP
      obtain ⟨P0, P1, P2, P3⟩ := P
      go_wp2_with fail
      go_ret
      rw [HST.out]
      exact ⟨rfl, HS3.out.drop.upto (Nat.le_succ k)⟩
    · have HST : Hid (stepL L 1 t n th = (readP L t).1) := Lib.hid rfl
      have HR := Lib.hid (HBX.out.read ht)
      clear hk0
      go_enter Tryd.func12, Tryd.ntmps12
      go_wp2_with fail
      refine (HR.out).mono ?_
      rintro e w2 ⟨rfl, hs2⟩
      have hbx := (hs2.box _ (List.mem_cons_self ..)).1
      have b1 := cell_of hbx 1
      simp at b1
      have HRR := Lib.hid (hs2.rread (t := t) HF.out (by omega))
      clear hs2 hbx HR
      go_wp2_with fail
      refine (HRR.out).mono ?_
      rintro e w3 ⟨rfl, hs3⟩
      have HS3 := Lib.hid hs3
      clear hs3 HRR
      obtain ⟨P, hP⟩ : ∃ P, P = readP L t := ⟨_, rfl⟩
      rw [← hP] at HS3 HST ⊢
      have HP := Lib.hid hP
      clear hP
      obtain ⟨P0, P1, P2, P3⟩ := P
      go_wp2_with fail
      go_ret
      rw [HST.out]
      exact ⟨rfl, HS3.out.drop.upto (Nat.le_succ k)⟩
  · by_cases q2 : kd = 2 ∨ kd = 3
    · clear q0
      rcases q2 with rfl | rfl
      · have HST : Hid (stepL L 2 t n th = (writeP L t n th).1) := Lib.hid rfl
        go_enter Tryd.func12, Tryd.ntmps12
        go_wp2_with fail
        refine wp_only ?_
        refine wp_region_held_drew (S := fun W => W.cell? ⟨w.heap.size, 1, none⟩ = some (.int .i64 t) ∧ W.cell? ⟨w.heap.size, 2, none⟩ = some (.int .i64 n) ∧ W.cell? ⟨w.heap.size, 3, none⟩ = some (.bool th)) (by kernel_rfl) (HSC.out _ _ _ _ (HBX.out.keep (below_drew (Below.refl _ _)))) (fun hHeld => ?_)
        refine wpAnyH_take (i := 0) (oi := { dst := some 50, op := Op.move (Operand.tmp 0), type := 23, pos := "law.go:57", after := #[], guard := none }) (v := ?vv1) rfl (by kernel_rfl) (by kernel_rfl) (by kernel_rfl) (fun _ _ _ h => h) ?hy1 (by assumption) ?rest1
        case hy1 => (refine Or.inl ⟨by rfl, ?_⟩; intro W hSw; (try dsimp only at hSw); go_simp; (try with_reducible rfl))
        try simp only [Act.put, List.setIfInBounds_toArray, List.set_cons_zero, List.set_cons_succ]
        refine wpAnyH_take (i := 1) (oi := { dst := some 51, op := Op.fieldAddr 29 (Operand.tmp 5) 1, type := 0, pos := "law.go:57", after := #[], guard := none }) (v := ?vv2) rfl (by kernel_rfl) (by kernel_rfl) (by kernel_rfl) (fun _ _ _ h => h) ?hy2 (by assumption) ?rest2
        case hy2 => (refine Or.inl ⟨by rfl, ?_⟩; intro W hSw; (try dsimp only at hSw); go_simp; (try with_reducible rfl))
        try simp only [Act.put, List.setIfInBounds_toArray, List.set_cons_zero, List.set_cons_succ]
        refine wpAnyH_take (i := 2) (oi := { dst := some 52, op := Op.load 3 (Operand.tmp 51), type := 3, pos := "law.go:57", after := #[{ on := 1, ground := Ground.data }], guard := none }) (v := ?vv3) rfl (by kernel_rfl) (by kernel_rfl) (by kernel_rfl) (fun _ _ _ h => h) ?hy3 (by assumption) ?rest3
        case hy3 => (refine Or.inl ⟨by rfl, ?_⟩; intro W hSw; (try dsimp only at hSw); go_simp; (try with_reducible rfl))
        try simp only [Act.put, List.setIfInBounds_toArray, List.set_cons_zero, List.set_cons_succ]
        refine wpAnyH_take (i := 3) (oi := { dst := some 53, op := Op.fieldAddr 29 (Operand.tmp 5) 2, type := 0, pos := "law.go:57", after := #[], guard := none }) (v := ?vv4) rfl (by kernel_rfl) (by kernel_rfl) (by kernel_rfl) (fun _ _ _ h => h) ?hy4 (by assumption) ?rest4
        case hy4 => (refine Or.inl ⟨by rfl, ?_⟩; intro W hSw; (try dsimp only at hSw); go_simp; (try with_reducible rfl))
        try simp only [Act.put, List.setIfInBounds_toArray, List.set_cons_zero, List.set_cons_succ]
        refine wpAnyH_take (i := 4) (oi := { dst := some 54, op := Op.load 2 (Operand.tmp 53), type := 2, pos := "law.go:57", after := #[{ on := 3, ground := Ground.data }], guard := none }) (v := ?vv5) rfl (by kernel_rfl) (by kernel_rfl) (by kernel_rfl) (fun _ _ _ h => h) ?hy5 (by assumption) ?rest5
        case hy5 => (refine Or.inl ⟨by rfl, ?_⟩; intro W hSw; (try dsimp only at hSw); go_simp; (try with_reducible rfl))
        try simp only [Act.put, List.setIfInBounds_toArray, List.set_cons_zero, List.set_cons_succ]
        refine wpAnyH_take (i := 5) (oi := { dst := some 55, op := Op.fieldAddr 29 (Operand.tmp 5) 3, type := 0, pos := "law.go:57", after := #[], guard := none }) (v := ?vv6) rfl (by kernel_rfl) (by kernel_rfl) (by kernel_rfl) (fun _ _ _ h => h) ?hy6 (by assumption) ?rest6
        case hy6 => (refine Or.inl ⟨by rfl, ?_⟩; intro W hSw; (try dsimp only at hSw); go_simp; (try with_reducible rfl))
        try simp only [Act.put, List.setIfInBounds_toArray, List.set_cons_zero, List.set_cons_succ]
        refine wpAnyH_take (i := 6) (oi := { dst := some 56, op := Op.load 4 (Operand.tmp 55), type := 4, pos := "law.go:57", after := #[{ on := 5, ground := Ground.data }], guard := none }) (v := ?vv7) rfl (by kernel_rfl) (by kernel_rfl) (by kernel_rfl) (fun _ _ _ h => h) ?hy7 (by assumption) ?rest7
        case hy7 => (refine Or.inl ⟨by rfl, ?_⟩; intro W hSw; (try dsimp only at hSw); go_simp; (try with_reducible rfl))
        try simp only [Act.put, List.setIfInBounds_toArray, List.set_cons_zero, List.set_cons_succ]
        refine wpAnyH_take (i := 8) (oi := { dst := some 58, op := Op.move (Operand.tmp 1), type := 25, pos := "law.go:57", after := #[], guard := none }) (v := ?vv8) rfl (by kernel_rfl) (by kernel_rfl) (by kernel_rfl) (fun _ _ _ h => h) ?hy8 (by assumption) ?rest8
        case hy8 => (refine Or.inl ⟨by rfl, ?_⟩; intro W hSw; (try dsimp only at hSw); go_simp; (try with_reducible rfl))
        try simp only [Act.put, List.setIfInBounds_toArray, List.set_cons_zero, List.set_cons_succ]
        refine wpAnyH_take (i := 9) (oi := { dst := some 59, op := Op.fieldAddr 29 (Operand.tmp 5) 1, type := 0, pos := "law.go:57", after := #[], guard := none }) (v := ?vv9) rfl (by kernel_rfl) (by kernel_rfl) (by kernel_rfl) (fun _ _ _ h => h) ?hy9 (by assumption) ?rest9
        case hy9 => (refine Or.inl ⟨by rfl, ?_⟩; intro W hSw; (try dsimp only at hSw); go_simp; (try with_reducible rfl))
        try simp only [Act.put, List.setIfInBounds_toArray, List.set_cons_zero, List.set_cons_succ]
        refine wpAnyH_take (i := 10) (oi := { dst := some 60, op := Op.load 3 (Operand.tmp 59), type := 3, pos := "law.go:57", after := #[{ on := 9, ground := Ground.data }], guard := none }) (v := ?vv10) rfl (by kernel_rfl) (by kernel_rfl) (by kernel_rfl) (fun _ _ _ h => h) ?hy10 (by assumption) ?rest10
        case hy10 => (refine Or.inl ⟨by rfl, ?_⟩; intro W hSw; (try dsimp only at hSw); go_simp; (try with_reducible rfl))
        try simp only [Act.put, List.setIfInBounds_toArray, List.set_cons_zero, List.set_cons_succ]
        refine wpAnyH_take (i := 11) (oi := { dst := some 61, op := Op.fieldAddr 29 (Operand.tmp 5) 2, type := 0, pos := "law.go:57", after := #[], guard := none }) (v := ?vv11) rfl (by kernel_rfl) (by kernel_rfl) (by kernel_rfl) (fun _ _ _ h => h) ?hy11 (by assumption) ?rest11
        case hy11 => (refine Or.inl ⟨by rfl, ?_⟩; intro W hSw; (try dsimp only at hSw); go_simp; (try with_reducible rfl))
        try simp only [Act.put, List.setIfInBounds_toArray, List.set_cons_zero, List.set_cons_succ]
        refine wpAnyH_take (i := 12) (oi := { dst := some 62, op := Op.load 2 (Operand.tmp 61), type := 2, pos := "law.go:57", after := #[{ on := 11, ground := Ground.data }], guard := none }) (v := ?vv12) rfl (by kernel_rfl) (by kernel_rfl) (by kernel_rfl) (fun _ _ _ h => h) ?hy12 (by assumption) ?rest12
        case hy12 => (refine Or.inl ⟨by rfl, ?_⟩; intro W hSw; (try dsimp only at hSw); go_simp; (try with_reducible rfl))
        try simp only [Act.put, List.setIfInBounds_toArray, List.set_cons_zero, List.set_cons_succ]
        refine wpAnyH_take (i := 13) (oi := { dst := some 63, op := Op.fieldAddr 29 (Operand.tmp 5) 3, type := 0, pos := "law.go:57", after := #[], guard := none }) (v := ?vv13) rfl (by kernel_rfl) (by kernel_rfl) (by kernel_rfl) (fun _ _ _ h => h) ?hy13 (by assumption) ?rest13
        case hy13 => (refine Or.inl ⟨by rfl, ?_⟩; intro W hSw; (try dsimp only at hSw); go_simp; (try with_reducible rfl))
        try simp only [Act.put, List.setIfInBounds_toArray, List.set_cons_zero, List.set_cons_succ]
        refine wpAnyH_take (i := 14) (oi := { dst := some 64, op := Op.load 4 (Operand.tmp 63), type := 4, pos := "law.go:57", after := #[{ on := 13, ground := Ground.data }], guard := none }) (v := ?vv14) rfl (by kernel_rfl) (by kernel_rfl) (by kernel_rfl) (fun _ _ _ h => h) ?hy14 (by assumption) ?rest14
        case hy14 => (refine Or.inl ⟨by rfl, ?_⟩; intro W hSw; (try dsimp only at hSw); go_simp; (try with_reducible rfl))
        try simp only [Act.put, List.setIfInBounds_toArray, List.set_cons_zero, List.set_cons_succ]
        refine wpAnyH_ready (rs := [7]) (by kernel_rfl) (by simp) ?_
        refine AllReadyH.cons (o := { dst := some 57, op := Op.call { callee := Callee.value (Operand.func 16), args := #[Operand.tmp 50, Operand.tmp 52, Operand.tmp 54, Operand.tmp 56], argTypes := #[23, 3, 2, 4] }, type := 36, pos := "law.go:57", after := #[{ on := 0, ground := Ground.data }, { on := 2, ground := Ground.data }, { on := 4, ground := Ground.data }, { on := 6, ground := Ground.data }], guard := none }) rfl (fun K hK => ?step15) ?more15
        case more15 => exact AllReadyH.nil
        ((go_simp; go_at_call 16; refine ((HBX.out.keep (below_drew (Below.refl _ _))).write (by omega) ht hn).mono ?_; rintro e w2 ⟨rfl, hs2⟩; go_wp2_with fail))
        refine hK.out _ _ ?hS15 (fun hHeld => ?rr15)
        case hS15 => (exact HSC.out _ _ _ _ hs2)
        clear hK K
        try simp only [Act.put, List.setIfInBounds_toArray, List.set_cons_zero, List.set_cons_succ]
        have HS2 := Lib.hid hs2
        clear hs2
        refine wpAnyH_ready (rs := [15]) (by kernel_rfl) (by simp) ?_
        refine AllReadyH.cons (o := { dst := some 65, op := Op.call { callee := Callee.value (Operand.func 26), args := #[Operand.tmp 58, Operand.tmp 60, Operand.tmp 62, Operand.tmp 64], argTypes := #[25, 3, 2, 4] }, type := 36, pos := "law.go:57", after := #[{ on := 8, ground := Ground.data }, { on := 10, ground := Ground.data }, { on := 12, ground := Ground.data }, { on := 14, ground := Ground.data }, { on := 7, ground := Ground.chain }], guard := none }) rfl (fun K hK => ?step16) ?more16
        case more16 => exact AllReadyH.nil
        ((go_simp; go_at_call 26; refine (HS2.out.rwrite (t := t) (n := n) (th := th) HF.out (by omega) HBX.out.lenR).mono ?_; rintro e w3 ⟨rfl, hs3⟩; go_wp2_with fail))
        refine hK.out _ _ ?hS16 (fun hHeld => ?rr16)
        case hS16 => (exact HSC.out _ _ _ _ hs3)
        clear hK K
        try simp only [Act.put, List.setIfInBounds_toArray, List.set_cons_zero, List.set_cons_succ]
        refine wpAnyH_take (i := 16) (oi := { dst := some 66, op := Op.binOp BinOp.eql 36 (Operand.tmp 57) (Operand.tmp 65) 36, type := 4, pos := "law.go:57", after := #[{ on := 7, ground := Ground.data }, { on := 15, ground := Ground.data }], guard := none }) (v := ?vv17) rfl (by kernel_rfl) (by kernel_rfl) (by kernel_rfl) (fun _ _ _ h => h) ?hy17 (by assumption) ?rest17
        case hy17 => (refine Or.inl ⟨by rfl, ?_⟩; intro W hSw; (try dsimp only at hSw); go_simp; (try with_reducible rfl))
        try simp only [Act.put, List.setIfInBounds_toArray, List.set_cons_zero, List.set_cons_succ]
        refine wpAnyH_take (i := 17) (oi := { dst := some 6, op := Op.assign (Operand.tmp 66), type := 4, pos := "law.go:57", after := #[{ on := 16, ground := Ground.data }, { on := 15, ground := Ground.chain }, { on := 0, ground := Ground.phase }, { on := 1, ground := Ground.phase }, { on := 2, ground := Ground.phase }, { on := 3, ground := Ground.phase }, { on := 4, ground := Ground.phase }, { on := 5, ground := Ground.phase }, { on := 6, ground := Ground.phase }, { on := 7, ground := Ground.phase }, { on := 8, ground := Ground.phase }, { on := 9, ground := Ground.phase }, { on := 10, ground := Ground.phase }, { on := 11, ground := Ground.phase }, { on := 12, ground := Ground.phase }, { on := 13, ground := Ground.phase }, { on := 14, ground := Ground.phase }, { on := 15, ground := Ground.phase }, { on := 16, ground := Ground.phase }], guard := none }) (v := ?vv18) rfl (by kernel_rfl) (by kernel_rfl) (by kernel_rfl) (fun _ _ _ h => h) ?hy18 (by assumption) ?rest18
        case hy18 => (refine Or.inl ⟨by rfl, ?_⟩; intro W hSw; (try dsimp only at hSw); go_simp; (try with_reducible rfl))
        try simp only [Act.put, List.setIfInBounds_toArray, List.set_cons_zero, List.set_cons_succ]
        refine wpAnyH_done (by kernel_rfl) ?_ _
        clear hHeld
        have HS3 := Lib.hid hs3
        clear hs3
        dsimp only [onlyN]
        go_wp2_with fail
        go_ret
        rw [HST.out]
        exact ⟨rfl, HS3.out.drop⟩
      · have HST : Hid (stepL L 3 t n th = (writeP L t n th).1) := Lib.hid rfl
        go_enter Tryd.func12, Tryd.ntmps12
        go_wp2_with fail
        refine wp_only ?_
        refine wp_region_held_drew (S := fun W => W.cell? ⟨w.heap.size, 1, none⟩ = some (.int .i64 t) ∧ W.cell? ⟨w.heap.size, 2, none⟩ = some (.int .i64 n) ∧ W.cell? ⟨w.heap.size, 3, none⟩ = some (.bool th)) (by kernel_rfl) (HSC.out _ _ _ _ (HBX.out.keep (below_drew (Below.refl _ _)))) (fun hHeld => ?_)
        refine wpAnyH_take (i := 0) (oi := { dst := some 50, op := Op.move (Operand.tmp 0), type := 23, pos := "law.go:57", after := #[], guard := none }) (v := ?vv19) rfl (by kernel_rfl) (by kernel_rfl) (by kernel_rfl) (fun _ _ _ h => h) ?hy19 (by assumption) ?rest19
        case hy19 => (refine Or.inl ⟨by rfl, ?_⟩; intro W hSw; (try dsimp only at hSw); go_simp; (try with_reducible rfl))
        try simp only [Act.put, List.setIfInBounds_toArray, List.set_cons_zero, List.set_cons_succ]
        refine wpAnyH_take (i := 1) (oi := { dst := some 51, op := Op.fieldAddr 29 (Operand.tmp 5) 1, type := 0, pos := "law.go:57", after := #[], guard := none }) (v := ?vv20) rfl (by kernel_rfl) (by kernel_rfl) (by kernel_rfl) (fun _ _ _ h => h) ?hy20 (by assumption) ?rest20
        case hy20 => (refine Or.inl ⟨by rfl, ?_⟩; intro W hSw; (try dsimp only at hSw); go_simp; (try with_reducible rfl))
        try simp only [Act.put, List.setIfInBounds_toArray, List.set_cons_zero, List.set_cons_succ]
        refine wpAnyH_take (i := 2) (oi := { dst := some 52, op := Op.load 3 (Operand.tmp 51), type := 3, pos := "law.go:57", after := #[{ on := 1, ground := Ground.data }], guard := none }) (v := ?vv21) rfl (by kernel_rfl) (by kernel_rfl) (by kernel_rfl) (fun _ _ _ h => h) ?hy21 (by assumption) ?rest21
        case hy21 => (refine Or.inl ⟨by rfl, ?_⟩; intro W hSw; (try dsimp only at hSw); go_simp; (try with_reducible rfl))
        try simp only [Act.put, List.setIfInBounds_toArray, List.set_cons_zero, List.set_cons_succ]
        refine wpAnyH_take (i := 3) (oi := { dst := some 53, op := Op.fieldAddr 29 (Operand.tmp 5) 2, type := 0, pos := "law.go:57", after := #[], guard := none }) (v := ?vv22) rfl (by kernel_rfl) (by kernel_rfl) (by kernel_rfl) (fun _ _ _ h => h) ?hy22 (by assumption) ?rest22
        case hy22 => (refine Or.inl ⟨by rfl, ?_⟩; intro W hSw; (try dsimp only at hSw); go_simp; (try with_reducible rfl))
        try simp only [Act.put, List.setIfInBounds_toArray, List.set_cons_zero, List.set_cons_succ]
        refine wpAnyH_take (i := 4) (oi := { dst := some 54, op := Op.load 2 (Operand.tmp 53), type := 2, pos := "law.go:57", after := #[{ on := 3, ground := Ground.data }], guard := none }) (v := ?vv23) rfl (by kernel_rfl) (by kernel_rfl) (by kernel_rfl) (fun _ _ _ h => h) ?hy23 (by assumption) ?rest23
        case hy23 => (refine Or.inl ⟨by rfl, ?_⟩; intro W hSw; (try dsimp only at hSw); go_simp; (try with_reducible rfl))
        try simp only [Act.put, List.setIfInBounds_toArray, List.set_cons_zero, List.set_cons_succ]
        refine wpAnyH_take (i := 5) (oi := { dst := some 55, op := Op.fieldAddr 29 (Operand.tmp 5) 3, type := 0, pos := "law.go:57", after := #[], guard := none }) (v := ?vv24) rfl (by kernel_rfl) (by kernel_rfl) (by kernel_rfl) (fun _ _ _ h => h) ?hy24 (by assumption) ?rest24
        case hy24 => (refine Or.inl ⟨by rfl, ?_⟩; intro W hSw; (try dsimp only at hSw); go_simp; (try with_reducible rfl))
        try simp only [Act.put, List.setIfInBounds_toArray, List.set_cons_zero, List.set_cons_succ]
        refine wpAnyH_take (i := 6) (oi := { dst := some 56, op := Op.load 4 (Operand.tmp 55), type := 4, pos := "law.go:57", after := #[{ on := 5, ground := Ground.data }], guard := none }) (v := ?vv25) rfl (by kernel_rfl) (by kernel_rfl) (by kernel_rfl) (fun _ _ _ h => h) ?hy25 (by assumption) ?rest25
        case hy25 => (refine Or.inl ⟨by rfl, ?_⟩; intro W hSw; (try dsimp only at hSw); go_simp; (try with_reducible rfl))
        try simp only [Act.put, List.setIfInBounds_toArray, List.set_cons_zero, List.set_cons_succ]
        refine wpAnyH_take (i := 8) (oi := { dst := some 58, op := Op.move (Operand.tmp 1), type := 25, pos := "law.go:57", after := #[], guard := none }) (v := ?vv26) rfl (by kernel_rfl) (by kernel_rfl) (by kernel_rfl) (fun _ _ _ h => h) ?hy26 (by assumption) ?rest26
        case hy26 => (refine Or.inl ⟨by rfl, ?_⟩; intro W hSw; (try dsimp only at hSw); go_simp; (try with_reducible rfl))
        try simp only [Act.put, List.setIfInBounds_toArray, List.set_cons_zero, List.set_cons_succ]
        refine wpAnyH_take (i := 9) (oi := { dst := some 59, op := Op.fieldAddr 29 (Operand.tmp 5) 1, type := 0, pos := "law.go:57", after := #[], guard := none }) (v := ?vv27) rfl (by kernel_rfl) (by kernel_rfl) (by kernel_rfl) (fun _ _ _ h => h) ?hy27 (by assumption) ?rest27
        case hy27 => (refine Or.inl ⟨by rfl, ?_⟩; intro W hSw; (try dsimp only at hSw); go_simp; (try with_reducible rfl))
        try simp only [Act.put, List.setIfInBounds_toArray, List.set_cons_zero, List.set_cons_succ]
        refine wpAnyH_take (i := 10) (oi := { dst := some 60, op := Op.load 3 (Operand.tmp 59), type := 3, pos := "law.go:57", after := #[{ on := 9, ground := Ground.data }], guard := none }) (v := ?vv28) rfl (by kernel_rfl) (by kernel_rfl) (by kernel_rfl) (fun _ _ _ h => h) ?hy28 (by assumption) ?rest28
        case hy28 => (refine Or.inl ⟨by rfl, ?_⟩; intro W hSw; (try dsimp only at hSw); go_simp; (try with_reducible rfl))
        try simp only [Act.put, List.setIfInBounds_toArray, List.set_cons_zero, List.set_cons_succ]
        refine wpAnyH_take (i := 11) (oi := { dst := some 61, op := Op.fieldAddr 29 (Operand.tmp 5) 2, type := 0, pos := "law.go:57", after := #[], guard := none }) (v := ?vv29) rfl (by kernel_rfl) (by kernel_rfl) (by kernel_rfl) (fun _ _ _ h => h) ?hy29 (by assumption) ?rest29
        case hy29 => (refine Or.inl ⟨by rfl, ?_⟩; intro W hSw; (try dsimp only at hSw); go_simp; (try with_reducible rfl))
        try simp only [Act.put, List.setIfInBounds_toArray, List.set_cons_zero, List.set_cons_succ]
        refine wpAnyH_take (i := 12) (oi := { dst := some 62, op := Op.load 2 (Operand.tmp 61), type := 2, pos := "law.go:57", after := #[{ on := 11, ground := Ground.data }], guard := none }) (v := ?vv30) rfl (by kernel_rfl) (by kernel_rfl) (by kernel_rfl) (fun _ _ _ h => h) ?hy30 (by assumption) ?rest30
        case hy30 => (refine Or.inl ⟨by rfl, ?_⟩; intro W hSw; (try dsimp only at hSw); go_simp; (try with_reducible rfl))
        try simp only [Act.put, List.setIfInBounds_toArray, List.set_cons_zero, List.set_cons_succ]
        refine wpAnyH_take (i := 13) (oi := { dst := some 63, op := Op.fieldAddr 29 (Operand.tmp 5) 3, type := 0, pos := "law.go:57", after := #[], guard := none }) (v := ?vv31) rfl (by kernel_rfl) (by kernel_rfl) (by kernel_rfl) (fun _ _ _ h => h) ?hy31 (by assumption) ?rest31
        case hy31 => (refine Or.inl ⟨by rfl, ?_⟩; intro W hSw; (try dsimp only at hSw); go_simp; (try with_reducible rfl))
        try simp only [Act.put, List.setIfInBounds_toArray, List.set_cons_zero, List.set_cons_succ]
        refine wpAnyH_take (i := 14) (oi := { dst := some 64, op := Op.load 4 (Operand.tmp 63), type := 4, pos := "law.go:57", after := #[{ on := 13, ground := Ground.data }], guard := none }) (v := ?vv32) rfl (by kernel_rfl) (by kernel_rfl) (by kernel_rfl) (fun _ _ _ h => h) ?hy32 (by assumption) ?rest32
        case hy32 => (refine Or.inl ⟨by rfl, ?_⟩; intro W hSw; (try dsimp only at hSw); go_simp; (try with_reducible rfl))
        try simp only [Act.put, List.setIfInBounds_toArray, List.set_cons_zero, List.set_cons_succ]
        refine wpAnyH_ready (rs := [7]) (by kernel_rfl) (by simp) ?_
        refine AllReadyH.cons (o := { dst := some 57, op := Op.call { callee := Callee.value (Operand.func 16), args := #[Operand.tmp 50, Operand.tmp 52, Operand.tmp 54, Operand.tmp 56], argTypes := #[23, 3, 2, 4] }, type := 36, pos := "law.go:57", after := #[{ on := 0, ground := Ground.data }, { on := 2, ground := Ground.data }, { on := 4, ground := Ground.data }, { on := 6, ground := Ground.data }], guard := none }) rfl (fun K hK => ?step33) ?more33
        case more33 => exact AllReadyH.nil
        ((go_simp; go_at_call 16; refine ((HBX.out.keep (below_drew (Below.refl _ _))).write (by omega) ht hn).mono ?_; rintro e w2 ⟨rfl, hs2⟩; go_wp2_with fail))
        refine hK.out _ _ ?hS33 (fun hHeld => ?rr33)
        case hS33 => (exact HSC.out _ _ _ _ hs2)
        clear hK K
        try simp only [Act.put, List.setIfInBounds_toArray, List.set_cons_zero, List.set_cons_succ]
        have HS2 := Lib.hid hs2
        clear hs2
        refine wpAnyH_ready (rs := [15]) (by kernel_rfl) (by simp) ?_
        refine AllReadyH.cons (o := { dst := some 65, op := Op.call { callee := Callee.value (Operand.func 26), args := #[Operand.tmp 58, Operand.tmp 60, Operand.tmp 62, Operand.tmp 64], argTypes := #[25, 3, 2, 4] }, type := 36, pos := "law.go:57", after := #[{ on := 8, ground := Ground.data }, { on := 10, ground := Ground.data }, { on := 12, ground := Ground.data }, { on := 14, ground := Ground.data }, { on := 7, ground := Ground.chain }], guard := none }) rfl (fun K hK => ?step34) ?more34
        case more34 => exact AllReadyH.nil
        ((go_simp; go_at_call 26; refine (HS2.out.rwrite (t := t) (n := n) (th := th) HF.out (by omega) HBX.out.lenR).mono ?_; rintro e w3 ⟨rfl, hs3⟩; go_wp2_with fail))
        refine hK.out _ _ ?hS34 (fun hHeld => ?rr34)
        case hS34 => (exact HSC.out _ _ _ _ hs3)
        clear hK K
        try simp only [Act.put, List.setIfInBounds_toArray, List.set_cons_zero, List.set_cons_succ]
        refine wpAnyH_take (i := 16) (oi := { dst := some 66, op := Op.binOp BinOp.eql 36 (Operand.tmp 57) (Operand.tmp 65) 36, type := 4, pos := "law.go:57", after := #[{ on := 7, ground := Ground.data }, { on := 15, ground := Ground.data }], guard := none }) (v := ?vv35) rfl (by kernel_rfl) (by kernel_rfl) (by kernel_rfl) (fun _ _ _ h => h) ?hy35 (by assumption) ?rest35
        case hy35 => (refine Or.inl ⟨by rfl, ?_⟩; intro W hSw; (try dsimp only at hSw); go_simp; (try with_reducible rfl))
        try simp only [Act.put, List.setIfInBounds_toArray, List.set_cons_zero, List.set_cons_succ]
        refine wpAnyH_take (i := 17) (oi := { dst := some 6, op := Op.assign (Operand.tmp 66), type := 4, pos := "law.go:57", after := #[{ on := 16, ground := Ground.data }, { on := 15, ground := Ground.chain }, { on := 0, ground := Ground.phase }, { on := 1, ground := Ground.phase }, { on := 2, ground := Ground.phase }, { on := 3, ground := Ground.phase }, { on := 4, ground := Ground.phase }, { on := 5, ground := Ground.phase }, { on := 6, ground := Ground.phase }, { on := 7, ground := Ground.phase }, { on := 8, ground := Ground.phase }, { on := 9, ground := Ground.phase }, { on := 10, ground := Ground.phase }, { on := 11, ground := Ground.phase }, { on := 12, ground := Ground.phase }, { on := 13, ground := Ground.phase }, { on := 14, ground := Ground.phase }, { on := 15, ground := Ground.phase }, { on := 16, ground := Ground.phase }], guard := none }) (v := ?vv36) rfl (by kernel_rfl) (by kernel_rfl) (by kernel_rfl) (fun _ _ _ h => h) ?hy36 (by assumption) ?rest36
        case hy36 => (refine Or.inl ⟨by rfl, ?_⟩; intro W hSw; (try dsimp only at hSw); go_simp; (try with_reducible rfl))
        try simp only [Act.put, List.setIfInBounds_toArray, List.set_cons_zero, List.set_cons_succ]
        refine wpAnyH_done (by kernel_rfl) ?_ _
        clear hHeld
        have HS3 := Lib.hid hs3
        clear hs3
        dsimp only [onlyN]
        go_wp2_with fail
        go_ret
        rw [HST.out]
        exact ⟨rfl, HS3.out.drop⟩
    · by_cases q4 : kd = 4
      · subst q4
        clear q0 q2
        have HST : Hid (stepL L 4 t n th = (endsP L t true).1) := Lib.hid rfl
        go_enter Tryd.func12, Tryd.ntmps12
        go_wp2_with fail
        refine wp_only ?_
        refine wp_region_held_drew (S := fun W => W.cell? ⟨w.heap.size, 1, none⟩ = some (.int .i64 t) ∧ W.cell? ⟨w.heap.size, 2, none⟩ = some (.int .i64 n) ∧ W.cell? ⟨w.heap.size, 3, none⟩ = some (.bool th)) (by kernel_rfl) (HSC.out _ _ _ _ (HBX.out.keep (below_drew (Below.refl _ _)))) (fun hHeld => ?_)
        refine wpAnyH_take (i := 0) (oi := { dst := some 69, op := Op.move (Operand.tmp 0), type := 23, pos := "law.go:59", after := #[], guard := none }) (v := ?vv37) rfl (by kernel_rfl) (by kernel_rfl) (by kernel_rfl) (fun _ _ _ h => h) ?hy37 (by assumption) ?rest37
        case hy37 => (refine Or.inl ⟨by rfl, ?_⟩; intro W hSw; (try dsimp only at hSw); go_simp; (try with_reducible rfl))
        try simp only [Act.put, List.setIfInBounds_toArray, List.set_cons_zero, List.set_cons_succ]
        refine wpAnyH_take (i := 1) (oi := { dst := some 70, op := Op.fieldAddr 29 (Operand.tmp 5) 1, type := 0, pos := "law.go:59", after := #[], guard := none }) (v := ?vv38) rfl (by kernel_rfl) (by kernel_rfl) (by kernel_rfl) (fun _ _ _ h => h) ?hy38 (by assumption) ?rest38
        case hy38 => (refine Or.inl ⟨by rfl, ?_⟩; intro W hSw; (try dsimp only at hSw); go_simp; (try with_reducible rfl))
        try simp only [Act.put, List.setIfInBounds_toArray, List.set_cons_zero, List.set_cons_succ]
        refine wpAnyH_take (i := 2) (oi := { dst := some 71, op := Op.load 3 (Operand.tmp 70), type := 3, pos := "law.go:59", after := #[{ on := 1, ground := Ground.data }], guard := none }) (v := ?vv39) rfl (by kernel_rfl) (by kernel_rfl) (by kernel_rfl) (fun _ _ _ h => h) ?hy39 (by assumption) ?rest39
        case hy39 => (refine Or.inl ⟨by rfl, ?_⟩; intro W hSw; (try dsimp only at hSw); go_simp; (try with_reducible rfl))
        try simp only [Act.put, List.setIfInBounds_toArray, List.set_cons_zero, List.set_cons_succ]
        refine wpAnyH_take (i := 4) (oi := { dst := some 73, op := Op.move (Operand.tmp 1), type := 25, pos := "law.go:59", after := #[], guard := none }) (v := ?vv40) rfl (by kernel_rfl) (by kernel_rfl) (by kernel_rfl) (fun _ _ _ h => h) ?hy40 (by assumption) ?rest40
        case hy40 => (refine Or.inl ⟨by rfl, ?_⟩; intro W hSw; (try dsimp only at hSw); go_simp; (try with_reducible rfl))
        try simp only [Act.put, List.setIfInBounds_toArray, List.set_cons_zero, List.set_cons_succ]
        refine wpAnyH_take (i := 5) (oi := { dst := some 74, op := Op.fieldAddr 29 (Operand.tmp 5) 1, type := 0, pos := "law.go:59", after := #[], guard := none }) (v := ?vv41) rfl (by kernel_rfl) (by kernel_rfl) (by kernel_rfl) (fun _ _ _ h => h) ?hy41 (by assumption) ?rest41
        case hy41 => (refine Or.inl ⟨by rfl, ?_⟩; intro W hSw; (try dsimp only at hSw); go_simp; (try with_reducible rfl))
        try simp only [Act.put, List.setIfInBounds_toArray, List.set_cons_zero, List.set_cons_succ]
        refine wpAnyH_take (i := 6) (oi := { dst := some 75, op := Op.load 3 (Operand.tmp 74), type := 3, pos := "law.go:59", after := #[{ on := 5, ground := Ground.data }], guard := none }) (v := ?vv42) rfl (by kernel_rfl) (by kernel_rfl) (by kernel_rfl) (fun _ _ _ h => h) ?hy42 (by assumption) ?rest42
        case hy42 => (refine Or.inl ⟨by rfl, ?_⟩; intro W hSw; (try dsimp only at hSw); go_simp; (try with_reducible rfl))
        try simp only [Act.put, List.setIfInBounds_toArray, List.set_cons_zero, List.set_cons_succ]
        refine wpAnyH_ready (rs := [3]) (by kernel_rfl) (by simp) ?_
        refine AllReadyH.cons (o := { dst := some 72, op := Op.call { callee := Callee.value (Operand.func 18), args := #[Operand.tmp 69, Operand.tmp 71], argTypes := #[23, 3] }, type := 4, pos := "law.go:59", after := #[{ on := 0, ground := Ground.data }, { on := 2, ground := Ground.data }], guard := none }) rfl (fun K hK => ?step43) ?more43
        case more43 => exact AllReadyH.nil
        ((go_simp; go_at_call 18; refine ((HBX.out.keep (below_drew (Below.refl _ _))).commit).mono ?_; rintro e w2 ⟨rfl, hs2⟩; go_wp2_with fail))
        refine hK.out _ _ ?hS43 (fun hHeld => ?rr43)
        case hS43 => (exact HSC.out _ _ _ _ hs2)
        clear hK K
        try simp only [Act.put, List.setIfInBounds_toArray, List.set_cons_zero, List.set_cons_succ]
        have HS2 := Lib.hid hs2
        clear hs2
        refine wpAnyH_ready (rs := [7]) (by kernel_rfl) (by simp) ?_
        refine AllReadyH.cons (o := { dst := some 76, op := Op.call { callee := Callee.value (Operand.func 27), args := #[Operand.tmp 73, Operand.tmp 75, Operand.const (Value.bool true)], argTypes := #[25, 3, 4] }, type := 4, pos := "law.go:59", after := #[{ on := 4, ground := Ground.data }, { on := 6, ground := Ground.data }, { on := 3, ground := Ground.chain }], guard := none }) rfl (fun K hK => ?step44) ?more44
        case more44 => exact AllReadyH.nil
        ((go_simp; go_at_call 27; refine (HS2.out.rends (t := t) HF.out (by omega) true).mono ?_; rintro e w3 ⟨rfl, hs3⟩; go_wp2_with fail))
        refine hK.out _ _ ?hS44 (fun hHeld => ?rr44)
        case hS44 => (exact HSC.out _ _ _ _ hs3)
        clear hK K
        try simp only [Act.put, List.setIfInBounds_toArray, List.set_cons_zero, List.set_cons_succ]
        refine wpAnyH_take (i := 8) (oi := { dst := some 77, op := Op.binOp BinOp.eql 4 (Operand.tmp 72) (Operand.tmp 76) 4, type := 4, pos := "law.go:59", after := #[{ on := 3, ground := Ground.data }, { on := 7, ground := Ground.data }], guard := none }) (v := ?vv45) rfl (by kernel_rfl) (by kernel_rfl) (by kernel_rfl) (fun _ _ _ h => h) ?hy45 (by assumption) ?rest45
        case hy45 => (refine Or.inl ⟨by rfl, ?_⟩; intro W hSw; (try dsimp only at hSw); go_simp; (try with_reducible rfl))
        try simp only [Act.put, List.setIfInBounds_toArray, List.set_cons_zero, List.set_cons_succ]
        refine wpAnyH_take (i := 9) (oi := { dst := some 6, op := Op.assign (Operand.tmp 77), type := 4, pos := "law.go:59", after := #[{ on := 8, ground := Ground.data }, { on := 7, ground := Ground.chain }, { on := 0, ground := Ground.phase }, { on := 1, ground := Ground.phase }, { on := 2, ground := Ground.phase }, { on := 3, ground := Ground.phase }, { on := 4, ground := Ground.phase }, { on := 5, ground := Ground.phase }, { on := 6, ground := Ground.phase }, { on := 7, ground := Ground.phase }, { on := 8, ground := Ground.phase }], guard := none }) (v := ?vv46) rfl (by kernel_rfl) (by kernel_rfl) (by kernel_rfl) (fun _ _ _ h => h) ?hy46 (by assumption) ?rest46
        case hy46 => (refine Or.inl ⟨by rfl, ?_⟩; intro W hSw; (try dsimp only at hSw); go_simp; (try with_reducible rfl))
        try simp only [Act.put, List.setIfInBounds_toArray, List.set_cons_zero, List.set_cons_succ]
        refine wpAnyH_done (by kernel_rfl) ?_ _
        clear hHeld
        have HS3 := Lib.hid hs3
        clear hs3
        dsimp only [onlyN]
        go_wp2_with fail
        go_ret
        rw [HST.out]
        exact ⟨rfl, HS3.out.drop.upto (Nat.le_succ k)⟩
      · by_cases q5 : kd = 5
        · subst q5
          clear q0 q2 q4
          have HST : Hid (stepL L 5 t n th = (endsP L t false).1) := Lib.hid rfl
          go_enter Tryd.func12, Tryd.ntmps12
          go_wp2_with fail
          refine wp_only ?_
          refine wp_region_held_drew (S := fun W => W.cell? ⟨w.heap.size, 1, none⟩ = some (.int .i64 t) ∧ W.cell? ⟨w.heap.size, 2, none⟩ = some (.int .i64 n) ∧ W.cell? ⟨w.heap.size, 3, none⟩ = some (.bool th)) (by kernel_rfl) (HSC.out _ _ _ _ (HBX.out.keep (below_drew (Below.refl _ _)))) (fun hHeld => ?_)
          refine wpAnyH_take (i := 0) (oi := { dst := some 80, op := Op.move (Operand.tmp 0), type := 23, pos := "law.go:61", after := #[], guard := none }) (v := ?vv47) rfl (by kernel_rfl) (by kernel_rfl) (by kernel_rfl) (fun _ _ _ h => h) ?hy47 (by assumption) ?rest47
          case hy47 => (refine Or.inl ⟨by rfl, ?_⟩; intro W hSw; (try dsimp only at hSw); go_simp; (try with_reducible rfl))
          try simp only [Act.put, List.setIfInBounds_toArray, List.set_cons_zero, List.set_cons_succ]
          refine wpAnyH_take (i := 1) (oi := { dst := some 81, op := Op.fieldAddr 29 (Operand.tmp 5) 1, type := 0, pos := "law.go:61", after := #[], guard := none }) (v := ?vv48) rfl (by kernel_rfl) (by kernel_rfl) (by kernel_rfl) (fun _ _ _ h => h) ?hy48 (by assumption) ?rest48
          case hy48 => (refine Or.inl ⟨by rfl, ?_⟩; intro W hSw; (try dsimp only at hSw); go_simp; (try with_reducible rfl))
          try simp only [Act.put, List.setIfInBounds_toArray, List.set_cons_zero, List.set_cons_succ]
          refine wpAnyH_take (i := 2) (oi := { dst := some 82, op := Op.load 3 (Operand.tmp 81), type := 3, pos := "law.go:61", after := #[{ on := 1, ground := Ground.data }], guard := none }) (v := ?vv49) rfl (by kernel_rfl) (by kernel_rfl) (by kernel_rfl) (fun _ _ _ h => h) ?hy49 (by assumption) ?rest49
          case hy49 => (refine Or.inl ⟨by rfl, ?_⟩; intro W hSw; (try dsimp only at hSw); go_simp; (try with_reducible rfl))
          try simp only [Act.put, List.setIfInBounds_toArray, List.set_cons_zero, List.set_cons_succ]
          refine wpAnyH_take (i := 4) (oi := { dst := some 84, op := Op.move (Operand.tmp 1), type := 25, pos := "law.go:61", after := #[], guard := none }) (v := ?vv50) rfl (by kernel_rfl) (by kernel_rfl) (by kernel_rfl) (fun _ _ _ h => h) ?hy50 (by assumption) ?rest50
          case hy50 => (refine Or.inl ⟨by rfl, ?_⟩; intro W hSw; (try dsimp only at hSw); go_simp; (try with_reducible rfl))
          try simp only [Act.put, List.setIfInBounds_toArray, List.set_cons_zero, List.set_cons_succ]
          refine wpAnyH_take (i := 5) (oi := { dst := some 85, op := Op.fieldAddr 29 (Operand.tmp 5) 1, type := 0, pos := "law.go:61", after := #[], guard := none }) (v := ?vv51) rfl (by kernel_rfl) (by kernel_rfl) (by kernel_rfl) (fun _ _ _ h => h) ?hy51 (by assumption) ?rest51
          case hy51 => (refine Or.inl ⟨by rfl, ?_⟩; intro W hSw; (try dsimp only at hSw); go_simp; (try with_reducible rfl))
          try simp only [Act.put, List.setIfInBounds_toArray, List.set_cons_zero, List.set_cons_succ]
          refine wpAnyH_take (i := 6) (oi := { dst := some 86, op := Op.load 3 (Operand.tmp 85), type := 3, pos := "law.go:61", after := #[{ on := 5, ground := Ground.data }], guard := none }) (v := ?vv52) rfl (by kernel_rfl) (by kernel_rfl) (by kernel_rfl) (fun _ _ _ h => h) ?hy52 (by assumption) ?rest52
          case hy52 => (refine Or.inl ⟨by rfl, ?_⟩; intro W hSw; (try dsimp only at hSw); go_simp; (try with_reducible rfl))
          try simp only [Act.put, List.setIfInBounds_toArray, List.set_cons_zero, List.set_cons_succ]
          refine wpAnyH_ready (rs := [3]) (by kernel_rfl) (by simp) ?_
          refine AllReadyH.cons (o := { dst := some 83, op := Op.call { callee := Callee.value (Operand.func 19), args := #[Operand.tmp 80, Operand.tmp 82], argTypes := #[23, 3] }, type := 4, pos := "law.go:61", after := #[{ on := 0, ground := Ground.data }, { on := 2, ground := Ground.data }], guard := none }) rfl (fun K hK => ?step53) ?more53
          case more53 => exact AllReadyH.nil
          ((go_simp; go_at_call 19; refine ((HBX.out.keep (below_drew (Below.refl _ _))).abort).mono ?_; rintro e w2 ⟨rfl, hs2⟩; go_wp2_with fail))
          refine hK.out _ _ ?hS53 (fun hHeld => ?rr53)
          case hS53 => (exact HSC.out _ _ _ _ hs2)
          clear hK K
          try simp only [Act.put, List.setIfInBounds_toArray, List.set_cons_zero, List.set_cons_succ]
          have HS2 := Lib.hid hs2
          clear hs2
          refine wpAnyH_ready (rs := [7]) (by kernel_rfl) (by simp) ?_
          refine AllReadyH.cons (o := { dst := some 87, op := Op.call { callee := Callee.value (Operand.func 27), args := #[Operand.tmp 84, Operand.tmp 86, Operand.const (Value.bool false)], argTypes := #[25, 3, 4] }, type := 4, pos := "law.go:61", after := #[{ on := 4, ground := Ground.data }, { on := 6, ground := Ground.data }, { on := 3, ground := Ground.chain }], guard := none }) rfl (fun K hK => ?step54) ?more54
          case more54 => exact AllReadyH.nil
          ((go_simp; go_at_call 27; refine (HS2.out.rends (t := t) HF.out (by omega) false).mono ?_; rintro e w3 ⟨rfl, hs3⟩; go_wp2_with fail))
          refine hK.out _ _ ?hS54 (fun hHeld => ?rr54)
          case hS54 => (exact HSC.out _ _ _ _ hs3)
          clear hK K
          try simp only [Act.put, List.setIfInBounds_toArray, List.set_cons_zero, List.set_cons_succ]
          refine wpAnyH_take (i := 8) (oi := { dst := some 88, op := Op.binOp BinOp.eql 4 (Operand.tmp 83) (Operand.tmp 87) 4, type := 4, pos := "law.go:61", after := #[{ on := 3, ground := Ground.data }, { on := 7, ground := Ground.data }], guard := none }) (v := ?vv55) rfl (by kernel_rfl) (by kernel_rfl) (by kernel_rfl) (fun _ _ _ h => h) ?hy55 (by assumption) ?rest55
          case hy55 => (refine Or.inl ⟨by rfl, ?_⟩; intro W hSw; (try dsimp only at hSw); go_simp; (try with_reducible rfl))
          try simp only [Act.put, List.setIfInBounds_toArray, List.set_cons_zero, List.set_cons_succ]
          refine wpAnyH_take (i := 9) (oi := { dst := some 6, op := Op.assign (Operand.tmp 88), type := 4, pos := "law.go:61", after := #[{ on := 8, ground := Ground.data }, { on := 7, ground := Ground.chain }, { on := 0, ground := Ground.phase }, { on := 1, ground := Ground.phase }, { on := 2, ground := Ground.phase }, { on := 3, ground := Ground.phase }, { on := 4, ground := Ground.phase }, { on := 5, ground := Ground.phase }, { on := 6, ground := Ground.phase }, { on := 7, ground := Ground.phase }, { on := 8, ground := Ground.phase }], guard := none }) (v := ?vv56) rfl (by kernel_rfl) (by kernel_rfl) (by kernel_rfl) (fun _ _ _ h => h) ?hy56 (by assumption) ?rest56
          case hy56 => (refine Or.inl ⟨by rfl, ?_⟩; intro W hSw; (try dsimp only at hSw); go_simp; (try with_reducible rfl))
          try simp only [Act.put, List.setIfInBounds_toArray, List.set_cons_zero, List.set_cons_succ]
          refine wpAnyH_done (by kernel_rfl) ?_ _
          clear hHeld
          have HS3 := Lib.hid hs3
          clear hs3
          dsimp only [onlyN]
          go_wp2_with fail
          go_ret
          rw [HST.out]
          exact ⟨rfl, HS3.out.drop.upto (Nat.le_succ k)⟩
        · by_cases q6 : kd = 6
          · subst q6
            clear q0 q2 q4 q5
            have HST : Hid (stepL L 6 t n th = pruneP L t) := Lib.hid rfl
            go_enter Tryd.func12, Tryd.ntmps12
            go_wp2_with fail
            refine wp_only ?_
            refine wp_region_held_drew (S := fun W => W.cell? ⟨w.heap.size, 1, none⟩ = some (.int .i64 t) ∧ W.cell? ⟨w.heap.size, 2, none⟩ = some (.int .i64 n) ∧ W.cell? ⟨w.heap.size, 3, none⟩ = some (.bool th)) (by kernel_rfl) (HSC.out _ _ _ _ (HBX.out.keep (below_drew (Below.refl _ _)))) (fun hHeld => ?_)
            refine wpAnyH_take (i := 0) (oi := { dst := some 91, op := Op.move (Operand.tmp 0), type := 23, pos := "law.go:63", after := #[], guard := none }) (v := ?vv57) rfl (by kernel_rfl) (by kernel_rfl) (by kernel_rfl) (fun _ _ _ h => h) ?hy57 (by assumption) ?rest57
            case hy57 => (refine Or.inl ⟨by rfl, ?_⟩; intro W hSw; (try dsimp only at hSw); go_simp; (try with_reducible rfl))
            try simp only [Act.put, List.setIfInBounds_toArray, List.set_cons_zero, List.set_cons_succ]
            refine wpAnyH_take (i := 1) (oi := { dst := some 92, op := Op.fieldAddr 29 (Operand.tmp 5) 1, type := 0, pos := "law.go:63", after := #[], guard := none }) (v := ?vv58) rfl (by kernel_rfl) (by kernel_rfl) (by kernel_rfl) (fun _ _ _ h => h) ?hy58 (by assumption) ?rest58
            case hy58 => (refine Or.inl ⟨by rfl, ?_⟩; intro W hSw; (try dsimp only at hSw); go_simp; (try with_reducible rfl))
            try simp only [Act.put, List.setIfInBounds_toArray, List.set_cons_zero, List.set_cons_succ]
            refine wpAnyH_take (i := 2) (oi := { dst := some 93, op := Op.load 3 (Operand.tmp 92), type := 3, pos := "law.go:63", after := #[{ on := 1, ground := Ground.data }], guard := none }) (v := ?vv59) rfl (by kernel_rfl) (by kernel_rfl) (by kernel_rfl) (fun _ _ _ h => h) ?hy59 (by assumption) ?rest59
            case hy59 => (refine Or.inl ⟨by rfl, ?_⟩; intro W hSw; (try dsimp only at hSw); go_simp; (try with_reducible rfl))
            try simp only [Act.put, List.setIfInBounds_toArray, List.set_cons_zero, List.set_cons_succ]
            refine wpAnyH_take (i := 4) (oi := { dst := some 95, op := Op.move (Operand.tmp 1), type := 25, pos := "law.go:63", after := #[], guard := none }) (v := ?vv60) rfl (by kernel_rfl) (by kernel_rfl) (by kernel_rfl) (fun _ _ _ h => h) ?hy60 (by assumption) ?rest60
            case hy60 => (refine Or.inl ⟨by rfl, ?_⟩; intro W hSw; (try dsimp only at hSw); go_simp; (try with_reducible rfl))
            try simp only [Act.put, List.setIfInBounds_toArray, List.set_cons_zero, List.set_cons_succ]
            refine wpAnyH_take (i := 5) (oi := { dst := some 96, op := Op.fieldAddr 29 (Operand.tmp 5) 1, type := 0, pos := "law.go:63", after := #[], guard := none }) (v := ?vv61) rfl (by kernel_rfl) (by kernel_rfl) (by kernel_rfl) (fun _ _ _ h => h) ?hy61 (by assumption) ?rest61
            case hy61 => (refine Or.inl ⟨by rfl, ?_⟩; intro W hSw; (try dsimp only at hSw); go_simp; (try with_reducible rfl))
            try simp only [Act.put, List.setIfInBounds_toArray, List.set_cons_zero, List.set_cons_succ]
            refine wpAnyH_take (i := 6) (oi := { dst := some 97, op := Op.load 3 (Operand.tmp 96), type := 3, pos := "law.go:63", after := #[{ on := 5, ground := Ground.data }], guard := none }) (v := ?vv62) rfl (by kernel_rfl) (by kernel_rfl) (by kernel_rfl) (fun _ _ _ h => h) ?hy62 (by assumption) ?rest62
            case hy62 => (refine Or.inl ⟨by rfl, ?_⟩; intro W hSw; (try dsimp only at hSw); go_simp; (try with_reducible rfl))
            try simp only [Act.put, List.setIfInBounds_toArray, List.set_cons_zero, List.set_cons_succ]
            refine wpAnyH_ready (rs := [3]) (by kernel_rfl) (by simp) ?_
            refine AllReadyH.cons (o := { dst := some 94, op := Op.call { callee := Callee.value (Operand.func 21), args := #[Operand.tmp 91, Operand.tmp 93], argTypes := #[23, 3] }, type := 3, pos := "law.go:63", after := #[{ on := 0, ground := Ground.data }, { on := 2, ground := Ground.data }], guard := none }) rfl (fun K hK => ?step63) ?more63
            case more63 => exact AllReadyH.nil
            ((go_simp; go_at_call 21; refine ((HBX.out.keep (below_drew (Below.refl _ _))).prune HF.out).mono ?_; rintro e w2 ⟨rfl, hs2⟩; go_wp2_with fail))
            refine hK.out _ _ ?hS63 (fun hHeld => ?rr63)
            case hS63 => (exact HSC.out _ _ _ _ hs2)
            clear hK K
            try simp only [Act.put, List.setIfInBounds_toArray, List.set_cons_zero, List.set_cons_succ]
            have HS2 := Lib.hid hs2
            clear hs2
            refine wpAnyH_ready (rs := [7]) (by kernel_rfl) (by simp) ?_
            refine AllReadyH.cons (o := { dst := some 98, op := Op.call { callee := Callee.value (Operand.func 28), args := #[Operand.tmp 95, Operand.tmp 97], argTypes := #[25, 3] }, type := 3, pos := "law.go:63", after := #[{ on := 4, ground := Ground.data }, { on := 6, ground := Ground.data }, { on := 3, ground := Ground.chain }], guard := none }) rfl (fun K hK => ?step64) ?more64
            case more64 => exact AllReadyH.nil
            ((go_simp; go_at_call 28; refine (HS2.out.rprune (t := t) HF.out (by omega)).mono ?_; rintro e w3 ⟨rfl, hs3⟩; go_wp2_with fail))
            refine hK.out _ _ ?hS64 (fun hHeld => ?rr64)
            case hS64 => (exact HSC.out _ _ _ _ hs3)
            clear hK K
            try simp only [Act.put, List.setIfInBounds_toArray, List.set_cons_zero, List.set_cons_succ]
            refine wpAnyH_take (i := 8) (oi := { dst := some 99, op := Op.binOp BinOp.eql 3 (Operand.tmp 94) (Operand.tmp 98) 3, type := 4, pos := "law.go:63", after := #[{ on := 3, ground := Ground.data }, { on := 7, ground := Ground.data }], guard := none }) (v := ?vv65) rfl (by kernel_rfl) (by kernel_rfl) (by kernel_rfl) (fun _ _ _ h => h) ?hy65 (by assumption) ?rest65
            case hy65 => (refine Or.inl ⟨by rfl, ?_⟩; intro W hSw; (try dsimp only at hSw); go_simp; (try with_reducible rfl))
            try simp only [Act.put, List.setIfInBounds_toArray, List.set_cons_zero, List.set_cons_succ]
            refine wpAnyH_take (i := 9) (oi := { dst := some 6, op := Op.assign (Operand.tmp 99), type := 4, pos := "law.go:63", after := #[{ on := 8, ground := Ground.data }, { on := 7, ground := Ground.chain }, { on := 0, ground := Ground.phase }, { on := 1, ground := Ground.phase }, { on := 2, ground := Ground.phase }, { on := 3, ground := Ground.phase }, { on := 4, ground := Ground.phase }, { on := 5, ground := Ground.phase }, { on := 6, ground := Ground.phase }, { on := 7, ground := Ground.phase }, { on := 8, ground := Ground.phase }], guard := none }) (v := ?vv66) rfl (by kernel_rfl) (by kernel_rfl) (by kernel_rfl) (fun _ _ _ h => h) ?hy66 (by assumption) ?rest66
            case hy66 => (refine Or.inl ⟨by rfl, ?_⟩; intro W hSw; (try dsimp only at hSw); go_simp; (try with_reducible rfl))
            try simp only [Act.put, List.setIfInBounds_toArray, List.set_cons_zero, List.set_cons_succ]
            refine wpAnyH_done (by kernel_rfl) ?_ _
            clear hHeld
            have HS3 := Lib.hid hs3
            clear hs3
            dsimp only [onlyN]
            go_wp2_with fail
            go_ret
            rw [HST.out]
            exact ⟨rfl, HS3.out.drop.upto (Nat.le_succ k)⟩
          · have p0 : (kd == 0) = false := by rw [beq_eq_false_iff_ne]; omega
            have p1 : (kd == 1) = false := by rw [beq_eq_false_iff_ne]; omega
            have p2 : (kd == 2) = false := by rw [beq_eq_false_iff_ne]; omega
            have p3 : (kd == 3) = false := by rw [beq_eq_false_iff_ne]; omega
            have p4 : (kd == 4) = false := by rw [beq_eq_false_iff_ne]; omega
            have p5 : (kd == 5) = false := by rw [beq_eq_false_iff_ne]; omega
            have p6 : (kd == 6) = false := by rw [beq_eq_false_iff_ne]; omega
            have HST : Hid (stepL L kd t n th = L) := Lib.hid (by unfold stepL; rw [if_neg q0, if_neg q2, if_neg q4, if_neg q5, if_neg q6])
            clear q0 q2 q4 q5 q6
            go_enter Tryd.func12, Tryd.ntmps12
            go_wp2_with fail
            go_ret
            rw [HST.out]
            exact ⟨rfl, HBX.out.drop.upto (Nat.le_succ k)⟩
end Go.Proofs.YtmaokoekbjjgfaaDoor
