/- trie: the law TrieTells (gentrmc.py wrote it). -/
import Derived.Test.YtpploljennbpdaaDoorZTrmB
set_option linter.unusedSimpArgs false
set_option linter.unusedVariables false
set_option linter.unnecessarySimpa false
namespace Go.Proofs.YtpploljennbpdaaDoor
open Go.RowKit Go.Shelf

set_option maxRecDepth 100000 in
set_option maxHeartbeats 16000000 in
theorem law_tells {w : World} {v : Value} {L1 : List Pth} {a b : Int} (hG : Glob w) (h : PsIs w v L1) (ha : -9223372036854775808 ≤ a ∧ a ≤ 9223372036854775807) (hb : -9223372036854775808 ≤ b ∧ b ≤ 9223372036854775807) : Calls Tryd.prog 4 #[v, .int .i64 a, .int .i64 b] w fun e w' => e = .returned (.bool true) ∧ Below w.heap.size w w' := by
  have HCU := Lib.hid (Cut_any h)
  have HG := Lib.hid hG
  obtain ⟨A0, cap0, rfl, hc01, hc02⟩ := h.form
  unfold maxLen at hc02
  obtain ⟨L, hL⟩ : ∃ L, cutP L1 = L := ⟨_, rfl⟩
  have hl10 : L.length ≤ 10 := by rw [← hL]; exact cut_len L1
  have hp10 : ∀ p ∈ L, p.length ≤ 10 := by rw [← hL]; exact fun p hp => cut_short hp
  unfold CutP at HCU
  rw [hL] at HCU
  have HL10 := Lib.hid hl10
  have HP10 := Lib.hid hp10
  have hLI : (L.length : Int) ≤ 10 := by omega
  have HA := Lib.hid ha
  have HBI := Lib.hid hb
  clear h hL hG hl10 hp10 ha hb
  go_enter Tryd.func4, Tryd.ntmps4
  go_wp2_with fail
  refine (HCU.out).mono ?_
  rintro e w1 ⟨ov, vs0, rfl, hpr, hb1⟩
  have hps := hpr.is
  obtain ⟨oA, ocap, rfl, ho1, ho2⟩ := hps.form
  unfold maxLen at ho2
  have HB1 := Lib.hid hb1
  have HPS := Lib.hid hps
  have HG1 := Lib.hid (HG.out.below hb1)
  have HBD := Lib.hid (Build_any (HG.out.below hb1) hps (by have := HL10.out; omega) (fun p hp => by have := HP10.out p hp; omega))
  clear hpr hb1 hps HCU
  go_wp2_with fail
  refine (HBD.out).mono ?_
  rintro e w3 hb
  obtain ⟨tA, tn, tc, rfl, htree⟩ := bld_one hb
  have hb3 := hb.1
  have hb4 := below_new (w := w3) (.cells #[.slice tA tn tc] 27)
  have hx4 := alloc_at w3 (.cells #[.slice tA tn tc] 27)
  obtain ⟨w4, hw4⟩ : ∃ w4, w4 = w3.alloc (.cells #[.slice tA tn tc] 27) := ⟨_, rfl⟩
  rw [← hw4] at hb4 hx4
  have hb14 := hb3.trans (hb4.mono hb3.size)
  have HW4 := Lib.hid hw4
  have HX4 := Lib.hid hx4
  have HB14 := Lib.hid hb14
  have HTREE : Hid ((bcode L ≠ 0 ∧ tA = none ∧ tn = 0 ∧ tc = 0) ∨ (bcode L = 0 ∧ ∃ N, TrAt w4 (.slice tA tn tc) N (treeP L))) := Lib.hid (by
    rcases htree with h | ⟨h0, N, ht, ho⟩
    · exact .inl h
    · exact .inr ⟨h0, N, ht.below hb4⟩)
  obtain ⟨bt, hbt⟩ : ∃ bt, w3.heap.size = bt := ⟨_, rfl⟩
  have HBT := Lib.hid hbt
  rw [hbt] at HX4
  have HRB := Lib.hid (RBuild_any (HPS.out.below hb14) (by have := HL10.out; omega) (fun p hp => by have := HP10.out p hp; omega))
  obtain ⟨c, hc⟩ : ∃ c, bcode L = c := ⟨_, rfl⟩
  rw [hc]
  have HC := Lib.hid hc
  clear hb htree hb3 hb4 hx4 hw4 hb14 hbt hc HBD
  go_wp2_with fail
  rw [← HW4.out, HBT.out]
  refine (HRB.out).mono ?_
  rintro e w6 hb
  obtain ⟨rA, rn, rc, rfl, hrt⟩ := rbld_one hb
  have hb6 := hb.1
  rw [HC.out]
  have hb7 := below_new (w := w6) (.cells #[.slice rA rn rc] 32)
  have hx7 := alloc_at w6 (.cells #[.slice rA rn rc] 32)
  obtain ⟨w7, hw7⟩ : ∃ w7, w7 = w6.alloc (.cells #[.slice rA rn rc] 32) := ⟨_, rfl⟩
  rw [← hw7] at hb7 hx7
  have HW7 := Lib.hid hw7
  have hbw7 := hb6.trans (hb7.mono hb6.size)
  obtain ⟨br, hbr⟩ : ∃ br, w6.heap.size = br := ⟨_, rfl⟩
  rw [hbr] at hx7
  have HBR := Lib.hid hbr
  have HX7 := Lib.hid hx7
  have HXT := Lib.hid ((hbw7.block _ (heap_lt HX4.out)).trans HX4.out)
  have HB7 := Lib.hid (HB14.out.trans (hbw7.mono HB14.out.size))
  have HRT : Hid ((bcode L ≠ 0 ∧ rA = none ∧ rn = 0 ∧ rc = 0) ∨ (bcode L = 0 ∧ RTr w7 (.slice rA rn rc) (treeP L))) := Lib.hid (by
    rcases hrt with h | ⟨h0, hr⟩
    · exact .inl h
    · exact .inr ⟨h0, hr.below hb7⟩)
  have HTR7 : Hid ((bcode L ≠ 0 ∧ tA = none ∧ tn = 0 ∧ tc = 0) ∨ (bcode L = 0 ∧ ∃ N, TrAt w7 (.slice tA tn tc) N (treeP L))) := Lib.hid (by
    rcases HTREE.out with h | ⟨h0, N, ht⟩
    · exact .inl h
    · exact .inr ⟨h0, N, ht.below hbw7⟩)
  have hcc : (c == c) = true := beq_self_eq_true c
  have hcc2 : (c != c) = false := by simp
  have HG7 := Lib.hid (HG1.out.below (HB7.out.mono (Nat.le_refl _)))
  clear hb hrt hb6 hb7 hx7 hw7 hbw7 hbr HRB HTREE
  by_cases h0 : c = 0
  · subst h0
    obtain ⟨N, ht⟩ : ∃ N, TrAt w7 (.slice tA tn tc) N (treeP L) := by
      rcases HTR7.out with ⟨h, _⟩ | ⟨_, h⟩
      · exact absurd HC.out h
      · exact h
    have hr : RTr w7 (.slice rA rn rc) (treeP L) := by
      rcases HRT.out with ⟨h, _⟩ | ⟨_, h⟩
      · exact absurd HC.out h
      · exact h
    have hasks := asks_of HXT.out HX7.out ht hr
    obtain ⟨rA', rc', er, _⟩ := hr.row.form
    injection er with e1 e2 e3
    subst e1 e3
    have hpos := ht.pos
    have hfew := hr.few
    obtain ⟨T, hT⟩ : ∃ T, treeP L = T := ⟨_, rfl⟩
    rw [hT] at hasks hpos hfew e2 ht hr
    subst e2
    have HAS := Lib.hid hasks
    have hnI : (0 : Int) < (T.length : Int) := by omega
    have hnI2 : (T.length : Int) ≤ 900 := by omega
    have hTne : ¬ T = [] := fun e => by rw [e] at hpos; simp at hpos
    have hnz : ¬ (T.length : Int) = 0 := by omega
    have hnzb : ((T.length : Int) == 0) = false := by rw [beq_eq_false_iff_ne]; exact hnz
    have hmod : ∀ x : Int, -900 < x.tmod (T.length : Int) ∧ x.tmod (T.length : Int) < 900 := fun x => by
      have h2 : (x.tmod (T.length : Int)).natAbs < T.length := by
        rw [Int.natAbs_tmod]
        exact Nat.mod_lt _ (by omega)
      omega
    obtain ⟨ra, hra⟩ : ∃ r, a.tmod (T.length : Int) = r := ⟨_, rfl⟩
    obtain ⟨rb, hrb⟩ : ∃ r, b.tmod (T.length : Int) = r := ⟨_, rfl⟩
    have hma := hmod a
    have hmb := hmod b
    rw [hra] at hma
    rw [hrb] at hmb
    have hwa : IntKind.i64.wrap ra = ra := IntWalk.i64_in _ (by omega)
    have hwb : IntKind.i64.wrap rb = rb := IntWalk.i64_in _ (by omega)
    have HRAB := Lib.hid (And.intro hra hrb)
    have HWAB := Lib.hid (And.intro hwa hwb)
    have HS := Lib.hid (HAS.out.box _ (below_drew (Below.refl _ w7))).2
    have HTT := Lib.hid ht
    have HRR := Lib.hid hr
    clear ht hr hasks hpos hfew hT hmod hma hmb
    go_wp2_with fail
    rw [← HW7.out, HBR.out]
    refine wp_region_held_drew (S := fun W => W.cell? ⟨br, 0, none⟩ = some (.slice rA T.length rc)) (by kernel_rfl) HS.out (fun hHeld => ?_)
    refine wpAnyH_take (i := 0) (oi := { dst := some 34, op := Op.move (Operand.tmp 1), type := 3, pos := "law.go:83", after := #[], guard := none }) (v := ?vv1) rfl (by kernel_rfl) (by kernel_rfl) (by kernel_rfl) (fun _ _ _ h => h) ?hy1 (by assumption) ?rest1
    case hy1 => (refine Or.inl ⟨by rfl, ?_⟩; intro W hSw; (try dsimp only at hSw); go_simp; (try with_reducible rfl))
    try simp only [Act.put, List.setIfInBounds_toArray, List.set_cons_zero, List.set_cons_succ]
    refine wpAnyH_take (i := 1) (oi := { dst := some 35, op := Op.move (Operand.tmp 2), type := 3, pos := "law.go:83", after := #[], guard := none }) (v := ?vv2) rfl (by kernel_rfl) (by kernel_rfl) (by kernel_rfl) (fun _ _ _ h => h) ?hy2 (by assumption) ?rest2
    case hy2 => (refine Or.inl ⟨by rfl, ?_⟩; intro W hSw; (try dsimp only at hSw); go_simp; (try with_reducible rfl))
    try simp only [Act.put, List.setIfInBounds_toArray, List.set_cons_zero, List.set_cons_succ]
    refine wpAnyH_take (i := 2) (oi := { dst := some 36, op := Op.move (Operand.tmp 1), type := 3, pos := "law.go:83", after := #[], guard := none }) (v := ?vv3) rfl (by kernel_rfl) (by kernel_rfl) (by kernel_rfl) (fun _ _ _ h => h) ?hy3 (by assumption) ?rest3
    case hy3 => (refine Or.inl ⟨by rfl, ?_⟩; intro W hSw; (try dsimp only at hSw); go_simp; (try with_reducible rfl))
    try simp only [Act.put, List.setIfInBounds_toArray, List.set_cons_zero, List.set_cons_succ]
    refine wpAnyH_take (i := 3) (oi := { dst := some 37, op := Op.fieldAddr 32 (Operand.tmp 9) 0, type := 0, pos := "law.go:83", after := #[], guard := none }) (v := ?vv4) rfl (by kernel_rfl) (by kernel_rfl) (by kernel_rfl) (fun _ _ _ h => h) ?hy4 (by assumption) ?rest4
    case hy4 => (refine Or.inl ⟨by rfl, ?_⟩; intro W hSw; (try dsimp only at hSw); go_simp; (try with_reducible rfl))
    try simp only [Act.put, List.setIfInBounds_toArray, List.set_cons_zero, List.set_cons_succ]
    refine wpAnyH_take (i := 4) (oi := { dst := some 38, op := Op.load 22 (Operand.tmp 37), type := 22, pos := "law.go:83", after := #[{ on := 3, ground := Ground.data }], guard := none }) (v := ?vv5) rfl (by kernel_rfl) (by kernel_rfl) (by kernel_rfl) (fun _ _ _ h => h) ?hy5 (by assumption) ?rest5
    case hy5 => (refine Or.inl ⟨by rfl, ?_⟩; intro W hSw; (try dsimp only at hSw); go_simp; (try with_reducible rfl))
    try simp only [Act.put, List.setIfInBounds_toArray, List.set_cons_zero, List.set_cons_succ]
    refine wpAnyH_take (i := 5) (oi := { dst := some 39, op := Op.call { callee := Callee.builtin Builtin.len, args := #[Operand.tmp 38], argTypes := #[22] }, type := 3, pos := "law.go:83", after := #[{ on := 4, ground := Ground.data }], guard := none }) (v := ?vv6) rfl (by kernel_rfl) (by kernel_rfl) (by kernel_rfl) (fun _ _ _ h => h) ?hy6 (by assumption) ?rest6
    case hy6 => (refine Or.inl ⟨by rfl, ?_⟩; intro W hSw; (try dsimp only at hSw); go_simp; (try with_reducible rfl))
    try simp only [Act.put, List.setIfInBounds_toArray, List.set_cons_zero, List.set_cons_succ]
    refine wpAnyH_take (i := 6) (oi := { dst := some 40, op := Op.binOp BinOp.rem 3 (Operand.tmp 36) (Operand.tmp 39) 3, type := 3, pos := "law.go:83", after := #[{ on := 2, ground := Ground.data }, { on := 5, ground := Ground.data }], guard := none }) (v := (.int .i64 ra)) rfl (by kernel_rfl) (by kernel_rfl) (by kernel_rfl) (fun _ _ _ h => h) ?hy7 (by assumption) ?rest7
    case hy7 => ((refine Or.inl ⟨by rfl, ?_⟩; intro W hSw; (try dsimp only at hSw); go_simp; (first | done | with_reducible rfl | assumption)))
    try simp only [Act.put, List.setIfInBounds_toArray, List.set_cons_zero, List.set_cons_succ]
    refine wpAnyH_take (i := 7) (oi := { dst := some 41, op := Op.move (Operand.tmp 2), type := 3, pos := "law.go:83", after := #[], guard := none }) (v := ?vv8) rfl (by kernel_rfl) (by kernel_rfl) (by kernel_rfl) (fun _ _ _ h => h) ?hy8 (by assumption) ?rest8
    case hy8 => (refine Or.inl ⟨by rfl, ?_⟩; intro W hSw; (try dsimp only at hSw); go_simp; (try with_reducible rfl))
    try simp only [Act.put, List.setIfInBounds_toArray, List.set_cons_zero, List.set_cons_succ]
    refine wpAnyH_take (i := 8) (oi := { dst := some 42, op := Op.fieldAddr 32 (Operand.tmp 9) 0, type := 0, pos := "law.go:83", after := #[], guard := none }) (v := ?vv9) rfl (by kernel_rfl) (by kernel_rfl) (by kernel_rfl) (fun _ _ _ h => h) ?hy9 (by assumption) ?rest9
    case hy9 => (refine Or.inl ⟨by rfl, ?_⟩; intro W hSw; (try dsimp only at hSw); go_simp; (try with_reducible rfl))
    try simp only [Act.put, List.setIfInBounds_toArray, List.set_cons_zero, List.set_cons_succ]
    refine wpAnyH_take (i := 9) (oi := { dst := some 43, op := Op.load 22 (Operand.tmp 42), type := 22, pos := "law.go:83", after := #[{ on := 8, ground := Ground.data }], guard := none }) (v := ?vv10) rfl (by kernel_rfl) (by kernel_rfl) (by kernel_rfl) (fun _ _ _ h => h) ?hy10 (by assumption) ?rest10
    case hy10 => (refine Or.inl ⟨by rfl, ?_⟩; intro W hSw; (try dsimp only at hSw); go_simp; (try with_reducible rfl))
    try simp only [Act.put, List.setIfInBounds_toArray, List.set_cons_zero, List.set_cons_succ]
    refine wpAnyH_take (i := 10) (oi := { dst := some 44, op := Op.call { callee := Callee.builtin Builtin.len, args := #[Operand.tmp 43], argTypes := #[22] }, type := 3, pos := "law.go:83", after := #[{ on := 9, ground := Ground.data }], guard := none }) (v := ?vv11) rfl (by kernel_rfl) (by kernel_rfl) (by kernel_rfl) (fun _ _ _ h => h) ?hy11 (by assumption) ?rest11
    case hy11 => (refine Or.inl ⟨by rfl, ?_⟩; intro W hSw; (try dsimp only at hSw); go_simp; (try with_reducible rfl))
    try simp only [Act.put, List.setIfInBounds_toArray, List.set_cons_zero, List.set_cons_succ]
    refine wpAnyH_take (i := 11) (oi := { dst := some 45, op := Op.binOp BinOp.rem 3 (Operand.tmp 41) (Operand.tmp 44) 3, type := 3, pos := "law.go:83", after := #[{ on := 7, ground := Ground.data }, { on := 10, ground := Ground.data }], guard := none }) (v := (.int .i64 rb)) rfl (by kernel_rfl) (by kernel_rfl) (by kernel_rfl) (fun _ _ _ h => h) ?hy12 (by assumption) ?rest12
    case hy12 => ((refine Or.inl ⟨by rfl, ?_⟩; intro W hSw; (try dsimp only at hSw); go_simp; (first | done | with_reducible rfl | assumption)))
    try simp only [Act.put, List.setIfInBounds_toArray, List.set_cons_zero, List.set_cons_succ]
    refine wpAnyH_take (i := 14) (oi := { dst := some 48, op := Op.move (Operand.const (Value.int IntKind.i64 0)), type := 3, pos := "law.go:83", after := #[], guard := none }) (v := ?vv13) rfl (by kernel_rfl) (by kernel_rfl) (by kernel_rfl) (fun _ _ _ h => h) ?hy13 (by assumption) ?rest13
    case hy13 => (refine Or.inl ⟨by rfl, ?_⟩; intro W hSw; (try dsimp only at hSw); go_simp; (try with_reducible rfl))
    try simp only [Act.put, List.setIfInBounds_toArray, List.set_cons_zero, List.set_cons_succ]
    refine wpAnyH_ready (rs := [12]) (by kernel_rfl) (by simp) ?_
    refine AllReadyH.cons (o := { dst := some 46, op := Op.buildSlice 24 4 #[(0, Operand.tmp 34), (1, Operand.tmp 35), (2, Operand.tmp 40), (3, Operand.tmp 45)], type := 24, pos := "law.go:83", after := #[{ on := 0, ground := Ground.data }, { on := 1, ground := Ground.data }, { on := 6, ground := Ground.data }, { on := 11, ground := Ground.data }], guard := none }) rfl (fun K hK => ?step14) ?more14
    case more14 => exact AllReadyH.nil
    ((go_simp))
    refine hK.out _ _ ?hS14 (fun hHeld => ?rr14)
    case hS14 => (exact (HAS.out.box _ (by first | exact below_drew (below_new _) | exact (below_drew (Below.refl _ _)).alloc (Nat.le_refl _) _)).2)
    clear hK K
    try simp only [Act.put, List.setIfInBounds_toArray, List.set_cons_zero, List.set_cons_succ]
    refine wpAnyH_take (i := 13) (oi := { dst := some 47, op := Op.call { callee := Callee.builtin Builtin.len, args := #[Operand.tmp 46], argTypes := #[24] }, type := 3, pos := "law.go:83", after := #[{ on := 12, ground := Ground.data }], guard := none }) (v := ?vv15) rfl (by kernel_rfl) (by kernel_rfl) (by kernel_rfl) (fun _ _ _ h => h) ?hy15 (by assumption) ?rest15
    case hy15 => (refine Or.inl ⟨by rfl, ?_⟩; intro W hSw; (try dsimp only at hSw); go_simp; (try with_reducible rfl))
    try simp only [Act.put, List.setIfInBounds_toArray, List.set_cons_zero, List.set_cons_succ]
    refine wpAnyH_done (by kernel_rfl) ?_ _
    clear hHeld HS hwa hwb hra hrb
    have hb9 : Below w7.heap.size w7 ((w7.alloc (.cells #[.int .i64 a, .int .i64 b, .int .i64 ra, .int .i64 rb] 3)).drew) := below_drew (below_new _)
    have hx9 : ((w7.alloc (.cells #[.int .i64 a, .int .i64 b, .int .i64 ra, .int .i64 rb] 3)).drew).heap[w7.heap.size]? = some (.cells #[.int .i64 a, .int .i64 b, .int .i64 ra, .int .i64 rb] 3 (0, 0)) := alloc_at w7 _
    obtain ⟨w9, hw9⟩ : ∃ w9, w9 = (w7.alloc (.cells #[.int .i64 a, .int .i64 b, .int .i64 ra, .int .i64 rb] 3)).drew := ⟨_, rfl⟩
    rw [← hw9] at hb9 hx9
    rw [← hw9]
    obtain ⟨bn, hbn⟩ : ∃ bn, w7.heap.size = bn := ⟨_, rfl⟩
    rw [hbn] at hx9
    rw [hbn]
    have HB9 := Lib.hid hb9
    have HX9 := Lib.hid hx9
    have HAS := Lib.hid (asks_of ((hb9.block _ (heap_lt HXT.out)).trans HXT.out) ((hb9.block _ (heap_lt HX7.out)).trans HX7.out) (HTT.out.below hb9) (HRR.out.below hb9))
    have HG9 := Lib.hid (HG7.out.below hb9)
    clear hb9 hx9 hw9 hbn
    go_wp2_with fail
    go_loopw [48] (fun iv wr => ∃ i : Nat, i ≤ 4 ∧ iv = .int .i64 i ∧ Below w9.heap.size w9 wr) (fun iv _ => 4 - (intOf iv).toNat)
    case atStart => exact ⟨0, Nat.zero_le _, rfl, Below.refl _ _⟩
    case round =>
      obtain ⟨i, hi, rfl, hbw⟩ := hrel
      have HBW := Lib.hid hbw
      by_cases hlt : i < 4
      · have hiI : (i : Int) < 4 := by omega
        obtain ⟨n, kn⟩ : ∃ n : Int, wr.cell? ⟨bn, i, none⟩ = some (.int .i64 n) := by
          have hx := (hbw.block _ (heap_lt HX9.out)).trans HX9.out
          have hi4 : i = 0 ∨ i = 1 ∨ i = 2 ∨ i = 3 := by omega
          rcases hi4 with rfl | rfl | rfl | rfl
          · exact ⟨a, cell_of hx 0⟩
          · exact ⟨b, cell_of hx 1⟩
          · exact ⟨ra, cell_of hx 2⟩
          · exact ⟨rb, cell_of hx 3⟩
        have HLT := Lib.hid hlt
        have hc9 := hbw
        have HC9 := Lib.hid hc9
        have qr := (HAS.out.box _ hc9).2
        have HTH := Lib.hid (HAS.out.rthere wr n hc9)
        clear hi hbw hlt hc9
        by_cases hin : inI T n = true
        · rw [hin] at HTH
          obtain ⟨m, p, rfl, hm⟩ := in_at hin
          obtain ⟨gA, pA, pk, pc, rc', er, _, _⟩ := HAS.out.rpath wr m p hm HC9.out
          injection er with e1 _ e3
          subst e1 e3
          have HRP : Hid (∀ W, Below w9.heap.size w9 W → ∃ (A : Option Addr) (k c : Nat), W.cell? (gA.add m) = some (.slice A k c) ∧ SIs W (.slice A k c) (pathI T (m : Int))) := Lib.hid (fun W hW => by
            obtain ⟨a2, A, k, c, rc', er, h1, h2⟩ := HAS.out.rpath W m p hm hW
            injection er with e1
            injection e1 with e1
            subst e1
            exact ⟨A, k, c, h1, h2⟩)
          have hmI := (in_nat hm).2
          have HIN := Lib.hid hin
          have HM := Lib.hid hm
          have HLB := Lib.hid (leafB_in (P := T) (at_lt hm))
          clear hin hm
          go_wp2_with fail
          refine (HTH.out).mono ?_
          rintro e w10 ⟨rfl, hb10⟩
          have hc10 := HC9.out.trans (hb10.mono HC9.out.size)
          have HC10 := Lib.hid hc10
          have q10 := (HAS.out.box _ hc10).2
          obtain ⟨pA, pk, pc, kp, hsp⟩ := HRP.out w10 hc10
          have HPV := Lib.hid hsp
          clear hb10 hc10 hsp qr
          go_wp2_with fail
          clear q10 kp
          have HS := Lib.hid (HAS.out.box _ (below_drew HC10.out))
          refine wp_region_held_drew (S := fun W => W.cell? ⟨bt, 0, none⟩ = some (.slice tA tn tc) ∧ W.cell? ⟨br, 0, none⟩ = some (.slice (some gA) T.length rc)) (by kernel_rfl) HS.out (fun hHeld => ?_)
          refine wpAnyH_take (i := 0) (oi := { dst := some 60, op := Op.load 27 (Operand.tmp 7), type := 27, pos := "law.go:88", after := #[], guard := none }) (v := ?vv16) rfl (by kernel_rfl) (by kernel_rfl) (by kernel_rfl) (fun _ _ _ h => h) ?hy16 (by assumption) ?rest16
          case hy16 => (refine Or.inl ⟨by rfl, ?_⟩; intro W hSw; (try dsimp only at hSw); go_simp; (try with_reducible rfl))
          try simp only [Act.put, List.setIfInBounds_toArray, List.set_cons_zero, List.set_cons_succ]
          refine wpAnyH_take (i := 1) (oi := { dst := some 61, op := Op.move (Operand.tmp 12), type := 3, pos := "law.go:88", after := #[], guard := none }) (v := ?vv17) rfl (by kernel_rfl) (by kernel_rfl) (by kernel_rfl) (fun _ _ _ h => h) ?hy17 (by assumption) ?rest17
          case hy17 => (refine Or.inl ⟨by rfl, ?_⟩; intro W hSw; (try dsimp only at hSw); go_simp; (try with_reducible rfl))
          try simp only [Act.put, List.setIfInBounds_toArray, List.set_cons_zero, List.set_cons_succ]
          refine wpAnyH_take (i := 3) (oi := { dst := some 63, op := Op.move (Operand.tmp 13), type := 24, pos := "law.go:88", after := #[], guard := none }) (v := ?vv18) rfl (by kernel_rfl) (by kernel_rfl) (by kernel_rfl) (fun _ _ _ h => h) ?hy18 (by assumption) ?rest18
          case hy18 => (refine Or.inl ⟨by rfl, ?_⟩; intro W hSw; (try dsimp only at hSw); go_simp; (try with_reducible rfl))
          try simp only [Act.put, List.setIfInBounds_toArray, List.set_cons_zero, List.set_cons_succ]
          refine wpAnyH_ready (rs := [2]) (by kernel_rfl) (by simp) ?_
          refine AllReadyH.cons (o := { dst := some 62, op := Op.call { callee := Callee.value (Operand.func 13), args := #[Operand.tmp 60, Operand.tmp 61], argTypes := #[27, 3] }, type := 24, pos := "law.go:88", after := #[{ on := 0, ground := Ground.data }, { on := 1, ground := Ground.data }], guard := none }) rfl (fun K hK => ?step19) ?more19
          case more19 => exact AllReadyH.nil
          ((go_simp; go_at_call 13; refine (HAS.out.path _ (m : Int) (below_drew HC10.out)).mono ?_; rintro e w11 ⟨v1, rfl, s1, hb11⟩; go_wp2_with fail))
          refine hK.out _ _ ?hS19 (fun hHeld => ?rr19)
          case hS19 => (exact HAS.out.box _ (HC10.out.trans ((below_of_drew hb11).mono HC10.out.size)))
          clear hK K
          try simp only [Act.put, List.setIfInBounds_toArray, List.set_cons_zero, List.set_cons_succ]
          have HC11 := Lib.hid (HC10.out.trans ((below_of_drew hb11).mono HC10.out.size))
          have HQ1 := Lib.hid (HAS.out.same w11 v1 (.slice pA pk pc) (m : Int) s1 (HPV.out.below (below_of_drew hb11)))
          refine wpAnyH_ready (rs := [4]) (by kernel_rfl) (by simp) ?_
          refine AllReadyH.cons (o := { dst := some 64, op := Op.call { callee := Callee.value (Operand.func 12), args := #[Operand.tmp 62, Operand.tmp 63], argTypes := #[24, 24] }, type := 4, pos := "law.go:88", after := #[{ on := 2, ground := Ground.data }, { on := 3, ground := Ground.data }, { on := 2, ground := Ground.chain }], guard := none }) rfl (fun K hK => ?step20) ?more20
          case more20 => exact AllReadyH.nil
          ((go_simp; go_at_call 12; refine (HQ1.out).mono ?_; rintro e w12 ⟨rfl, hb12⟩; go_wp2_with fail))
          refine hK.out _ _ ?hS20 (fun hHeld => ?rr20)
          case hS20 => (exact HAS.out.box _ (HC11.out.trans (hb12.mono HC11.out.size)))
          clear hK K
          try simp only [Act.put, List.setIfInBounds_toArray, List.set_cons_zero, List.set_cons_succ]
          have HC12 := Lib.hid (HC11.out.trans (hb12.mono HC11.out.size))
          refine wpAnyH_take (i := 5) (oi := { dst := some 65, op := Op.unOp UnOp.not 4 (Operand.tmp 64), type := 4, pos := "law.go:88", after := #[{ on := 4, ground := Ground.data }], guard := none }) (v := (.bool false)) rfl (by kernel_rfl) (by kernel_rfl) (by kernel_rfl) (fun _ _ _ h => h) ?hy21 (by assumption) ?rest21
          case hy21 => ((refine Or.inl ⟨by rfl, ?_⟩; intro W hSw; (try dsimp only at hSw); go_simp; (first | done | with_reducible rfl | simp)))
          try simp only [Act.put, List.setIfInBounds_toArray, List.set_cons_zero, List.set_cons_succ]
          refine wpAnyH_take (i := 6) (oi := { dst := some 66, op := Op.move (Operand.tmp 65), type := 4, pos := "law.go:88", after := #[{ on := 5, ground := Ground.data }, { on := 4, ground := Ground.chain }], guard := none }) (v := ?vv22) rfl (by kernel_rfl) (by kernel_rfl) (by kernel_rfl) (fun _ _ _ h => h) ?hy22 (by assumption) ?rest22
          case hy22 => (refine Or.inl ⟨by rfl, ?_⟩; intro W hSw; (try dsimp only at hSw); go_simp; (try with_reducible rfl))
          try simp only [Act.put, List.setIfInBounds_toArray, List.set_cons_zero, List.set_cons_succ]
          refine wpAnyH_take (i := 7) (oi := { dst := some 67, op := Op.load 27 (Operand.tmp 7), type := 27, pos := "law.go:88", after := #[{ on := 6, ground := Ground.guard }], guard := some (6, false) }) (v := ?vv23) rfl (by kernel_rfl) (by kernel_rfl) (by kernel_rfl) (fun _ _ _ h => h) ?hy23 (by assumption) ?rest23
          case hy23 => (refine Or.inl ⟨by rfl, ?_⟩; intro W hSw; (try dsimp only at hSw); go_simp; (try with_reducible rfl))
          try simp only [Act.put, List.setIfInBounds_toArray, List.set_cons_zero, List.set_cons_succ]
          refine wpAnyH_take (i := 8) (oi := { dst := some 68, op := Op.move (Operand.tmp 12), type := 3, pos := "law.go:88", after := #[{ on := 6, ground := Ground.guard }], guard := some (6, false) }) (v := ?vv24) rfl (by kernel_rfl) (by kernel_rfl) (by kernel_rfl) (fun _ _ _ h => h) ?hy24 (by assumption) ?rest24
          case hy24 => (refine Or.inl ⟨by rfl, ?_⟩; intro W hSw; (try dsimp only at hSw); go_simp; (try with_reducible rfl))
          try simp only [Act.put, List.setIfInBounds_toArray, List.set_cons_zero, List.set_cons_succ]
          refine wpAnyH_take (i := 10) (oi := { dst := some 70, op := Op.load 32 (Operand.tmp 9), type := 32, pos := "law.go:88", after := #[{ on := 6, ground := Ground.guard }], guard := some (6, false) }) (v := ?vv25) rfl (by kernel_rfl) (by kernel_rfl) (by kernel_rfl) (fun _ _ _ h => h) ?hy25 (by assumption) ?rest25
          case hy25 => (refine Or.inl ⟨by rfl, ?_⟩; intro W hSw; (try dsimp only at hSw); go_simp; (try with_reducible rfl))
          try simp only [Act.put, List.setIfInBounds_toArray, List.set_cons_zero, List.set_cons_succ]
          refine wpAnyH_take (i := 11) (oi := { dst := some 71, op := Op.move (Operand.tmp 12), type := 3, pos := "law.go:88", after := #[{ on := 6, ground := Ground.guard }], guard := some (6, false) }) (v := ?vv26) rfl (by kernel_rfl) (by kernel_rfl) (by kernel_rfl) (fun _ _ _ h => h) ?hy26 (by assumption) ?rest26
          case hy26 => (refine Or.inl ⟨by rfl, ?_⟩; intro W hSw; (try dsimp only at hSw); go_simp; (try with_reducible rfl))
          try simp only [Act.put, List.setIfInBounds_toArray, List.set_cons_zero, List.set_cons_succ]
          refine wpAnyH_ready (rs := [9]) (by kernel_rfl) (by simp) ?_
          refine AllReadyH.cons (o := { dst := some 69, op := Op.call { callee := Callee.value (Operand.func 14), args := #[Operand.tmp 67, Operand.tmp 68], argTypes := #[27, 3] }, type := 24, pos := "law.go:88", after := #[{ on := 7, ground := Ground.data }, { on := 8, ground := Ground.data }, { on := 6, ground := Ground.chain }, { on := 6, ground := Ground.guard }], guard := some (6, false) }) rfl (fun K hK => ?step27) ?more27
          case more27 => exact AllReadyH.nil
          ((go_simp; go_at_call 14; refine (HAS.out.above _ (m : Int) HC12.out).mono ?_; rintro e w13 ⟨v2, rfl, s2, hb13⟩; go_wp2_with fail))
          refine hK.out _ _ ?hS27 (fun hHeld => ?rr27)
          case hS27 => (exact HAS.out.box _ (HC12.out.trans (hb13.mono HC12.out.size)))
          clear hK K
          try simp only [Act.put, List.setIfInBounds_toArray, List.set_cons_zero, List.set_cons_succ]
          have HC13 := Lib.hid (HC12.out.trans (hb13.mono HC12.out.size))
          refine wpAnyH_ready (rs := [12]) (by kernel_rfl) (by simp) ?_
          refine AllReadyH.cons (o := { dst := some 72, op := Op.call { callee := Callee.value (Operand.func 15), args := #[Operand.tmp 70, Operand.tmp 71], argTypes := #[32, 3] }, type := 24, pos := "law.go:88", after := #[{ on := 10, ground := Ground.data }, { on := 11, ground := Ground.data }, { on := 9, ground := Ground.chain }, { on := 6, ground := Ground.guard }], guard := some (6, false) }) rfl (fun K hK => ?step28) ?more28
          case more28 => exact AllReadyH.nil
          ((go_simp; go_at_call 15; refine (HAS.out.rabove _ (m : Int) HC13.out).mono ?_; rintro e w14 ⟨v3, rfl, s3, hb14⟩; go_wp2_with fail))
          refine hK.out _ _ ?hS28 (fun hHeld => ?rr28)
          case hS28 => (exact HAS.out.box _ (HC13.out.trans (hb14.mono HC13.out.size)))
          clear hK K
          try simp only [Act.put, List.setIfInBounds_toArray, List.set_cons_zero, List.set_cons_succ]
          have HC14 := Lib.hid (HC13.out.trans (hb14.mono HC13.out.size))
          have HQ2 := Lib.hid (HAS.out.sameA w14 v2 v3 (m : Int) (s2.below hb14) s3)
          refine wpAnyH_ready (rs := [13]) (by kernel_rfl) (by simp) ?_
          refine AllReadyH.cons (o := { dst := some 73, op := Op.call { callee := Callee.value (Operand.func 12), args := #[Operand.tmp 69, Operand.tmp 72], argTypes := #[24, 24] }, type := 4, pos := "law.go:88", after := #[{ on := 9, ground := Ground.data }, { on := 12, ground := Ground.data }, { on := 12, ground := Ground.chain }, { on := 6, ground := Ground.guard }], guard := some (6, false) }) rfl (fun K hK => ?step29) ?more29
          case more29 => exact AllReadyH.nil
          ((go_simp; go_at_call 12; refine (HQ2.out).mono ?_; rintro e w15 ⟨rfl, hb15⟩; go_wp2_with fail))
          refine hK.out _ _ ?hS29 (fun hHeld => ?rr29)
          case hS29 => (exact HAS.out.box _ (HC14.out.trans (hb15.mono HC14.out.size)))
          clear hK K
          try simp only [Act.put, List.setIfInBounds_toArray, List.set_cons_zero, List.set_cons_succ]
          have HC15 := Lib.hid (HC14.out.trans (hb15.mono HC14.out.size))
          refine wpAnyH_take (i := 14) (oi := { dst := some 74, op := Op.unOp UnOp.not 4 (Operand.tmp 73), type := 4, pos := "law.go:88", after := #[{ on := 13, ground := Ground.data }, { on := 6, ground := Ground.guard }], guard := some (6, false) }) (v := (.bool false)) rfl (by kernel_rfl) (by kernel_rfl) (by kernel_rfl) (fun _ _ _ h => h) ?hy30 (by assumption) ?rest30
          case hy30 => ((refine Or.inl ⟨by rfl, ?_⟩; intro W hSw; (try dsimp only at hSw); go_simp; (first | done | with_reducible rfl | simp)))
          try simp only [Act.put, List.setIfInBounds_toArray, List.set_cons_zero, List.set_cons_succ]
          refine wpAnyH_take (i := 15) (oi := { dst := some 75, op := Op.pick (Operand.tmp 66) (Operand.const (Value.bool true)) (Operand.tmp 74), type := 4, pos := "law.go:88", after := #[{ on := 6, ground := Ground.data }, { on := 14, ground := Ground.data }], guard := none }) (v := (.bool false)) rfl (by kernel_rfl) (by kernel_rfl) (by kernel_rfl) (fun _ _ _ h => h) ?hy31 (by assumption) ?rest31
          case hy31 => ((refine Or.inl ⟨by rfl, ?_⟩; intro W hSw; (try dsimp only at hSw); go_simp; (first | done | with_reducible rfl | simp)))
          try simp only [Act.put, List.setIfInBounds_toArray, List.set_cons_zero, List.set_cons_succ]
          refine wpAnyH_take (i := 16) (oi := { dst := some 76, op := Op.move (Operand.tmp 75), type := 4, pos := "law.go:88", after := #[{ on := 15, ground := Ground.data }, { on := 13, ground := Ground.chain }], guard := none }) (v := ?vv32) rfl (by kernel_rfl) (by kernel_rfl) (by kernel_rfl) (fun _ _ _ h => h) ?hy32 (by assumption) ?rest32
          case hy32 => (refine Or.inl ⟨by rfl, ?_⟩; intro W hSw; (try dsimp only at hSw); go_simp; (try with_reducible rfl))
          try simp only [Act.put, List.setIfInBounds_toArray, List.set_cons_zero, List.set_cons_succ]
          refine wpAnyH_take (i := 17) (oi := { dst := some 77, op := Op.load 27 (Operand.tmp 7), type := 27, pos := "law.go:88", after := #[{ on := 16, ground := Ground.guard }], guard := some (16, false) }) (v := ?vv33) rfl (by kernel_rfl) (by kernel_rfl) (by kernel_rfl) (fun _ _ _ h => h) ?hy33 (by assumption) ?rest33
          case hy33 => (refine Or.inl ⟨by rfl, ?_⟩; intro W hSw; (try dsimp only at hSw); go_simp; (try with_reducible rfl))
          try simp only [Act.put, List.setIfInBounds_toArray, List.set_cons_zero, List.set_cons_succ]
          refine wpAnyH_take (i := 18) (oi := { dst := some 78, op := Op.move (Operand.tmp 12), type := 3, pos := "law.go:88", after := #[{ on := 16, ground := Ground.guard }], guard := some (16, false) }) (v := ?vv34) rfl (by kernel_rfl) (by kernel_rfl) (by kernel_rfl) (fun _ _ _ h => h) ?hy34 (by assumption) ?rest34
          case hy34 => (refine Or.inl ⟨by rfl, ?_⟩; intro W hSw; (try dsimp only at hSw); go_simp; (try with_reducible rfl))
          try simp only [Act.put, List.setIfInBounds_toArray, List.set_cons_zero, List.set_cons_succ]
          refine wpAnyH_take (i := 20) (oi := { dst := some 80, op := Op.load 32 (Operand.tmp 9), type := 32, pos := "law.go:88", after := #[{ on := 16, ground := Ground.guard }], guard := some (16, false) }) (v := ?vv35) rfl (by kernel_rfl) (by kernel_rfl) (by kernel_rfl) (fun _ _ _ h => h) ?hy35 (by assumption) ?rest35
          case hy35 => (refine Or.inl ⟨by rfl, ?_⟩; intro W hSw; (try dsimp only at hSw); go_simp; (try with_reducible rfl))
          try simp only [Act.put, List.setIfInBounds_toArray, List.set_cons_zero, List.set_cons_succ]
          refine wpAnyH_take (i := 21) (oi := { dst := some 81, op := Op.move (Operand.tmp 12), type := 3, pos := "law.go:88", after := #[{ on := 16, ground := Ground.guard }], guard := some (16, false) }) (v := ?vv36) rfl (by kernel_rfl) (by kernel_rfl) (by kernel_rfl) (fun _ _ _ h => h) ?hy36 (by assumption) ?rest36
          case hy36 => (refine Or.inl ⟨by rfl, ?_⟩; intro W hSw; (try dsimp only at hSw); go_simp; (try with_reducible rfl))
          try simp only [Act.put, List.setIfInBounds_toArray, List.set_cons_zero, List.set_cons_succ]
          refine wpAnyH_ready (rs := [19]) (by kernel_rfl) (by simp) ?_
          refine AllReadyH.cons (o := { dst := some 79, op := Op.call { callee := Callee.value (Operand.func 16), args := #[Operand.tmp 77, Operand.tmp 78], argTypes := #[27, 3] }, type := 24, pos := "law.go:88", after := #[{ on := 17, ground := Ground.data }, { on := 18, ground := Ground.data }, { on := 16, ground := Ground.chain }, { on := 16, ground := Ground.guard }], guard := some (16, false) }) rfl (fun K hK => ?step37) ?more37
          case more37 => exact AllReadyH.nil
          ((go_simp; go_at_call 16; refine (HAS.out.below _ (m : Int) HC15.out).mono ?_; rintro e w16 ⟨v4, rfl, s4, hb16⟩; go_wp2_with fail))
          refine hK.out _ _ ?hS37 (fun hHeld => ?rr37)
          case hS37 => (exact HAS.out.box _ (HC15.out.trans (hb16.mono HC15.out.size)))
          clear hK K
          try simp only [Act.put, List.setIfInBounds_toArray, List.set_cons_zero, List.set_cons_succ]
          have HC16 := Lib.hid (HC15.out.trans (hb16.mono HC15.out.size))
          refine wpAnyH_ready (rs := [22]) (by kernel_rfl) (by simp) ?_
          refine AllReadyH.cons (o := { dst := some 82, op := Op.call { callee := Callee.value (Operand.func 17), args := #[Operand.tmp 80, Operand.tmp 81], argTypes := #[32, 3] }, type := 24, pos := "law.go:88", after := #[{ on := 20, ground := Ground.data }, { on := 21, ground := Ground.data }, { on := 19, ground := Ground.chain }, { on := 16, ground := Ground.guard }], guard := some (16, false) }) rfl (fun K hK => ?step38) ?more38
          case more38 => exact AllReadyH.nil
          ((go_simp; go_at_call 17; refine (HAS.out.rbelow _ (m : Int) HC16.out).mono ?_; rintro e w17 ⟨v5, rfl, s5, hb17⟩; go_wp2_with fail))
          refine hK.out _ _ ?hS38 (fun hHeld => ?rr38)
          case hS38 => (exact HAS.out.box _ (HC16.out.trans (hb17.mono HC16.out.size)))
          clear hK K
          try simp only [Act.put, List.setIfInBounds_toArray, List.set_cons_zero, List.set_cons_succ]
          have HC17 := Lib.hid (HC16.out.trans (hb17.mono HC16.out.size))
          have HQ3 := Lib.hid (HAS.out.sameB w17 v4 v5 (m : Int) (s4.below hb17) s5)
          refine wpAnyH_ready (rs := [23]) (by kernel_rfl) (by simp) ?_
          refine AllReadyH.cons (o := { dst := some 83, op := Op.call { callee := Callee.value (Operand.func 12), args := #[Operand.tmp 79, Operand.tmp 82], argTypes := #[24, 24] }, type := 4, pos := "law.go:88", after := #[{ on := 19, ground := Ground.data }, { on := 22, ground := Ground.data }, { on := 22, ground := Ground.chain }, { on := 16, ground := Ground.guard }], guard := some (16, false) }) rfl (fun K hK => ?step39) ?more39
          case more39 => exact AllReadyH.nil
          ((go_simp; go_at_call 12; refine (HQ3.out).mono ?_; rintro e w18 ⟨rfl, hb18⟩; go_wp2_with fail))
          refine hK.out _ _ ?hS39 (fun hHeld => ?rr39)
          case hS39 => (exact HAS.out.box _ (HC17.out.trans (hb18.mono HC17.out.size)))
          clear hK K
          try simp only [Act.put, List.setIfInBounds_toArray, List.set_cons_zero, List.set_cons_succ]
          have HC18 := Lib.hid (HC17.out.trans (hb18.mono HC17.out.size))
          refine wpAnyH_take (i := 24) (oi := { dst := some 84, op := Op.unOp UnOp.not 4 (Operand.tmp 83), type := 4, pos := "law.go:88", after := #[{ on := 23, ground := Ground.data }, { on := 16, ground := Ground.guard }], guard := some (16, false) }) (v := (.bool false)) rfl (by kernel_rfl) (by kernel_rfl) (by kernel_rfl) (fun _ _ _ h => h) ?hy40 (by assumption) ?rest40
          case hy40 => ((refine Or.inl ⟨by rfl, ?_⟩; intro W hSw; (try dsimp only at hSw); go_simp; (first | done | with_reducible rfl | simp)))
          try simp only [Act.put, List.setIfInBounds_toArray, List.set_cons_zero, List.set_cons_succ]
          refine wpAnyH_take (i := 25) (oi := { dst := some 85, op := Op.pick (Operand.tmp 76) (Operand.const (Value.bool true)) (Operand.tmp 84), type := 4, pos := "law.go:88", after := #[{ on := 16, ground := Ground.data }, { on := 24, ground := Ground.data }], guard := none }) (v := (.bool false)) rfl (by kernel_rfl) (by kernel_rfl) (by kernel_rfl) (fun _ _ _ h => h) ?hy41 (by assumption) ?rest41
          case hy41 => ((refine Or.inl ⟨by rfl, ?_⟩; intro W hSw; (try dsimp only at hSw); go_simp; (first | done | with_reducible rfl | simp)))
          try simp only [Act.put, List.setIfInBounds_toArray, List.set_cons_zero, List.set_cons_succ]
          refine wpAnyH_take (i := 26) (oi := { dst := some 86, op := Op.move (Operand.tmp 85), type := 4, pos := "law.go:88", after := #[{ on := 25, ground := Ground.data }, { on := 23, ground := Ground.chain }], guard := none }) (v := ?vv42) rfl (by kernel_rfl) (by kernel_rfl) (by kernel_rfl) (fun _ _ _ h => h) ?hy42 (by assumption) ?rest42
          case hy42 => (refine Or.inl ⟨by rfl, ?_⟩; intro W hSw; (try dsimp only at hSw); go_simp; (try with_reducible rfl))
          try simp only [Act.put, List.setIfInBounds_toArray, List.set_cons_zero, List.set_cons_succ]
          refine wpAnyH_take (i := 27) (oi := { dst := some 87, op := Op.load 27 (Operand.tmp 7), type := 27, pos := "law.go:88", after := #[{ on := 26, ground := Ground.guard }], guard := some (26, false) }) (v := ?vv43) rfl (by kernel_rfl) (by kernel_rfl) (by kernel_rfl) (fun _ _ _ h => h) ?hy43 (by assumption) ?rest43
          case hy43 => (refine Or.inl ⟨by rfl, ?_⟩; intro W hSw; (try dsimp only at hSw); go_simp; (try with_reducible rfl))
          try simp only [Act.put, List.setIfInBounds_toArray, List.set_cons_zero, List.set_cons_succ]
          refine wpAnyH_take (i := 28) (oi := { dst := some 88, op := Op.move (Operand.tmp 12), type := 3, pos := "law.go:88", after := #[{ on := 26, ground := Ground.guard }], guard := some (26, false) }) (v := ?vv44) rfl (by kernel_rfl) (by kernel_rfl) (by kernel_rfl) (fun _ _ _ h => h) ?hy44 (by assumption) ?rest44
          case hy44 => (refine Or.inl ⟨by rfl, ?_⟩; intro W hSw; (try dsimp only at hSw); go_simp; (try with_reducible rfl))
          try simp only [Act.put, List.setIfInBounds_toArray, List.set_cons_zero, List.set_cons_succ]
          refine wpAnyH_take (i := 30) (oi := { dst := some 90, op := Op.load 32 (Operand.tmp 9), type := 32, pos := "law.go:88", after := #[{ on := 26, ground := Ground.guard }], guard := some (26, false) }) (v := ?vv45) rfl (by kernel_rfl) (by kernel_rfl) (by kernel_rfl) (fun _ _ _ h => h) ?hy45 (by assumption) ?rest45
          case hy45 => (refine Or.inl ⟨by rfl, ?_⟩; intro W hSw; (try dsimp only at hSw); go_simp; (try with_reducible rfl))
          try simp only [Act.put, List.setIfInBounds_toArray, List.set_cons_zero, List.set_cons_succ]
          refine wpAnyH_take (i := 31) (oi := { dst := some 91, op := Op.move (Operand.tmp 12), type := 3, pos := "law.go:88", after := #[{ on := 26, ground := Ground.guard }], guard := some (26, false) }) (v := ?vv46) rfl (by kernel_rfl) (by kernel_rfl) (by kernel_rfl) (fun _ _ _ h => h) ?hy46 (by assumption) ?rest46
          case hy46 => (refine Or.inl ⟨by rfl, ?_⟩; intro W hSw; (try dsimp only at hSw); go_simp; (try with_reducible rfl))
          try simp only [Act.put, List.setIfInBounds_toArray, List.set_cons_zero, List.set_cons_succ]
          obtain ⟨lb, hlb⟩ : ∃ lb, (kidsP T m).isEmpty = lb := ⟨_, rfl⟩
          have HLF : Hid (Calls Tryd.prog 18 #[.agg #[.slice tA tn tc], .int .i64 (m : Int)] w18 fun e w' => e = .returned (.bool lb) ∧ Below w18.heap.size w18 w') := Lib.hid (by have := HAS.out.leaf w18 (m : Int) HC18.out; rwa [HLB.out, hlb] at this)
          have hkz : (((kidsP T m).length : Int) == 0) = lb := by
            rw [← hlb]
            cases kidsP T m with
            | nil => rfl
            | cons x r => simp; omega
          have HKD := Lib.hid (fun W hW => HAS.out.rkids W m p HM.out hW)
          obtain ⟨kl, hkl⟩ : ∃ kl, (kidsP T m).length = kl := ⟨_, rfl⟩
          rw [hkl] at hkz HKD
          clear hlb hkl
          refine wpAnyH_ready (rs := [29]) (by kernel_rfl) (by simp) ?_
          refine AllReadyH.cons (o := { dst := some 89, op := Op.call { callee := Callee.value (Operand.func 18), args := #[Operand.tmp 87, Operand.tmp 88], argTypes := #[27, 3] }, type := 4, pos := "law.go:88", after := #[{ on := 27, ground := Ground.data }, { on := 28, ground := Ground.data }, { on := 26, ground := Ground.chain }, { on := 26, ground := Ground.guard }], guard := some (26, false) }) rfl (fun K hK => ?step47) ?more47
          case more47 => exact AllReadyH.nil
          ((go_simp; go_at_call 18; refine (HLF.out).mono ?_; rintro e w19 ⟨rfl, hb19⟩; go_wp2_with fail))
          refine hK.out _ _ ?hS47 (fun hHeld => ?rr47)
          case hS47 => (exact HAS.out.box _ (HC18.out.trans (hb19.mono HC18.out.size)))
          clear hK K
          try simp only [Act.put, List.setIfInBounds_toArray, List.set_cons_zero, List.set_cons_succ]
          have HC19 := Lib.hid (HC18.out.trans (hb19.mono HC18.out.size))
          have HTH2 : Hid (Calls Tryd.prog 11 #[.agg #[.slice (some gA) T.length rc], .int .i64 (m : Int)] w19 fun e w' => e = .returned (.bool true) ∧ Below w19.heap.size w19 w') := Lib.hid (by have := HAS.out.rthere w19 (m : Int) HC19.out; rwa [HIN.out] at this)
          refine wpAnyH_ready (rs := [32]) (by kernel_rfl) (by simp) ?_
          refine AllReadyH.cons (o := { dst := some 92, op := Op.call { callee := Callee.value (Operand.func 11), args := #[Operand.tmp 90, Operand.tmp 91], argTypes := #[32, 3] }, type := 4, pos := "law.go:88", after := #[{ on := 30, ground := Ground.data }, { on := 31, ground := Ground.data }, { on := 29, ground := Ground.chain }, { on := 26, ground := Ground.guard }], guard := some (26, false) }) rfl (fun K hK => ?step48) ?more48
          case more48 => exact AllReadyH.nil
          ((go_simp; go_at_call 11; refine (HTH2.out).mono ?_; rintro e w20 ⟨rfl, hb20⟩; go_wp2_with fail))
          refine hK.out _ _ ?hS48 (fun hHeld => ?rr48)
          case hS48 => (exact HAS.out.box _ (HC19.out.trans (hb20.mono HC19.out.size)))
          clear hK K
          try simp only [Act.put, List.setIfInBounds_toArray, List.set_cons_zero, List.set_cons_succ]
          have HC20 := Lib.hid (HC19.out.trans (hb20.mono HC19.out.size))
          refine wpAnyH_take (i := 33) (oi := { dst := some 93, op := Op.move (Operand.tmp 92), type := 4, pos := "law.go:88", after := #[{ on := 32, ground := Ground.data }, { on := 32, ground := Ground.chain }, { on := 26, ground := Ground.guard }], guard := some (26, false) }) (v := ?vv49) rfl (by kernel_rfl) (by kernel_rfl) (by kernel_rfl) (fun _ _ _ h => h) ?hy49 (by assumption) ?rest49
          case hy49 => (refine Or.inl ⟨by rfl, ?_⟩; intro W hSw; (try dsimp only at hSw); go_simp; (try with_reducible rfl))
          try simp only [Act.put, List.setIfInBounds_toArray, List.set_cons_zero, List.set_cons_succ]
          refine wpAnyH_take (i := 34) (oi := { dst := some 94, op := Op.load 32 (Operand.tmp 9), type := 32, pos := "law.go:88", after := #[{ on := 33, ground := Ground.guard }], guard := some (33, true) }) (v := ?vv50) rfl (by kernel_rfl) (by kernel_rfl) (by kernel_rfl) (fun _ _ _ h => h) ?hy50 (by assumption) ?rest50
          case hy50 => (refine Or.inl ⟨by rfl, ?_⟩; intro W hSw; (try dsimp only at hSw); go_simp; (try with_reducible rfl))
          try simp only [Act.put, List.setIfInBounds_toArray, List.set_cons_zero, List.set_cons_succ]
          refine wpAnyH_take (i := 35) (oi := { dst := some 95, op := Op.move (Operand.tmp 12), type := 3, pos := "law.go:88", after := #[{ on := 33, ground := Ground.guard }], guard := some (33, true) }) (v := ?vv51) rfl (by kernel_rfl) (by kernel_rfl) (by kernel_rfl) (fun _ _ _ h => h) ?hy51 (by assumption) ?rest51
          case hy51 => (refine Or.inl ⟨by rfl, ?_⟩; intro W hSw; (try dsimp only at hSw); go_simp; (try with_reducible rfl))
          try simp only [Act.put, List.setIfInBounds_toArray, List.set_cons_zero, List.set_cons_succ]
          refine wpAnyH_ready (rs := [36]) (by kernel_rfl) (by simp) ?_
          refine AllReadyH.cons (o := { dst := some 96, op := Op.call { callee := Callee.value (Operand.func 19), args := #[Operand.tmp 94, Operand.tmp 95], argTypes := #[32, 3] }, type := 24, pos := "law.go:88", after := #[{ on := 34, ground := Ground.data }, { on := 35, ground := Ground.data }, { on := 33, ground := Ground.chain }, { on := 33, ground := Ground.guard }], guard := some (33, true) }) rfl (fun K hK => ?step52) ?more52
          case more52 => exact AllReadyH.nil
          ((go_simp; go_at_call 19; refine (HKD.out _ HC20.out).mono ?_; rintro e w21 ⟨kA, kc, rfl, hb21⟩; go_wp2_with fail))
          refine hK.out _ _ ?hS52 (fun hHeld => ?rr52)
          case hS52 => (exact HAS.out.box _ (HC20.out.trans (hb21.mono HC20.out.size)))
          clear hK K
          try simp only [Act.put, List.setIfInBounds_toArray, List.set_cons_zero, List.set_cons_succ]
          have HC21 := Lib.hid (HC20.out.trans (hb21.mono HC20.out.size))
          refine wpAnyH_take (i := 37) (oi := { dst := some 97, op := Op.call { callee := Callee.builtin Builtin.len, args := #[Operand.tmp 96], argTypes := #[24] }, type := 3, pos := "law.go:88", after := #[{ on := 36, ground := Ground.data }, { on := 33, ground := Ground.guard }], guard := some (33, true) }) (v := ?vv53) rfl (by kernel_rfl) (by kernel_rfl) (by kernel_rfl) (fun _ _ _ h => h) ?hy53 (by assumption) ?rest53
          case hy53 => (refine Or.inl ⟨by rfl, ?_⟩; intro W hSw; (try dsimp only at hSw); go_simp; (try with_reducible rfl))
          try simp only [Act.put, List.setIfInBounds_toArray, List.set_cons_zero, List.set_cons_succ]
          refine wpAnyH_take (i := 38) (oi := { dst := some 98, op := Op.binOp BinOp.eql 3 (Operand.tmp 97) (Operand.const (Value.int IntKind.i64 0)) 3, type := 4, pos := "law.go:88", after := #[{ on := 37, ground := Ground.data }, { on := 33, ground := Ground.guard }], guard := some (33, true) }) (v := (.bool lb)) rfl (by kernel_rfl) (by kernel_rfl) (by kernel_rfl) (fun _ _ _ h => h) ?hy54 (by assumption) ?rest54
          case hy54 => ((refine Or.inl ⟨by rfl, ?_⟩; intro W hSw; (try dsimp only at hSw); go_simp; (first | done | with_reducible rfl | simp)))
          try simp only [Act.put, List.setIfInBounds_toArray, List.set_cons_zero, List.set_cons_succ]
          refine wpAnyH_take (i := 39) (oi := { dst := some 99, op := Op.pick (Operand.tmp 93) (Operand.tmp 98) (Operand.const (Value.bool false)), type := 4, pos := "law.go:88", after := #[{ on := 33, ground := Ground.data }, { on := 38, ground := Ground.data }, { on := 26, ground := Ground.guard }], guard := some (26, false) }) (v := (.bool lb)) rfl (by kernel_rfl) (by kernel_rfl) (by kernel_rfl) (fun _ _ _ h => h) ?hy55 (by assumption) ?rest55
          case hy55 => ((refine Or.inl ⟨by rfl, ?_⟩; intro W hSw; (try dsimp only at hSw); go_simp; (first | done | with_reducible rfl | simp)))
          try simp only [Act.put, List.setIfInBounds_toArray, List.set_cons_zero, List.set_cons_succ]
          refine wpAnyH_take (i := 40) (oi := { dst := some 100, op := Op.binOp BinOp.neq 4 (Operand.tmp 89) (Operand.tmp 99) 4, type := 4, pos := "law.go:88", after := #[{ on := 29, ground := Ground.data }, { on := 39, ground := Ground.data }, { on := 26, ground := Ground.guard }], guard := some (26, false) }) (v := (.bool false)) rfl (by kernel_rfl) (by kernel_rfl) (by kernel_rfl) (fun _ _ _ h => h) ?hy56 (by assumption) ?rest56
          case hy56 => ((refine Or.inl ⟨by rfl, ?_⟩; intro W hSw; (try dsimp only at hSw); go_simp; (first | done | with_reducible rfl | simp)))
          try simp only [Act.put, List.setIfInBounds_toArray, List.set_cons_zero, List.set_cons_succ]
          refine wpAnyH_take (i := 41) (oi := { dst := some 101, op := Op.pick (Operand.tmp 86) (Operand.const (Value.bool true)) (Operand.tmp 100), type := 4, pos := "law.go:88", after := #[{ on := 26, ground := Ground.data }, { on := 40, ground := Ground.data }], guard := none }) (v := (.bool false)) rfl (by kernel_rfl) (by kernel_rfl) (by kernel_rfl) (fun _ _ _ h => h) ?hy57 (by assumption) ?rest57
          case hy57 => ((refine Or.inl ⟨by rfl, ?_⟩; intro W hSw; (try dsimp only at hSw); go_simp; (first | done | with_reducible rfl | simp)))
          try simp only [Act.put, List.setIfInBounds_toArray, List.set_cons_zero, List.set_cons_succ]
          refine wpAnyH_done (by kernel_rfl) ?_ _
          clear hHeld HS HQ1 HQ2 HQ3 HLF HTH2 s1 s2 s3 s4 s5 hb11 hb12 hb13 hb14 hb15 hb16 hb17 hb18 hb19 hb20 hb21 HKD hkz
          obtain ⟨hra, hrb⟩ := HRAB.out
          obtain ⟨hwa, hwb⟩ := HWAB.out
          have qr := (HAS.out.box _ HC21.out).2
          go_wp2_with fail
          clear qr hra hrb hwa hwb
          have hbx := below_new (w := w21) (.cells #[.int .i64 b, .int .i64 rb] 3)
          have hxx := alloc_at w21 (.cells #[.int .i64 b, .int .i64 rb] 3)
          obtain ⟨w30, hw30⟩ : ∃ w30, w30 = w21.alloc (.cells #[.int .i64 b, .int .i64 rb] 3) := ⟨_, rfl⟩
          rw [← hw30] at hbx hxx
          rw [← hw30]
          obtain ⟨bm, hbm⟩ : ∃ bm, w21.heap.size = bm := ⟨_, rfl⟩
          rw [hbm] at hxx
          rw [hbm]
          have HC30 := Lib.hid (HC21.out.trans (hbx.mono HC21.out.size))
          have HX30 := Lib.hid hxx
          clear hbx hxx hw30 hbm
          go_loopw [110] (fun jv wr => ∃ j : Nat, j ≤ 2 ∧ jv = .int .i64 j ∧ Below w30.heap.size w30 wr) (fun jv _ => 2 - (intOf jv).toNat)
          case atStart => exact ⟨0, Nat.zero_le _, rfl, Below.refl _ _⟩
          case round =>
            obtain ⟨j, hj, rfl, hbw⟩ := hrel
            have HBJ := Lib.hid hbw
            have hc31 := HC30.out.trans (hbw.mono HC30.out.size)
            have HC31 := Lib.hid hc31
            by_cases hlt : j < 2
            · have hjI : (j : Int) < 2 := by omega
              obtain ⟨z, kz⟩ : ∃ z : Int, wr.cell? ⟨bm, j, none⟩ = some (.int .i64 z) := by
                have hx := (hbw.block _ (heap_lt HX30.out)).trans HX30.out
                have hj2 : j = 0 ∨ j = 1 := by omega
                rcases hj2 with rfl | rfl
                · exact ⟨b, cell_of hx 0⟩
                · exact ⟨rb, cell_of hx 1⟩
              have HJLT := Lib.hid hlt
              have HS := Lib.hid (HAS.out.box _ (below_drew hc31))
              obtain ⟨x, hx⟩ : ∃ x, meetI T (m : Int) z = x := ⟨_, rfl⟩
              obtain ⟨y, hy⟩ : ∃ y, prefI T (m : Int) z = y := ⟨_, rfl⟩
              have HM1 : Hid (∀ W, Below w9.heap.size w9 W → Calls Tryd.prog 20 #[.agg #[.slice tA tn tc], .int .i64 (m : Int), .int .i64 z] W fun e w' => e = .returned (.int .i64 x) ∧ Below W.heap.size W w') := Lib.hid (fun W hW => by have := HAS.out.meet W (m : Int) z hW; rwa [hx] at this)
              have HM2 : Hid (∀ W, Below w9.heap.size w9 W → Calls Tryd.prog 21 #[.agg #[.slice (some gA) T.length rc], .int .i64 (m : Int), .int .i64 z] W fun e w' => e = .returned (.int .i64 x) ∧ Below W.heap.size W w') := Lib.hid (fun W hW => by have := HAS.out.rmeet W (m : Int) z hW; rwa [hx] at this)
              have HF1 : Hid (∀ W, Below w9.heap.size w9 W → Calls Tryd.prog 22 #[.agg #[.slice tA tn tc], .int .i64 (m : Int), .int .i64 z] W fun e w' => e = .returned (.bool y) ∧ Below W.heap.size W w') := Lib.hid (fun W hW => by have := HAS.out.pref W (m : Int) z hW; rwa [hy] at this)
              have HF2 : Hid (∀ W, Below w9.heap.size w9 W → Calls Tryd.prog 23 #[.agg #[.slice (some gA) T.length rc], .int .i64 (m : Int), .int .i64 z] W fun e w' => e = .returned (.bool y) ∧ Below W.heap.size W w') := Lib.hid (fun W hW => by have := HAS.out.rpref W (m : Int) z hW; rwa [hy] at this)
              have hxx2 : (x == x) = true := beq_self_eq_true x
              clear hj hbw hlt hc31 hx hy
              go_wp2_with fail
              refine wp_region_held_drew (S := fun W => W.cell? ⟨bt, 0, none⟩ = some (.slice tA tn tc) ∧ W.cell? ⟨br, 0, none⟩ = some (.slice (some gA) T.length rc)) (by kernel_rfl) HS.out (fun hHeld => ?_)
              refine wpAnyH_take (i := 0) (oi := { dst := some 114, op := Op.load 27 (Operand.tmp 7), type := 27, pos := "law.go:92", after := #[], guard := none }) (v := ?vv58) rfl (by kernel_rfl) (by kernel_rfl) (by kernel_rfl) (fun _ _ _ h => h) ?hy58 (by assumption) ?rest58
              case hy58 => (refine Or.inl ⟨by rfl, ?_⟩; intro W hSw; (try dsimp only at hSw); go_simp; (try with_reducible rfl))
              try simp only [Act.put, List.setIfInBounds_toArray, List.set_cons_zero, List.set_cons_succ]
              refine wpAnyH_take (i := 1) (oi := { dst := some 115, op := Op.move (Operand.tmp 12), type := 3, pos := "law.go:92", after := #[], guard := none }) (v := ?vv59) rfl (by kernel_rfl) (by kernel_rfl) (by kernel_rfl) (fun _ _ _ h => h) ?hy59 (by assumption) ?rest59
              case hy59 => (refine Or.inl ⟨by rfl, ?_⟩; intro W hSw; (try dsimp only at hSw); go_simp; (try with_reducible rfl))
              try simp only [Act.put, List.setIfInBounds_toArray, List.set_cons_zero, List.set_cons_succ]
              refine wpAnyH_take (i := 2) (oi := { dst := some 116, op := Op.move (Operand.tmp 15), type := 3, pos := "law.go:92", after := #[], guard := none }) (v := ?vv60) rfl (by kernel_rfl) (by kernel_rfl) (by kernel_rfl) (fun _ _ _ h => h) ?hy60 (by assumption) ?rest60
              case hy60 => (refine Or.inl ⟨by rfl, ?_⟩; intro W hSw; (try dsimp only at hSw); go_simp; (try with_reducible rfl))
              try simp only [Act.put, List.setIfInBounds_toArray, List.set_cons_zero, List.set_cons_succ]
              refine wpAnyH_take (i := 4) (oi := { dst := some 118, op := Op.load 32 (Operand.tmp 9), type := 32, pos := "law.go:92", after := #[], guard := none }) (v := ?vv61) rfl (by kernel_rfl) (by kernel_rfl) (by kernel_rfl) (fun _ _ _ h => h) ?hy61 (by assumption) ?rest61
              case hy61 => (refine Or.inl ⟨by rfl, ?_⟩; intro W hSw; (try dsimp only at hSw); go_simp; (try with_reducible rfl))
              try simp only [Act.put, List.setIfInBounds_toArray, List.set_cons_zero, List.set_cons_succ]
              refine wpAnyH_take (i := 5) (oi := { dst := some 119, op := Op.move (Operand.tmp 12), type := 3, pos := "law.go:92", after := #[], guard := none }) (v := ?vv62) rfl (by kernel_rfl) (by kernel_rfl) (by kernel_rfl) (fun _ _ _ h => h) ?hy62 (by assumption) ?rest62
              case hy62 => (refine Or.inl ⟨by rfl, ?_⟩; intro W hSw; (try dsimp only at hSw); go_simp; (try with_reducible rfl))
              try simp only [Act.put, List.setIfInBounds_toArray, List.set_cons_zero, List.set_cons_succ]
              refine wpAnyH_take (i := 6) (oi := { dst := some 120, op := Op.move (Operand.tmp 15), type := 3, pos := "law.go:92", after := #[], guard := none }) (v := ?vv63) rfl (by kernel_rfl) (by kernel_rfl) (by kernel_rfl) (fun _ _ _ h => h) ?hy63 (by assumption) ?rest63
              case hy63 => (refine Or.inl ⟨by rfl, ?_⟩; intro W hSw; (try dsimp only at hSw); go_simp; (try with_reducible rfl))
              try simp only [Act.put, List.setIfInBounds_toArray, List.set_cons_zero, List.set_cons_succ]
              refine wpAnyH_ready (rs := [3]) (by kernel_rfl) (by simp) ?_
              refine AllReadyH.cons (o := { dst := some 117, op := Op.call { callee := Callee.value (Operand.func 20), args := #[Operand.tmp 114, Operand.tmp 115, Operand.tmp 116], argTypes := #[27, 3, 3] }, type := 3, pos := "law.go:92", after := #[{ on := 0, ground := Ground.data }, { on := 1, ground := Ground.data }, { on := 2, ground := Ground.data }], guard := none }) rfl (fun K hK => ?step64) ?more64
              case more64 => exact AllReadyH.nil
              ((go_simp; go_at_call 20; refine (HM1.out _ (below_drew HC31.out)).mono ?_; rintro e w32 ⟨rfl, hb32⟩; go_wp2_with fail))
              refine hK.out _ _ ?hS64 (fun hHeld => ?rr64)
              case hS64 => (exact HAS.out.box _ (HC31.out.trans ((below_of_drew hb32).mono HC31.out.size)))
              clear hK K
              try simp only [Act.put, List.setIfInBounds_toArray, List.set_cons_zero, List.set_cons_succ]
              have HC32 := Lib.hid (HC31.out.trans ((below_of_drew hb32).mono HC31.out.size))
              have HD32 := Lib.hid (HBJ.out.trans ((below_of_drew hb32).mono HBJ.out.size))
              refine wpAnyH_ready (rs := [7]) (by kernel_rfl) (by simp) ?_
              refine AllReadyH.cons (o := { dst := some 121, op := Op.call { callee := Callee.value (Operand.func 21), args := #[Operand.tmp 118, Operand.tmp 119, Operand.tmp 120], argTypes := #[32, 3, 3] }, type := 3, pos := "law.go:92", after := #[{ on := 4, ground := Ground.data }, { on := 5, ground := Ground.data }, { on := 6, ground := Ground.data }, { on := 3, ground := Ground.chain }], guard := none }) rfl (fun K hK => ?step65) ?more65
              case more65 => exact AllReadyH.nil
              ((go_simp; go_at_call 21; refine (HM2.out _ HC32.out).mono ?_; rintro e w33 ⟨rfl, hb33⟩; go_wp2_with fail))
              refine hK.out _ _ ?hS65 (fun hHeld => ?rr65)
              case hS65 => (exact HAS.out.box _ (HC32.out.trans (hb33.mono HC32.out.size)))
              clear hK K
              try simp only [Act.put, List.setIfInBounds_toArray, List.set_cons_zero, List.set_cons_succ]
              have HC33 := Lib.hid (HC32.out.trans (hb33.mono HC32.out.size))
              have HD33 := Lib.hid (HD32.out.trans (hb33.mono HD32.out.size))
              refine wpAnyH_take (i := 8) (oi := { dst := some 122, op := Op.binOp BinOp.neq 3 (Operand.tmp 117) (Operand.tmp 121) 3, type := 4, pos := "law.go:92", after := #[{ on := 3, ground := Ground.data }, { on := 7, ground := Ground.data }], guard := none }) (v := (.bool false)) rfl (by kernel_rfl) (by kernel_rfl) (by kernel_rfl) (fun _ _ _ h => h) ?hy66 (by assumption) ?rest66
              case hy66 => ((refine Or.inl ⟨by rfl, ?_⟩; intro W hSw; (try dsimp only at hSw); go_simp; (first | done | with_reducible rfl | simp)))
              try simp only [Act.put, List.setIfInBounds_toArray, List.set_cons_zero, List.set_cons_succ]
              refine wpAnyH_take (i := 9) (oi := { dst := some 123, op := Op.move (Operand.tmp 122), type := 4, pos := "law.go:92", after := #[{ on := 8, ground := Ground.data }, { on := 7, ground := Ground.chain }], guard := none }) (v := ?vv67) rfl (by kernel_rfl) (by kernel_rfl) (by kernel_rfl) (fun _ _ _ h => h) ?hy67 (by assumption) ?rest67
              case hy67 => (refine Or.inl ⟨by rfl, ?_⟩; intro W hSw; (try dsimp only at hSw); go_simp; (try with_reducible rfl))
              try simp only [Act.put, List.setIfInBounds_toArray, List.set_cons_zero, List.set_cons_succ]
              refine wpAnyH_take (i := 10) (oi := { dst := some 124, op := Op.load 27 (Operand.tmp 7), type := 27, pos := "law.go:92", after := #[{ on := 9, ground := Ground.guard }], guard := some (9, false) }) (v := ?vv68) rfl (by kernel_rfl) (by kernel_rfl) (by kernel_rfl) (fun _ _ _ h => h) ?hy68 (by assumption) ?rest68
              case hy68 => (refine Or.inl ⟨by rfl, ?_⟩; intro W hSw; (try dsimp only at hSw); go_simp; (try with_reducible rfl))
              try simp only [Act.put, List.setIfInBounds_toArray, List.set_cons_zero, List.set_cons_succ]
              refine wpAnyH_take (i := 11) (oi := { dst := some 125, op := Op.move (Operand.tmp 12), type := 3, pos := "law.go:92", after := #[{ on := 9, ground := Ground.guard }], guard := some (9, false) }) (v := ?vv69) rfl (by kernel_rfl) (by kernel_rfl) (by kernel_rfl) (fun _ _ _ h => h) ?hy69 (by assumption) ?rest69
              case hy69 => (refine Or.inl ⟨by rfl, ?_⟩; intro W hSw; (try dsimp only at hSw); go_simp; (try with_reducible rfl))
              try simp only [Act.put, List.setIfInBounds_toArray, List.set_cons_zero, List.set_cons_succ]
              refine wpAnyH_take (i := 12) (oi := { dst := some 126, op := Op.move (Operand.tmp 15), type := 3, pos := "law.go:92", after := #[{ on := 9, ground := Ground.guard }], guard := some (9, false) }) (v := ?vv70) rfl (by kernel_rfl) (by kernel_rfl) (by kernel_rfl) (fun _ _ _ h => h) ?hy70 (by assumption) ?rest70
              case hy70 => (refine Or.inl ⟨by rfl, ?_⟩; intro W hSw; (try dsimp only at hSw); go_simp; (try with_reducible rfl))
              try simp only [Act.put, List.setIfInBounds_toArray, List.set_cons_zero, List.set_cons_succ]
              refine wpAnyH_take (i := 14) (oi := { dst := some 128, op := Op.load 32 (Operand.tmp 9), type := 32, pos := "law.go:92", after := #[{ on := 9, ground := Ground.guard }], guard := some (9, false) }) (v := ?vv71) rfl (by kernel_rfl) (by kernel_rfl) (by kernel_rfl) (fun _ _ _ h => h) ?hy71 (by assumption) ?rest71
              case hy71 => (refine Or.inl ⟨by rfl, ?_⟩; intro W hSw; (try dsimp only at hSw); go_simp; (try with_reducible rfl))
              try simp only [Act.put, List.setIfInBounds_toArray, List.set_cons_zero, List.set_cons_succ]
              refine wpAnyH_take (i := 15) (oi := { dst := some 129, op := Op.move (Operand.tmp 12), type := 3, pos := "law.go:92", after := #[{ on := 9, ground := Ground.guard }], guard := some (9, false) }) (v := ?vv72) rfl (by kernel_rfl) (by kernel_rfl) (by kernel_rfl) (fun _ _ _ h => h) ?hy72 (by assumption) ?rest72
              case hy72 => (refine Or.inl ⟨by rfl, ?_⟩; intro W hSw; (try dsimp only at hSw); go_simp; (try with_reducible rfl))
              try simp only [Act.put, List.setIfInBounds_toArray, List.set_cons_zero, List.set_cons_succ]
              refine wpAnyH_take (i := 16) (oi := { dst := some 130, op := Op.move (Operand.tmp 15), type := 3, pos := "law.go:92", after := #[{ on := 9, ground := Ground.guard }], guard := some (9, false) }) (v := ?vv73) rfl (by kernel_rfl) (by kernel_rfl) (by kernel_rfl) (fun _ _ _ h => h) ?hy73 (by assumption) ?rest73
              case hy73 => (refine Or.inl ⟨by rfl, ?_⟩; intro W hSw; (try dsimp only at hSw); go_simp; (try with_reducible rfl))
              try simp only [Act.put, List.setIfInBounds_toArray, List.set_cons_zero, List.set_cons_succ]
              refine wpAnyH_ready (rs := [13]) (by kernel_rfl) (by simp) ?_
              refine AllReadyH.cons (o := { dst := some 127, op := Op.call { callee := Callee.value (Operand.func 22), args := #[Operand.tmp 124, Operand.tmp 125, Operand.tmp 126], argTypes := #[27, 3, 3] }, type := 4, pos := "law.go:92", after := #[{ on := 10, ground := Ground.data }, { on := 11, ground := Ground.data }, { on := 12, ground := Ground.data }, { on := 9, ground := Ground.chain }, { on := 9, ground := Ground.guard }], guard := some (9, false) }) rfl (fun K hK => ?step74) ?more74
              case more74 => exact AllReadyH.nil
              ((go_simp; go_at_call 22; refine (HF1.out _ HC33.out).mono ?_; rintro e w34 ⟨rfl, hb34⟩; go_wp2_with fail))
              refine hK.out _ _ ?hS74 (fun hHeld => ?rr74)
              case hS74 => (exact HAS.out.box _ (HC33.out.trans (hb34.mono HC33.out.size)))
              clear hK K
              try simp only [Act.put, List.setIfInBounds_toArray, List.set_cons_zero, List.set_cons_succ]
              have HC34 := Lib.hid (HC33.out.trans (hb34.mono HC33.out.size))
              have HD34 := Lib.hid (HD33.out.trans (hb34.mono HD33.out.size))
              refine wpAnyH_ready (rs := [17]) (by kernel_rfl) (by simp) ?_
              refine AllReadyH.cons (o := { dst := some 131, op := Op.call { callee := Callee.value (Operand.func 23), args := #[Operand.tmp 128, Operand.tmp 129, Operand.tmp 130], argTypes := #[32, 3, 3] }, type := 4, pos := "law.go:92", after := #[{ on := 14, ground := Ground.data }, { on := 15, ground := Ground.data }, { on := 16, ground := Ground.data }, { on := 13, ground := Ground.chain }, { on := 9, ground := Ground.guard }], guard := some (9, false) }) rfl (fun K hK => ?step75) ?more75
              case more75 => exact AllReadyH.nil
              ((go_simp; go_at_call 23; refine (HF2.out _ HC34.out).mono ?_; rintro e w35 ⟨rfl, hb35⟩; go_wp2_with fail))
              refine hK.out _ _ ?hS75 (fun hHeld => ?rr75)
              case hS75 => (exact HAS.out.box _ (HC34.out.trans (hb35.mono HC34.out.size)))
              clear hK K
              try simp only [Act.put, List.setIfInBounds_toArray, List.set_cons_zero, List.set_cons_succ]
              have HC35 := Lib.hid (HC34.out.trans (hb35.mono HC34.out.size))
              have HD35 := Lib.hid (HD34.out.trans (hb35.mono HD34.out.size))
              refine wpAnyH_take (i := 18) (oi := { dst := some 132, op := Op.binOp BinOp.neq 4 (Operand.tmp 127) (Operand.tmp 131) 4, type := 4, pos := "law.go:92", after := #[{ on := 13, ground := Ground.data }, { on := 17, ground := Ground.data }, { on := 9, ground := Ground.guard }], guard := some (9, false) }) (v := (.bool false)) rfl (by kernel_rfl) (by kernel_rfl) (by kernel_rfl) (fun _ _ _ h => h) ?hy76 (by assumption) ?rest76
              case hy76 => ((refine Or.inl ⟨by rfl, ?_⟩; intro W hSw; (try dsimp only at hSw); go_simp; (first | done | with_reducible rfl | simp)))
              try simp only [Act.put, List.setIfInBounds_toArray, List.set_cons_zero, List.set_cons_succ]
              refine wpAnyH_take (i := 19) (oi := { dst := some 133, op := Op.pick (Operand.tmp 123) (Operand.const (Value.bool true)) (Operand.tmp 132), type := 4, pos := "law.go:92", after := #[{ on := 9, ground := Ground.data }, { on := 18, ground := Ground.data }], guard := none }) (v := (.bool false)) rfl (by kernel_rfl) (by kernel_rfl) (by kernel_rfl) (fun _ _ _ h => h) ?hy77 (by assumption) ?rest77
              case hy77 => ((refine Or.inl ⟨by rfl, ?_⟩; intro W hSw; (try dsimp only at hSw); go_simp; (first | done | with_reducible rfl | simp)))
              try simp only [Act.put, List.setIfInBounds_toArray, List.set_cons_zero, List.set_cons_succ]
              refine wpAnyH_done (by kernel_rfl) ?_ _
              clear hHeld HS hb32 hb33 hb34 hb35 HM1 HM2 HF1 HF2 kz
              go_wp2_with fail
              go_roundw
              case rel => exact ⟨j + 1, HJLT.out, by go_num, HD35.out⟩
              case measure => have := HJLT.out; simp [intOf]; omega
            · obtain rfl : j = 2 := by omega
              clear hj hbw hlt hc31
              go_wp2_with fail
              go_roundw
              case rel => exact ⟨i + 1, HLT.out, by go_num, HC31.out⟩
              case measure => have := HLT.out; simp [intOf]; omega
        · have hin : inI T n = false := by simpa using hin
          rw [hin] at HTH
          have HIN := Lib.hid hin
          clear hin
          go_wp2_with fail
          refine (HTH.out).mono ?_
          rintro e w10 ⟨rfl, hb10⟩
          have hc10 := HC9.out.trans (hb10.mono HC9.out.size)
          have HC10 := Lib.hid hc10
          have HPV : Hid (SIs w10 (.slice none 0 0) (pathI T n)) := Lib.hid (by rw [path_out HIN.out]; exact sis_nil w10)
          clear hb10 hc10 qr
          go_wp2_with fail
          have HS := Lib.hid (HAS.out.box _ (below_drew HC10.out))
          refine wp_region_held_drew (S := fun W => W.cell? ⟨bt, 0, none⟩ = some (.slice tA tn tc) ∧ W.cell? ⟨br, 0, none⟩ = some (.slice rA T.length rc)) (by kernel_rfl) HS.out (fun hHeld => ?_)
          refine wpAnyH_take (i := 0) (oi := { dst := some 60, op := Op.load 27 (Operand.tmp 7), type := 27, pos := "law.go:88", after := #[], guard := none }) (v := ?vv78) rfl (by kernel_rfl) (by kernel_rfl) (by kernel_rfl) (fun _ _ _ h => h) ?hy78 (by assumption) ?rest78
          case hy78 => (refine Or.inl ⟨by rfl, ?_⟩; intro W hSw; (try dsimp only at hSw); go_simp; (try with_reducible rfl))
          try simp only [Act.put, List.setIfInBounds_toArray, List.set_cons_zero, List.set_cons_succ]
          refine wpAnyH_take (i := 1) (oi := { dst := some 61, op := Op.move (Operand.tmp 12), type := 3, pos := "law.go:88", after := #[], guard := none }) (v := ?vv79) rfl (by kernel_rfl) (by kernel_rfl) (by kernel_rfl) (fun _ _ _ h => h) ?hy79 (by assumption) ?rest79
          case hy79 => (refine Or.inl ⟨by rfl, ?_⟩; intro W hSw; (try dsimp only at hSw); go_simp; (try with_reducible rfl))
          try simp only [Act.put, List.setIfInBounds_toArray, List.set_cons_zero, List.set_cons_succ]
          refine wpAnyH_take (i := 3) (oi := { dst := some 63, op := Op.move (Operand.tmp 13), type := 24, pos := "law.go:88", after := #[], guard := none }) (v := ?vv80) rfl (by kernel_rfl) (by kernel_rfl) (by kernel_rfl) (fun _ _ _ h => h) ?hy80 (by assumption) ?rest80
          case hy80 => (refine Or.inl ⟨by rfl, ?_⟩; intro W hSw; (try dsimp only at hSw); go_simp; (try with_reducible rfl))
          try simp only [Act.put, List.setIfInBounds_toArray, List.set_cons_zero, List.set_cons_succ]
          refine wpAnyH_ready (rs := [2]) (by kernel_rfl) (by simp) ?_
          refine AllReadyH.cons (o := { dst := some 62, op := Op.call { callee := Callee.value (Operand.func 13), args := #[Operand.tmp 60, Operand.tmp 61], argTypes := #[27, 3] }, type := 24, pos := "law.go:88", after := #[{ on := 0, ground := Ground.data }, { on := 1, ground := Ground.data }], guard := none }) rfl (fun K hK => ?step81) ?more81
          case more81 => exact AllReadyH.nil
          ((go_simp; go_at_call 13; refine (HAS.out.path _ n (below_drew HC10.out)).mono ?_; rintro e w11 ⟨v1, rfl, s1, hb11⟩; go_wp2_with fail))
          refine hK.out _ _ ?hS81 (fun hHeld => ?rr81)
          case hS81 => (exact HAS.out.box _ (HC10.out.trans ((below_of_drew hb11).mono HC10.out.size)))
          clear hK K
          try simp only [Act.put, List.setIfInBounds_toArray, List.set_cons_zero, List.set_cons_succ]
          have HC11 := Lib.hid (HC10.out.trans ((below_of_drew hb11).mono HC10.out.size))
          have HQ1 := Lib.hid (HAS.out.same w11 v1 (.slice none 0 0) n s1 (HPV.out.below (below_of_drew hb11)))
          refine wpAnyH_ready (rs := [4]) (by kernel_rfl) (by simp) ?_
          refine AllReadyH.cons (o := { dst := some 64, op := Op.call { callee := Callee.value (Operand.func 12), args := #[Operand.tmp 62, Operand.tmp 63], argTypes := #[24, 24] }, type := 4, pos := "law.go:88", after := #[{ on := 2, ground := Ground.data }, { on := 3, ground := Ground.data }, { on := 2, ground := Ground.chain }], guard := none }) rfl (fun K hK => ?step82) ?more82
          case more82 => exact AllReadyH.nil
          ((go_simp; go_at_call 12; refine (HQ1.out).mono ?_; rintro e w12 ⟨rfl, hb12⟩; go_wp2_with fail))
          refine hK.out _ _ ?hS82 (fun hHeld => ?rr82)
          case hS82 => (exact HAS.out.box _ (HC11.out.trans (hb12.mono HC11.out.size)))
          clear hK K
          try simp only [Act.put, List.setIfInBounds_toArray, List.set_cons_zero, List.set_cons_succ]
          have HC12 := Lib.hid (HC11.out.trans (hb12.mono HC11.out.size))
          refine wpAnyH_take (i := 5) (oi := { dst := some 65, op := Op.unOp UnOp.not 4 (Operand.tmp 64), type := 4, pos := "law.go:88", after := #[{ on := 4, ground := Ground.data }], guard := none }) (v := (.bool false)) rfl (by kernel_rfl) (by kernel_rfl) (by kernel_rfl) (fun _ _ _ h => h) ?hy83 (by assumption) ?rest83
          case hy83 => ((refine Or.inl ⟨by rfl, ?_⟩; intro W hSw; (try dsimp only at hSw); go_simp; (first | done | with_reducible rfl | simp)))
          try simp only [Act.put, List.setIfInBounds_toArray, List.set_cons_zero, List.set_cons_succ]
          refine wpAnyH_take (i := 6) (oi := { dst := some 66, op := Op.move (Operand.tmp 65), type := 4, pos := "law.go:88", after := #[{ on := 5, ground := Ground.data }, { on := 4, ground := Ground.chain }], guard := none }) (v := ?vv84) rfl (by kernel_rfl) (by kernel_rfl) (by kernel_rfl) (fun _ _ _ h => h) ?hy84 (by assumption) ?rest84
          case hy84 => (refine Or.inl ⟨by rfl, ?_⟩; intro W hSw; (try dsimp only at hSw); go_simp; (try with_reducible rfl))
          try simp only [Act.put, List.setIfInBounds_toArray, List.set_cons_zero, List.set_cons_succ]
          refine wpAnyH_take (i := 7) (oi := { dst := some 67, op := Op.load 27 (Operand.tmp 7), type := 27, pos := "law.go:88", after := #[{ on := 6, ground := Ground.guard }], guard := some (6, false) }) (v := ?vv85) rfl (by kernel_rfl) (by kernel_rfl) (by kernel_rfl) (fun _ _ _ h => h) ?hy85 (by assumption) ?rest85
          case hy85 => (refine Or.inl ⟨by rfl, ?_⟩; intro W hSw; (try dsimp only at hSw); go_simp; (try with_reducible rfl))
          try simp only [Act.put, List.setIfInBounds_toArray, List.set_cons_zero, List.set_cons_succ]
          refine wpAnyH_take (i := 8) (oi := { dst := some 68, op := Op.move (Operand.tmp 12), type := 3, pos := "law.go:88", after := #[{ on := 6, ground := Ground.guard }], guard := some (6, false) }) (v := ?vv86) rfl (by kernel_rfl) (by kernel_rfl) (by kernel_rfl) (fun _ _ _ h => h) ?hy86 (by assumption) ?rest86
          case hy86 => (refine Or.inl ⟨by rfl, ?_⟩; intro W hSw; (try dsimp only at hSw); go_simp; (try with_reducible rfl))
          try simp only [Act.put, List.setIfInBounds_toArray, List.set_cons_zero, List.set_cons_succ]
          refine wpAnyH_take (i := 10) (oi := { dst := some 70, op := Op.load 32 (Operand.tmp 9), type := 32, pos := "law.go:88", after := #[{ on := 6, ground := Ground.guard }], guard := some (6, false) }) (v := ?vv87) rfl (by kernel_rfl) (by kernel_rfl) (by kernel_rfl) (fun _ _ _ h => h) ?hy87 (by assumption) ?rest87
          case hy87 => (refine Or.inl ⟨by rfl, ?_⟩; intro W hSw; (try dsimp only at hSw); go_simp; (try with_reducible rfl))
          try simp only [Act.put, List.setIfInBounds_toArray, List.set_cons_zero, List.set_cons_succ]
          refine wpAnyH_take (i := 11) (oi := { dst := some 71, op := Op.move (Operand.tmp 12), type := 3, pos := "law.go:88", after := #[{ on := 6, ground := Ground.guard }], guard := some (6, false) }) (v := ?vv88) rfl (by kernel_rfl) (by kernel_rfl) (by kernel_rfl) (fun _ _ _ h => h) ?hy88 (by assumption) ?rest88
          case hy88 => (refine Or.inl ⟨by rfl, ?_⟩; intro W hSw; (try dsimp only at hSw); go_simp; (try with_reducible rfl))
          try simp only [Act.put, List.setIfInBounds_toArray, List.set_cons_zero, List.set_cons_succ]
          refine wpAnyH_ready (rs := [9]) (by kernel_rfl) (by simp) ?_
          refine AllReadyH.cons (o := { dst := some 69, op := Op.call { callee := Callee.value (Operand.func 14), args := #[Operand.tmp 67, Operand.tmp 68], argTypes := #[27, 3] }, type := 24, pos := "law.go:88", after := #[{ on := 7, ground := Ground.data }, { on := 8, ground := Ground.data }, { on := 6, ground := Ground.chain }, { on := 6, ground := Ground.guard }], guard := some (6, false) }) rfl (fun K hK => ?step89) ?more89
          case more89 => exact AllReadyH.nil
          ((go_simp; go_at_call 14; refine (HAS.out.above _ n HC12.out).mono ?_; rintro e w13 ⟨v2, rfl, s2, hb13⟩; go_wp2_with fail))
          refine hK.out _ _ ?hS89 (fun hHeld => ?rr89)
          case hS89 => (exact HAS.out.box _ (HC12.out.trans (hb13.mono HC12.out.size)))
          clear hK K
          try simp only [Act.put, List.setIfInBounds_toArray, List.set_cons_zero, List.set_cons_succ]
          have HC13 := Lib.hid (HC12.out.trans (hb13.mono HC12.out.size))
          refine wpAnyH_ready (rs := [12]) (by kernel_rfl) (by simp) ?_
          refine AllReadyH.cons (o := { dst := some 72, op := Op.call { callee := Callee.value (Operand.func 15), args := #[Operand.tmp 70, Operand.tmp 71], argTypes := #[32, 3] }, type := 24, pos := "law.go:88", after := #[{ on := 10, ground := Ground.data }, { on := 11, ground := Ground.data }, { on := 9, ground := Ground.chain }, { on := 6, ground := Ground.guard }], guard := some (6, false) }) rfl (fun K hK => ?step90) ?more90
          case more90 => exact AllReadyH.nil
          ((go_simp; go_at_call 15; refine (HAS.out.rabove _ n HC13.out).mono ?_; rintro e w14 ⟨v3, rfl, s3, hb14⟩; go_wp2_with fail))
          refine hK.out _ _ ?hS90 (fun hHeld => ?rr90)
          case hS90 => (exact HAS.out.box _ (HC13.out.trans (hb14.mono HC13.out.size)))
          clear hK K
          try simp only [Act.put, List.setIfInBounds_toArray, List.set_cons_zero, List.set_cons_succ]
          have HC14 := Lib.hid (HC13.out.trans (hb14.mono HC13.out.size))
          have HQ2 := Lib.hid (HAS.out.sameA w14 v2 v3 n (s2.below hb14) s3)
          refine wpAnyH_ready (rs := [13]) (by kernel_rfl) (by simp) ?_
          refine AllReadyH.cons (o := { dst := some 73, op := Op.call { callee := Callee.value (Operand.func 12), args := #[Operand.tmp 69, Operand.tmp 72], argTypes := #[24, 24] }, type := 4, pos := "law.go:88", after := #[{ on := 9, ground := Ground.data }, { on := 12, ground := Ground.data }, { on := 12, ground := Ground.chain }, { on := 6, ground := Ground.guard }], guard := some (6, false) }) rfl (fun K hK => ?step91) ?more91
          case more91 => exact AllReadyH.nil
          ((go_simp; go_at_call 12; refine (HQ2.out).mono ?_; rintro e w15 ⟨rfl, hb15⟩; go_wp2_with fail))
          refine hK.out _ _ ?hS91 (fun hHeld => ?rr91)
          case hS91 => (exact HAS.out.box _ (HC14.out.trans (hb15.mono HC14.out.size)))
          clear hK K
          try simp only [Act.put, List.setIfInBounds_toArray, List.set_cons_zero, List.set_cons_succ]
          have HC15 := Lib.hid (HC14.out.trans (hb15.mono HC14.out.size))
          refine wpAnyH_take (i := 14) (oi := { dst := some 74, op := Op.unOp UnOp.not 4 (Operand.tmp 73), type := 4, pos := "law.go:88", after := #[{ on := 13, ground := Ground.data }, { on := 6, ground := Ground.guard }], guard := some (6, false) }) (v := (.bool false)) rfl (by kernel_rfl) (by kernel_rfl) (by kernel_rfl) (fun _ _ _ h => h) ?hy92 (by assumption) ?rest92
          case hy92 => ((refine Or.inl ⟨by rfl, ?_⟩; intro W hSw; (try dsimp only at hSw); go_simp; (first | done | with_reducible rfl | simp)))
          try simp only [Act.put, List.setIfInBounds_toArray, List.set_cons_zero, List.set_cons_succ]
          refine wpAnyH_take (i := 15) (oi := { dst := some 75, op := Op.pick (Operand.tmp 66) (Operand.const (Value.bool true)) (Operand.tmp 74), type := 4, pos := "law.go:88", after := #[{ on := 6, ground := Ground.data }, { on := 14, ground := Ground.data }], guard := none }) (v := (.bool false)) rfl (by kernel_rfl) (by kernel_rfl) (by kernel_rfl) (fun _ _ _ h => h) ?hy93 (by assumption) ?rest93
          case hy93 => ((refine Or.inl ⟨by rfl, ?_⟩; intro W hSw; (try dsimp only at hSw); go_simp; (first | done | with_reducible rfl | simp)))
          try simp only [Act.put, List.setIfInBounds_toArray, List.set_cons_zero, List.set_cons_succ]
          refine wpAnyH_take (i := 16) (oi := { dst := some 76, op := Op.move (Operand.tmp 75), type := 4, pos := "law.go:88", after := #[{ on := 15, ground := Ground.data }, { on := 13, ground := Ground.chain }], guard := none }) (v := ?vv94) rfl (by kernel_rfl) (by kernel_rfl) (by kernel_rfl) (fun _ _ _ h => h) ?hy94 (by assumption) ?rest94
          case hy94 => (refine Or.inl ⟨by rfl, ?_⟩; intro W hSw; (try dsimp only at hSw); go_simp; (try with_reducible rfl))
          try simp only [Act.put, List.setIfInBounds_toArray, List.set_cons_zero, List.set_cons_succ]
          refine wpAnyH_take (i := 17) (oi := { dst := some 77, op := Op.load 27 (Operand.tmp 7), type := 27, pos := "law.go:88", after := #[{ on := 16, ground := Ground.guard }], guard := some (16, false) }) (v := ?vv95) rfl (by kernel_rfl) (by kernel_rfl) (by kernel_rfl) (fun _ _ _ h => h) ?hy95 (by assumption) ?rest95
          case hy95 => (refine Or.inl ⟨by rfl, ?_⟩; intro W hSw; (try dsimp only at hSw); go_simp; (try with_reducible rfl))
          try simp only [Act.put, List.setIfInBounds_toArray, List.set_cons_zero, List.set_cons_succ]
          refine wpAnyH_take (i := 18) (oi := { dst := some 78, op := Op.move (Operand.tmp 12), type := 3, pos := "law.go:88", after := #[{ on := 16, ground := Ground.guard }], guard := some (16, false) }) (v := ?vv96) rfl (by kernel_rfl) (by kernel_rfl) (by kernel_rfl) (fun _ _ _ h => h) ?hy96 (by assumption) ?rest96
          case hy96 => (refine Or.inl ⟨by rfl, ?_⟩; intro W hSw; (try dsimp only at hSw); go_simp; (try with_reducible rfl))
          try simp only [Act.put, List.setIfInBounds_toArray, List.set_cons_zero, List.set_cons_succ]
          refine wpAnyH_take (i := 20) (oi := { dst := some 80, op := Op.load 32 (Operand.tmp 9), type := 32, pos := "law.go:88", after := #[{ on := 16, ground := Ground.guard }], guard := some (16, false) }) (v := ?vv97) rfl (by kernel_rfl) (by kernel_rfl) (by kernel_rfl) (fun _ _ _ h => h) ?hy97 (by assumption) ?rest97
          case hy97 => (refine Or.inl ⟨by rfl, ?_⟩; intro W hSw; (try dsimp only at hSw); go_simp; (try with_reducible rfl))
          try simp only [Act.put, List.setIfInBounds_toArray, List.set_cons_zero, List.set_cons_succ]
          refine wpAnyH_take (i := 21) (oi := { dst := some 81, op := Op.move (Operand.tmp 12), type := 3, pos := "law.go:88", after := #[{ on := 16, ground := Ground.guard }], guard := some (16, false) }) (v := ?vv98) rfl (by kernel_rfl) (by kernel_rfl) (by kernel_rfl) (fun _ _ _ h => h) ?hy98 (by assumption) ?rest98
          case hy98 => (refine Or.inl ⟨by rfl, ?_⟩; intro W hSw; (try dsimp only at hSw); go_simp; (try with_reducible rfl))
          try simp only [Act.put, List.setIfInBounds_toArray, List.set_cons_zero, List.set_cons_succ]
          refine wpAnyH_ready (rs := [19]) (by kernel_rfl) (by simp) ?_
          refine AllReadyH.cons (o := { dst := some 79, op := Op.call { callee := Callee.value (Operand.func 16), args := #[Operand.tmp 77, Operand.tmp 78], argTypes := #[27, 3] }, type := 24, pos := "law.go:88", after := #[{ on := 17, ground := Ground.data }, { on := 18, ground := Ground.data }, { on := 16, ground := Ground.chain }, { on := 16, ground := Ground.guard }], guard := some (16, false) }) rfl (fun K hK => ?step99) ?more99
          case more99 => exact AllReadyH.nil
          ((go_simp; go_at_call 16; refine (HAS.out.below _ n HC15.out).mono ?_; rintro e w16 ⟨v4, rfl, s4, hb16⟩; go_wp2_with fail))
          refine hK.out _ _ ?hS99 (fun hHeld => ?rr99)
          case hS99 => (exact HAS.out.box _ (HC15.out.trans (hb16.mono HC15.out.size)))
          clear hK K
          try simp only [Act.put, List.setIfInBounds_toArray, List.set_cons_zero, List.set_cons_succ]
          have HC16 := Lib.hid (HC15.out.trans (hb16.mono HC15.out.size))
          refine wpAnyH_ready (rs := [22]) (by kernel_rfl) (by simp) ?_
          refine AllReadyH.cons (o := { dst := some 82, op := Op.call { callee := Callee.value (Operand.func 17), args := #[Operand.tmp 80, Operand.tmp 81], argTypes := #[32, 3] }, type := 24, pos := "law.go:88", after := #[{ on := 20, ground := Ground.data }, { on := 21, ground := Ground.data }, { on := 19, ground := Ground.chain }, { on := 16, ground := Ground.guard }], guard := some (16, false) }) rfl (fun K hK => ?step100) ?more100
          case more100 => exact AllReadyH.nil
          ((go_simp; go_at_call 17; refine (HAS.out.rbelow _ n HC16.out).mono ?_; rintro e w17 ⟨v5, rfl, s5, hb17⟩; go_wp2_with fail))
          refine hK.out _ _ ?hS100 (fun hHeld => ?rr100)
          case hS100 => (exact HAS.out.box _ (HC16.out.trans (hb17.mono HC16.out.size)))
          clear hK K
          try simp only [Act.put, List.setIfInBounds_toArray, List.set_cons_zero, List.set_cons_succ]
          have HC17 := Lib.hid (HC16.out.trans (hb17.mono HC16.out.size))
          have HQ3 := Lib.hid (HAS.out.sameB w17 v4 v5 n (s4.below hb17) s5)
          refine wpAnyH_ready (rs := [23]) (by kernel_rfl) (by simp) ?_
          refine AllReadyH.cons (o := { dst := some 83, op := Op.call { callee := Callee.value (Operand.func 12), args := #[Operand.tmp 79, Operand.tmp 82], argTypes := #[24, 24] }, type := 4, pos := "law.go:88", after := #[{ on := 19, ground := Ground.data }, { on := 22, ground := Ground.data }, { on := 22, ground := Ground.chain }, { on := 16, ground := Ground.guard }], guard := some (16, false) }) rfl (fun K hK => ?step101) ?more101
          case more101 => exact AllReadyH.nil
          ((go_simp; go_at_call 12; refine (HQ3.out).mono ?_; rintro e w18 ⟨rfl, hb18⟩; go_wp2_with fail))
          refine hK.out _ _ ?hS101 (fun hHeld => ?rr101)
          case hS101 => (exact HAS.out.box _ (HC17.out.trans (hb18.mono HC17.out.size)))
          clear hK K
          try simp only [Act.put, List.setIfInBounds_toArray, List.set_cons_zero, List.set_cons_succ]
          have HC18 := Lib.hid (HC17.out.trans (hb18.mono HC17.out.size))
          refine wpAnyH_take (i := 24) (oi := { dst := some 84, op := Op.unOp UnOp.not 4 (Operand.tmp 83), type := 4, pos := "law.go:88", after := #[{ on := 23, ground := Ground.data }, { on := 16, ground := Ground.guard }], guard := some (16, false) }) (v := (.bool false)) rfl (by kernel_rfl) (by kernel_rfl) (by kernel_rfl) (fun _ _ _ h => h) ?hy102 (by assumption) ?rest102
          case hy102 => ((refine Or.inl ⟨by rfl, ?_⟩; intro W hSw; (try dsimp only at hSw); go_simp; (first | done | with_reducible rfl | simp)))
          try simp only [Act.put, List.setIfInBounds_toArray, List.set_cons_zero, List.set_cons_succ]
          refine wpAnyH_take (i := 25) (oi := { dst := some 85, op := Op.pick (Operand.tmp 76) (Operand.const (Value.bool true)) (Operand.tmp 84), type := 4, pos := "law.go:88", after := #[{ on := 16, ground := Ground.data }, { on := 24, ground := Ground.data }], guard := none }) (v := (.bool false)) rfl (by kernel_rfl) (by kernel_rfl) (by kernel_rfl) (fun _ _ _ h => h) ?hy103 (by assumption) ?rest103
          case hy103 => ((refine Or.inl ⟨by rfl, ?_⟩; intro W hSw; (try dsimp only at hSw); go_simp; (first | done | with_reducible rfl | simp)))
          try simp only [Act.put, List.setIfInBounds_toArray, List.set_cons_zero, List.set_cons_succ]
          refine wpAnyH_take (i := 26) (oi := { dst := some 86, op := Op.move (Operand.tmp 85), type := 4, pos := "law.go:88", after := #[{ on := 25, ground := Ground.data }, { on := 23, ground := Ground.chain }], guard := none }) (v := ?vv104) rfl (by kernel_rfl) (by kernel_rfl) (by kernel_rfl) (fun _ _ _ h => h) ?hy104 (by assumption) ?rest104
          case hy104 => (refine Or.inl ⟨by rfl, ?_⟩; intro W hSw; (try dsimp only at hSw); go_simp; (try with_reducible rfl))
          try simp only [Act.put, List.setIfInBounds_toArray, List.set_cons_zero, List.set_cons_succ]
          refine wpAnyH_take (i := 27) (oi := { dst := some 87, op := Op.load 27 (Operand.tmp 7), type := 27, pos := "law.go:88", after := #[{ on := 26, ground := Ground.guard }], guard := some (26, false) }) (v := ?vv105) rfl (by kernel_rfl) (by kernel_rfl) (by kernel_rfl) (fun _ _ _ h => h) ?hy105 (by assumption) ?rest105
          case hy105 => (refine Or.inl ⟨by rfl, ?_⟩; intro W hSw; (try dsimp only at hSw); go_simp; (try with_reducible rfl))
          try simp only [Act.put, List.setIfInBounds_toArray, List.set_cons_zero, List.set_cons_succ]
          refine wpAnyH_take (i := 28) (oi := { dst := some 88, op := Op.move (Operand.tmp 12), type := 3, pos := "law.go:88", after := #[{ on := 26, ground := Ground.guard }], guard := some (26, false) }) (v := ?vv106) rfl (by kernel_rfl) (by kernel_rfl) (by kernel_rfl) (fun _ _ _ h => h) ?hy106 (by assumption) ?rest106
          case hy106 => (refine Or.inl ⟨by rfl, ?_⟩; intro W hSw; (try dsimp only at hSw); go_simp; (try with_reducible rfl))
          try simp only [Act.put, List.setIfInBounds_toArray, List.set_cons_zero, List.set_cons_succ]
          refine wpAnyH_take (i := 30) (oi := { dst := some 90, op := Op.load 32 (Operand.tmp 9), type := 32, pos := "law.go:88", after := #[{ on := 26, ground := Ground.guard }], guard := some (26, false) }) (v := ?vv107) rfl (by kernel_rfl) (by kernel_rfl) (by kernel_rfl) (fun _ _ _ h => h) ?hy107 (by assumption) ?rest107
          case hy107 => (refine Or.inl ⟨by rfl, ?_⟩; intro W hSw; (try dsimp only at hSw); go_simp; (try with_reducible rfl))
          try simp only [Act.put, List.setIfInBounds_toArray, List.set_cons_zero, List.set_cons_succ]
          refine wpAnyH_take (i := 31) (oi := { dst := some 91, op := Op.move (Operand.tmp 12), type := 3, pos := "law.go:88", after := #[{ on := 26, ground := Ground.guard }], guard := some (26, false) }) (v := ?vv108) rfl (by kernel_rfl) (by kernel_rfl) (by kernel_rfl) (fun _ _ _ h => h) ?hy108 (by assumption) ?rest108
          case hy108 => (refine Or.inl ⟨by rfl, ?_⟩; intro W hSw; (try dsimp only at hSw); go_simp; (try with_reducible rfl))
          try simp only [Act.put, List.setIfInBounds_toArray, List.set_cons_zero, List.set_cons_succ]
          have HLF : Hid (Calls Tryd.prog 18 #[.agg #[.slice tA tn tc], .int .i64 n] w18 fun e w' => e = .returned (.bool false) ∧ Below w18.heap.size w18 w') := Lib.hid (by have := HAS.out.leaf w18 n HC18.out; rwa [leafB_out HIN.out] at this)
          refine wpAnyH_ready (rs := [29]) (by kernel_rfl) (by simp) ?_
          refine AllReadyH.cons (o := { dst := some 89, op := Op.call { callee := Callee.value (Operand.func 18), args := #[Operand.tmp 87, Operand.tmp 88], argTypes := #[27, 3] }, type := 4, pos := "law.go:88", after := #[{ on := 27, ground := Ground.data }, { on := 28, ground := Ground.data }, { on := 26, ground := Ground.chain }, { on := 26, ground := Ground.guard }], guard := some (26, false) }) rfl (fun K hK => ?step109) ?more109
          case more109 => exact AllReadyH.nil
          ((go_simp; go_at_call 18; refine (HLF.out).mono ?_; rintro e w19 ⟨rfl, hb19⟩; go_wp2_with fail))
          refine hK.out _ _ ?hS109 (fun hHeld => ?rr109)
          case hS109 => (exact HAS.out.box _ (HC18.out.trans (hb19.mono HC18.out.size)))
          clear hK K
          try simp only [Act.put, List.setIfInBounds_toArray, List.set_cons_zero, List.set_cons_succ]
          have HC19 := Lib.hid (HC18.out.trans (hb19.mono HC18.out.size))
          have HTH2 : Hid (Calls Tryd.prog 11 #[.agg #[.slice rA T.length rc], .int .i64 n] w19 fun e w' => e = .returned (.bool false) ∧ Below w19.heap.size w19 w') := Lib.hid (by have := HAS.out.rthere w19 n HC19.out; rwa [HIN.out] at this)
          refine wpAnyH_ready (rs := [32]) (by kernel_rfl) (by simp) ?_
          refine AllReadyH.cons (o := { dst := some 92, op := Op.call { callee := Callee.value (Operand.func 11), args := #[Operand.tmp 90, Operand.tmp 91], argTypes := #[32, 3] }, type := 4, pos := "law.go:88", after := #[{ on := 30, ground := Ground.data }, { on := 31, ground := Ground.data }, { on := 29, ground := Ground.chain }, { on := 26, ground := Ground.guard }], guard := some (26, false) }) rfl (fun K hK => ?step110) ?more110
          case more110 => exact AllReadyH.nil
          ((go_simp; go_at_call 11; refine (HTH2.out).mono ?_; rintro e w20 ⟨rfl, hb20⟩; go_wp2_with fail))
          refine hK.out _ _ ?hS110 (fun hHeld => ?rr110)
          case hS110 => (exact HAS.out.box _ (HC19.out.trans (hb20.mono HC19.out.size)))
          clear hK K
          try simp only [Act.put, List.setIfInBounds_toArray, List.set_cons_zero, List.set_cons_succ]
          have HC20 := Lib.hid (HC19.out.trans (hb20.mono HC19.out.size))
          refine wpAnyH_take (i := 33) (oi := { dst := some 93, op := Op.move (Operand.tmp 92), type := 4, pos := "law.go:88", after := #[{ on := 32, ground := Ground.data }, { on := 32, ground := Ground.chain }, { on := 26, ground := Ground.guard }], guard := some (26, false) }) (v := ?vv111) rfl (by kernel_rfl) (by kernel_rfl) (by kernel_rfl) (fun _ _ _ h => h) ?hy111 (by assumption) ?rest111
          case hy111 => (refine Or.inl ⟨by rfl, ?_⟩; intro W hSw; (try dsimp only at hSw); go_simp; (try with_reducible rfl))
          try simp only [Act.put, List.setIfInBounds_toArray, List.set_cons_zero, List.set_cons_succ]
          refine wpAnyH_take (i := 34) (oi := { dst := some 94, op := Op.load 32 (Operand.tmp 9), type := 32, pos := "law.go:88", after := #[{ on := 33, ground := Ground.guard }], guard := some (33, true) }) (v := undef) rfl (by kernel_rfl) (by kernel_rfl) (by kernel_rfl) (fun _ _ _ h => h) ?hy112 (by assumption) ?rest112
          case hy112 => (exact Or.inr ⟨by rfl, rfl⟩)
          try simp only [Act.put, List.setIfInBounds_toArray, List.set_cons_zero, List.set_cons_succ]
          refine wpAnyH_take (i := 35) (oi := { dst := some 95, op := Op.move (Operand.tmp 12), type := 3, pos := "law.go:88", after := #[{ on := 33, ground := Ground.guard }], guard := some (33, true) }) (v := undef) rfl (by kernel_rfl) (by kernel_rfl) (by kernel_rfl) (fun _ _ _ h => h) ?hy113 (by assumption) ?rest113
          case hy113 => (exact Or.inr ⟨by rfl, rfl⟩)
          try simp only [Act.put, List.setIfInBounds_toArray, List.set_cons_zero, List.set_cons_succ]
          refine wpAnyH_take (i := 36) (oi := { dst := some 96, op := Op.call { callee := Callee.value (Operand.func 19), args := #[Operand.tmp 94, Operand.tmp 95], argTypes := #[32, 3] }, type := 24, pos := "law.go:88", after := #[{ on := 34, ground := Ground.data }, { on := 35, ground := Ground.data }, { on := 33, ground := Ground.chain }, { on := 33, ground := Ground.guard }], guard := some (33, true) }) (v := undef) rfl (by kernel_rfl) (by kernel_rfl) (by kernel_rfl) (fun _ _ _ h => h) ?hy114 (by assumption) ?rest114
          case hy114 => (exact Or.inr ⟨by rfl, rfl⟩)
          try simp only [Act.put, List.setIfInBounds_toArray, List.set_cons_zero, List.set_cons_succ]
          refine wpAnyH_take (i := 37) (oi := { dst := some 97, op := Op.call { callee := Callee.builtin Builtin.len, args := #[Operand.tmp 96], argTypes := #[24] }, type := 3, pos := "law.go:88", after := #[{ on := 36, ground := Ground.data }, { on := 33, ground := Ground.guard }], guard := some (33, true) }) (v := undef) rfl (by kernel_rfl) (by kernel_rfl) (by kernel_rfl) (fun _ _ _ h => h) ?hy115 (by assumption) ?rest115
          case hy115 => (exact Or.inr ⟨by rfl, rfl⟩)
          try simp only [Act.put, List.setIfInBounds_toArray, List.set_cons_zero, List.set_cons_succ]
          refine wpAnyH_take (i := 38) (oi := { dst := some 98, op := Op.binOp BinOp.eql 3 (Operand.tmp 97) (Operand.const (Value.int IntKind.i64 0)) 3, type := 4, pos := "law.go:88", after := #[{ on := 37, ground := Ground.data }, { on := 33, ground := Ground.guard }], guard := some (33, true) }) (v := undef) rfl (by kernel_rfl) (by kernel_rfl) (by kernel_rfl) (fun _ _ _ h => h) ?hy116 (by assumption) ?rest116
          case hy116 => (exact Or.inr ⟨by rfl, rfl⟩)
          try simp only [Act.put, List.setIfInBounds_toArray, List.set_cons_zero, List.set_cons_succ]
          refine wpAnyH_take (i := 39) (oi := { dst := some 99, op := Op.pick (Operand.tmp 93) (Operand.tmp 98) (Operand.const (Value.bool false)), type := 4, pos := "law.go:88", after := #[{ on := 33, ground := Ground.data }, { on := 38, ground := Ground.data }, { on := 26, ground := Ground.guard }], guard := some (26, false) }) (v := (.bool false)) rfl (by kernel_rfl) (by kernel_rfl) (by kernel_rfl) (fun _ _ _ h => h) ?hy117 (by assumption) ?rest117
          case hy117 => ((refine Or.inl ⟨by rfl, ?_⟩; intro W hSw; (try dsimp only at hSw); go_simp; (first | done | with_reducible rfl | simp)))
          try simp only [Act.put, List.setIfInBounds_toArray, List.set_cons_zero, List.set_cons_succ]
          refine wpAnyH_take (i := 40) (oi := { dst := some 100, op := Op.binOp BinOp.neq 4 (Operand.tmp 89) (Operand.tmp 99) 4, type := 4, pos := "law.go:88", after := #[{ on := 29, ground := Ground.data }, { on := 39, ground := Ground.data }, { on := 26, ground := Ground.guard }], guard := some (26, false) }) (v := (.bool false)) rfl (by kernel_rfl) (by kernel_rfl) (by kernel_rfl) (fun _ _ _ h => h) ?hy118 (by assumption) ?rest118
          case hy118 => ((refine Or.inl ⟨by rfl, ?_⟩; intro W hSw; (try dsimp only at hSw); go_simp; (first | done | with_reducible rfl | simp)))
          try simp only [Act.put, List.setIfInBounds_toArray, List.set_cons_zero, List.set_cons_succ]
          refine wpAnyH_take (i := 41) (oi := { dst := some 101, op := Op.pick (Operand.tmp 86) (Operand.const (Value.bool true)) (Operand.tmp 100), type := 4, pos := "law.go:88", after := #[{ on := 26, ground := Ground.data }, { on := 40, ground := Ground.data }], guard := none }) (v := (.bool false)) rfl (by kernel_rfl) (by kernel_rfl) (by kernel_rfl) (fun _ _ _ h => h) ?hy119 (by assumption) ?rest119
          case hy119 => ((refine Or.inl ⟨by rfl, ?_⟩; intro W hSw; (try dsimp only at hSw); go_simp; (first | done | with_reducible rfl | simp)))
          try simp only [Act.put, List.setIfInBounds_toArray, List.set_cons_zero, List.set_cons_succ]
          refine wpAnyH_done (by kernel_rfl) ?_ _
          clear hHeld HS HQ1 HQ2 HQ3 HLF HTH2 s1 s2 s3 s4 s5 hb11 hb12 hb13 hb14 hb15 hb16 hb17 hb18 hb19 hb20
          obtain ⟨hra, hrb⟩ := HRAB.out
          obtain ⟨hwa, hwb⟩ := HWAB.out
          have qr := (HAS.out.box _ HC20.out).2
          go_wp2_with fail
          clear qr hra hrb hwa hwb
          have hbx := below_new (w := w20) (.cells #[.int .i64 b, .int .i64 rb] 3)
          have hxx := alloc_at w20 (.cells #[.int .i64 b, .int .i64 rb] 3)
          obtain ⟨w30, hw30⟩ : ∃ w30, w30 = w20.alloc (.cells #[.int .i64 b, .int .i64 rb] 3) := ⟨_, rfl⟩
          rw [← hw30] at hbx hxx
          rw [← hw30]
          obtain ⟨bm, hbm⟩ : ∃ bm, w20.heap.size = bm := ⟨_, rfl⟩
          rw [hbm] at hxx
          rw [hbm]
          have HC30 := Lib.hid (HC20.out.trans (hbx.mono HC20.out.size))
          have HX30 := Lib.hid hxx
          clear hbx hxx hw30 hbm
          go_loopw [110] (fun jv wr => ∃ j : Nat, j ≤ 2 ∧ jv = .int .i64 j ∧ Below w30.heap.size w30 wr) (fun jv _ => 2 - (intOf jv).toNat)
          case atStart => exact ⟨0, Nat.zero_le _, rfl, Below.refl _ _⟩
          case round =>
            obtain ⟨j, hj, rfl, hbw⟩ := hrel
            have HBJ := Lib.hid hbw
            have hc31 := HC30.out.trans (hbw.mono HC30.out.size)
            have HC31 := Lib.hid hc31
            by_cases hlt : j < 2
            · have hjI : (j : Int) < 2 := by omega
              obtain ⟨z, kz⟩ : ∃ z : Int, wr.cell? ⟨bm, j, none⟩ = some (.int .i64 z) := by
                have hx := (hbw.block _ (heap_lt HX30.out)).trans HX30.out
                have hj2 : j = 0 ∨ j = 1 := by omega
                rcases hj2 with rfl | rfl
                · exact ⟨b, cell_of hx 0⟩
                · exact ⟨rb, cell_of hx 1⟩
              have HJLT := Lib.hid hlt
              have HS := Lib.hid (HAS.out.box _ (below_drew hc31))
              obtain ⟨x, hx⟩ : ∃ x, meetI T n z = x := ⟨_, rfl⟩
              obtain ⟨y, hy⟩ : ∃ y, prefI T n z = y := ⟨_, rfl⟩
              have HM1 : Hid (∀ W, Below w9.heap.size w9 W → Calls Tryd.prog 20 #[.agg #[.slice tA tn tc], .int .i64 n, .int .i64 z] W fun e w' => e = .returned (.int .i64 x) ∧ Below W.heap.size W w') := Lib.hid (fun W hW => by have := HAS.out.meet W n z hW; rwa [hx] at this)
              have HM2 : Hid (∀ W, Below w9.heap.size w9 W → Calls Tryd.prog 21 #[.agg #[.slice rA T.length rc], .int .i64 n, .int .i64 z] W fun e w' => e = .returned (.int .i64 x) ∧ Below W.heap.size W w') := Lib.hid (fun W hW => by have := HAS.out.rmeet W n z hW; rwa [hx] at this)
              have HF1 : Hid (∀ W, Below w9.heap.size w9 W → Calls Tryd.prog 22 #[.agg #[.slice tA tn tc], .int .i64 n, .int .i64 z] W fun e w' => e = .returned (.bool y) ∧ Below W.heap.size W w') := Lib.hid (fun W hW => by have := HAS.out.pref W n z hW; rwa [hy] at this)
              have HF2 : Hid (∀ W, Below w9.heap.size w9 W → Calls Tryd.prog 23 #[.agg #[.slice rA T.length rc], .int .i64 n, .int .i64 z] W fun e w' => e = .returned (.bool y) ∧ Below W.heap.size W w') := Lib.hid (fun W hW => by have := HAS.out.rpref W n z hW; rwa [hy] at this)
              have hxx2 : (x == x) = true := beq_self_eq_true x
              clear hj hbw hlt hc31 hx hy
              go_wp2_with fail
              refine wp_region_held_drew (S := fun W => W.cell? ⟨bt, 0, none⟩ = some (.slice tA tn tc) ∧ W.cell? ⟨br, 0, none⟩ = some (.slice rA T.length rc)) (by kernel_rfl) HS.out (fun hHeld => ?_)
              refine wpAnyH_take (i := 0) (oi := { dst := some 114, op := Op.load 27 (Operand.tmp 7), type := 27, pos := "law.go:92", after := #[], guard := none }) (v := ?vv120) rfl (by kernel_rfl) (by kernel_rfl) (by kernel_rfl) (fun _ _ _ h => h) ?hy120 (by assumption) ?rest120
              case hy120 => (refine Or.inl ⟨by rfl, ?_⟩; intro W hSw; (try dsimp only at hSw); go_simp; (try with_reducible rfl))
              try simp only [Act.put, List.setIfInBounds_toArray, List.set_cons_zero, List.set_cons_succ]
              refine wpAnyH_take (i := 1) (oi := { dst := some 115, op := Op.move (Operand.tmp 12), type := 3, pos := "law.go:92", after := #[], guard := none }) (v := ?vv121) rfl (by kernel_rfl) (by kernel_rfl) (by kernel_rfl) (fun _ _ _ h => h) ?hy121 (by assumption) ?rest121
              case hy121 => (refine Or.inl ⟨by rfl, ?_⟩; intro W hSw; (try dsimp only at hSw); go_simp; (try with_reducible rfl))
              try simp only [Act.put, List.setIfInBounds_toArray, List.set_cons_zero, List.set_cons_succ]
              refine wpAnyH_take (i := 2) (oi := { dst := some 116, op := Op.move (Operand.tmp 15), type := 3, pos := "law.go:92", after := #[], guard := none }) (v := ?vv122) rfl (by kernel_rfl) (by kernel_rfl) (by kernel_rfl) (fun _ _ _ h => h) ?hy122 (by assumption) ?rest122
              case hy122 => (refine Or.inl ⟨by rfl, ?_⟩; intro W hSw; (try dsimp only at hSw); go_simp; (try with_reducible rfl))
              try simp only [Act.put, List.setIfInBounds_toArray, List.set_cons_zero, List.set_cons_succ]
              refine wpAnyH_take (i := 4) (oi := { dst := some 118, op := Op.load 32 (Operand.tmp 9), type := 32, pos := "law.go:92", after := #[], guard := none }) (v := ?vv123) rfl (by kernel_rfl) (by kernel_rfl) (by kernel_rfl) (fun _ _ _ h => h) ?hy123 (by assumption) ?rest123
              case hy123 => (refine Or.inl ⟨by rfl, ?_⟩; intro W hSw; (try dsimp only at hSw); go_simp; (try with_reducible rfl))
              try simp only [Act.put, List.setIfInBounds_toArray, List.set_cons_zero, List.set_cons_succ]
              refine wpAnyH_take (i := 5) (oi := { dst := some 119, op := Op.move (Operand.tmp 12), type := 3, pos := "law.go:92", after := #[], guard := none }) (v := ?vv124) rfl (by kernel_rfl) (by kernel_rfl) (by kernel_rfl) (fun _ _ _ h => h) ?hy124 (by assumption) ?rest124
              case hy124 => (refine Or.inl ⟨by rfl, ?_⟩; intro W hSw; (try dsimp only at hSw); go_simp; (try with_reducible rfl))
              try simp only [Act.put, List.setIfInBounds_toArray, List.set_cons_zero, List.set_cons_succ]
              refine wpAnyH_take (i := 6) (oi := { dst := some 120, op := Op.move (Operand.tmp 15), type := 3, pos := "law.go:92", after := #[], guard := none }) (v := ?vv125) rfl (by kernel_rfl) (by kernel_rfl) (by kernel_rfl) (fun _ _ _ h => h) ?hy125 (by assumption) ?rest125
              case hy125 => (refine Or.inl ⟨by rfl, ?_⟩; intro W hSw; (try dsimp only at hSw); go_simp; (try with_reducible rfl))
              try simp only [Act.put, List.setIfInBounds_toArray, List.set_cons_zero, List.set_cons_succ]
              refine wpAnyH_ready (rs := [3]) (by kernel_rfl) (by simp) ?_
              refine AllReadyH.cons (o := { dst := some 117, op := Op.call { callee := Callee.value (Operand.func 20), args := #[Operand.tmp 114, Operand.tmp 115, Operand.tmp 116], argTypes := #[27, 3, 3] }, type := 3, pos := "law.go:92", after := #[{ on := 0, ground := Ground.data }, { on := 1, ground := Ground.data }, { on := 2, ground := Ground.data }], guard := none }) rfl (fun K hK => ?step126) ?more126
              case more126 => exact AllReadyH.nil
              ((go_simp; go_at_call 20; refine (HM1.out _ (below_drew HC31.out)).mono ?_; rintro e w32 ⟨rfl, hb32⟩; go_wp2_with fail))
              refine hK.out _ _ ?hS126 (fun hHeld => ?rr126)
              case hS126 => (exact HAS.out.box _ (HC31.out.trans ((below_of_drew hb32).mono HC31.out.size)))
              clear hK K
              try simp only [Act.put, List.setIfInBounds_toArray, List.set_cons_zero, List.set_cons_succ]
              have HC32 := Lib.hid (HC31.out.trans ((below_of_drew hb32).mono HC31.out.size))
              have HD32 := Lib.hid (HBJ.out.trans ((below_of_drew hb32).mono HBJ.out.size))
              refine wpAnyH_ready (rs := [7]) (by kernel_rfl) (by simp) ?_
              refine AllReadyH.cons (o := { dst := some 121, op := Op.call { callee := Callee.value (Operand.func 21), args := #[Operand.tmp 118, Operand.tmp 119, Operand.tmp 120], argTypes := #[32, 3, 3] }, type := 3, pos := "law.go:92", after := #[{ on := 4, ground := Ground.data }, { on := 5, ground := Ground.data }, { on := 6, ground := Ground.data }, { on := 3, ground := Ground.chain }], guard := none }) rfl (fun K hK => ?step127) ?more127
              case more127 => exact AllReadyH.nil
              ((go_simp; go_at_call 21; refine (HM2.out _ HC32.out).mono ?_; rintro e w33 ⟨rfl, hb33⟩; go_wp2_with fail))
              refine hK.out _ _ ?hS127 (fun hHeld => ?rr127)
              case hS127 => (exact HAS.out.box _ (HC32.out.trans (hb33.mono HC32.out.size)))
              clear hK K
              try simp only [Act.put, List.setIfInBounds_toArray, List.set_cons_zero, List.set_cons_succ]
              have HC33 := Lib.hid (HC32.out.trans (hb33.mono HC32.out.size))
              have HD33 := Lib.hid (HD32.out.trans (hb33.mono HD32.out.size))
              refine wpAnyH_take (i := 8) (oi := { dst := some 122, op := Op.binOp BinOp.neq 3 (Operand.tmp 117) (Operand.tmp 121) 3, type := 4, pos := "law.go:92", after := #[{ on := 3, ground := Ground.data }, { on := 7, ground := Ground.data }], guard := none }) (v := (.bool false)) rfl (by kernel_rfl) (by kernel_rfl) (by kernel_rfl) (fun _ _ _ h => h) ?hy128 (by assumption) ?rest128
              case hy128 => ((refine Or.inl ⟨by rfl, ?_⟩; intro W hSw; (try dsimp only at hSw); go_simp; (first | done | with_reducible rfl | simp)))
              try simp only [Act.put, List.setIfInBounds_toArray, List.set_cons_zero, List.set_cons_succ]
              refine wpAnyH_take (i := 9) (oi := { dst := some 123, op := Op.move (Operand.tmp 122), type := 4, pos := "law.go:92", after := #[{ on := 8, ground := Ground.data }, { on := 7, ground := Ground.chain }], guard := none }) (v := ?vv129) rfl (by kernel_rfl) (by kernel_rfl) (by kernel_rfl) (fun _ _ _ h => h) ?hy129 (by assumption) ?rest129
              case hy129 => (refine Or.inl ⟨by rfl, ?_⟩; intro W hSw; (try dsimp only at hSw); go_simp; (try with_reducible rfl))
              try simp only [Act.put, List.setIfInBounds_toArray, List.set_cons_zero, List.set_cons_succ]
              refine wpAnyH_take (i := 10) (oi := { dst := some 124, op := Op.load 27 (Operand.tmp 7), type := 27, pos := "law.go:92", after := #[{ on := 9, ground := Ground.guard }], guard := some (9, false) }) (v := ?vv130) rfl (by kernel_rfl) (by kernel_rfl) (by kernel_rfl) (fun _ _ _ h => h) ?hy130 (by assumption) ?rest130
              case hy130 => (refine Or.inl ⟨by rfl, ?_⟩; intro W hSw; (try dsimp only at hSw); go_simp; (try with_reducible rfl))
              try simp only [Act.put, List.setIfInBounds_toArray, List.set_cons_zero, List.set_cons_succ]
              refine wpAnyH_take (i := 11) (oi := { dst := some 125, op := Op.move (Operand.tmp 12), type := 3, pos := "law.go:92", after := #[{ on := 9, ground := Ground.guard }], guard := some (9, false) }) (v := ?vv131) rfl (by kernel_rfl) (by kernel_rfl) (by kernel_rfl) (fun _ _ _ h => h) ?hy131 (by assumption) ?rest131
              case hy131 => (refine Or.inl ⟨by rfl, ?_⟩; intro W hSw; (try dsimp only at hSw); go_simp; (try with_reducible rfl))
              try simp only [Act.put, List.setIfInBounds_toArray, List.set_cons_zero, List.set_cons_succ]
              refine wpAnyH_take (i := 12) (oi := { dst := some 126, op := Op.move (Operand.tmp 15), type := 3, pos := "law.go:92", after := #[{ on := 9, ground := Ground.guard }], guard := some (9, false) }) (v := ?vv132) rfl (by kernel_rfl) (by kernel_rfl) (by kernel_rfl) (fun _ _ _ h => h) ?hy132 (by assumption) ?rest132
              case hy132 => (refine Or.inl ⟨by rfl, ?_⟩; intro W hSw; (try dsimp only at hSw); go_simp; (try with_reducible rfl))
              try simp only [Act.put, List.setIfInBounds_toArray, List.set_cons_zero, List.set_cons_succ]
              refine wpAnyH_take (i := 14) (oi := { dst := some 128, op := Op.load 32 (Operand.tmp 9), type := 32, pos := "law.go:92", after := #[{ on := 9, ground := Ground.guard }], guard := some (9, false) }) (v := ?vv133) rfl (by kernel_rfl) (by kernel_rfl) (by kernel_rfl) (fun _ _ _ h => h) ?hy133 (by assumption) ?rest133
              case hy133 => (refine Or.inl ⟨by rfl, ?_⟩; intro W hSw; (try dsimp only at hSw); go_simp; (try with_reducible rfl))
              try simp only [Act.put, List.setIfInBounds_toArray, List.set_cons_zero, List.set_cons_succ]
              refine wpAnyH_take (i := 15) (oi := { dst := some 129, op := Op.move (Operand.tmp 12), type := 3, pos := "law.go:92", after := #[{ on := 9, ground := Ground.guard }], guard := some (9, false) }) (v := ?vv134) rfl (by kernel_rfl) (by kernel_rfl) (by kernel_rfl) (fun _ _ _ h => h) ?hy134 (by assumption) ?rest134
              case hy134 => (refine Or.inl ⟨by rfl, ?_⟩; intro W hSw; (try dsimp only at hSw); go_simp; (try with_reducible rfl))
              try simp only [Act.put, List.setIfInBounds_toArray, List.set_cons_zero, List.set_cons_succ]
              refine wpAnyH_take (i := 16) (oi := { dst := some 130, op := Op.move (Operand.tmp 15), type := 3, pos := "law.go:92", after := #[{ on := 9, ground := Ground.guard }], guard := some (9, false) }) (v := ?vv135) rfl (by kernel_rfl) (by kernel_rfl) (by kernel_rfl) (fun _ _ _ h => h) ?hy135 (by assumption) ?rest135
              case hy135 => (refine Or.inl ⟨by rfl, ?_⟩; intro W hSw; (try dsimp only at hSw); go_simp; (try with_reducible rfl))
              try simp only [Act.put, List.setIfInBounds_toArray, List.set_cons_zero, List.set_cons_succ]
              refine wpAnyH_ready (rs := [13]) (by kernel_rfl) (by simp) ?_
              refine AllReadyH.cons (o := { dst := some 127, op := Op.call { callee := Callee.value (Operand.func 22), args := #[Operand.tmp 124, Operand.tmp 125, Operand.tmp 126], argTypes := #[27, 3, 3] }, type := 4, pos := "law.go:92", after := #[{ on := 10, ground := Ground.data }, { on := 11, ground := Ground.data }, { on := 12, ground := Ground.data }, { on := 9, ground := Ground.chain }, { on := 9, ground := Ground.guard }], guard := some (9, false) }) rfl (fun K hK => ?step136) ?more136
              case more136 => exact AllReadyH.nil
              ((go_simp; go_at_call 22; refine (HF1.out _ HC33.out).mono ?_; rintro e w34 ⟨rfl, hb34⟩; go_wp2_with fail))
              refine hK.out _ _ ?hS136 (fun hHeld => ?rr136)
              case hS136 => (exact HAS.out.box _ (HC33.out.trans (hb34.mono HC33.out.size)))
              clear hK K
              try simp only [Act.put, List.setIfInBounds_toArray, List.set_cons_zero, List.set_cons_succ]
              have HC34 := Lib.hid (HC33.out.trans (hb34.mono HC33.out.size))
              have HD34 := Lib.hid (HD33.out.trans (hb34.mono HD33.out.size))
              refine wpAnyH_ready (rs := [17]) (by kernel_rfl) (by simp) ?_
              refine AllReadyH.cons (o := { dst := some 131, op := Op.call { callee := Callee.value (Operand.func 23), args := #[Operand.tmp 128, Operand.tmp 129, Operand.tmp 130], argTypes := #[32, 3, 3] }, type := 4, pos := "law.go:92", after := #[{ on := 14, ground := Ground.data }, { on := 15, ground := Ground.data }, { on := 16, ground := Ground.data }, { on := 13, ground := Ground.chain }, { on := 9, ground := Ground.guard }], guard := some (9, false) }) rfl (fun K hK => ?step137) ?more137
              case more137 => exact AllReadyH.nil
              ((go_simp; go_at_call 23; refine (HF2.out _ HC34.out).mono ?_; rintro e w35 ⟨rfl, hb35⟩; go_wp2_with fail))
              refine hK.out _ _ ?hS137 (fun hHeld => ?rr137)
              case hS137 => (exact HAS.out.box _ (HC34.out.trans (hb35.mono HC34.out.size)))
              clear hK K
              try simp only [Act.put, List.setIfInBounds_toArray, List.set_cons_zero, List.set_cons_succ]
              have HC35 := Lib.hid (HC34.out.trans (hb35.mono HC34.out.size))
              have HD35 := Lib.hid (HD34.out.trans (hb35.mono HD34.out.size))
              refine wpAnyH_take (i := 18) (oi := { dst := some 132, op := Op.binOp BinOp.neq 4 (Operand.tmp 127) (Operand.tmp 131) 4, type := 4, pos := "law.go:92", after := #[{ on := 13, ground := Ground.data }, { on := 17, ground := Ground.data }, { on := 9, ground := Ground.guard }], guard := some (9, false) }) (v := (.bool false)) rfl (by kernel_rfl) (by kernel_rfl) (by kernel_rfl) (fun _ _ _ h => h) ?hy138 (by assumption) ?rest138
              case hy138 => ((refine Or.inl ⟨by rfl, ?_⟩; intro W hSw; (try dsimp only at hSw); go_simp; (first | done | with_reducible rfl | simp)))
              try simp only [Act.put, List.setIfInBounds_toArray, List.set_cons_zero, List.set_cons_succ]
              refine wpAnyH_take (i := 19) (oi := { dst := some 133, op := Op.pick (Operand.tmp 123) (Operand.const (Value.bool true)) (Operand.tmp 132), type := 4, pos := "law.go:92", after := #[{ on := 9, ground := Ground.data }, { on := 18, ground := Ground.data }], guard := none }) (v := (.bool false)) rfl (by kernel_rfl) (by kernel_rfl) (by kernel_rfl) (fun _ _ _ h => h) ?hy139 (by assumption) ?rest139
              case hy139 => ((refine Or.inl ⟨by rfl, ?_⟩; intro W hSw; (try dsimp only at hSw); go_simp; (first | done | with_reducible rfl | simp)))
              try simp only [Act.put, List.setIfInBounds_toArray, List.set_cons_zero, List.set_cons_succ]
              refine wpAnyH_done (by kernel_rfl) ?_ _
              clear hHeld HS hb32 hb33 hb34 hb35 HM1 HM2 HF1 HF2 kz
              go_wp2_with fail
              go_roundw
              case rel => exact ⟨j + 1, HJLT.out, by go_num, HD35.out⟩
              case measure => have := HJLT.out; simp [intOf]; omega
            · obtain rfl : j = 2 := by omega
              clear hj hbw hlt hc31
              go_wp2_with fail
              go_roundw
              case rel => exact ⟨i + 1, HLT.out, by go_num, HC31.out⟩
              case measure => have := HLT.out; simp [intOf]; omega
      · obtain rfl : i = 4 := by omega
        have hc9 := hbw
        have HC9 := Lib.hid hc9
        have HS := Lib.hid (HAS.out.box _ (below_drew hc9))
        clear hi hbw hlt hc9
        go_wp2_with fail
        refine wp_region_held_drew (S := fun W => W.cell? ⟨bt, 0, none⟩ = some (.slice tA tn tc) ∧ W.cell? ⟨br, 0, none⟩ = some (.slice rA T.length rc)) (by kernel_rfl) HS.out (fun hHeld => ?_)
        refine wpAnyH_take (i := 0) (oi := { dst := some 136, op := Op.load 27 (Operand.tmp 7), type := 27, pos := "law.go:97", after := #[], guard := none }) (v := ?vv140) rfl (by kernel_rfl) (by kernel_rfl) (by kernel_rfl) (fun _ _ _ h => h) ?hy140 (by assumption) ?rest140
        case hy140 => (refine Or.inl ⟨by rfl, ?_⟩; intro W hSw; (try dsimp only at hSw); go_simp; (try with_reducible rfl))
        try simp only [Act.put, List.setIfInBounds_toArray, List.set_cons_zero, List.set_cons_succ]
        refine wpAnyH_take (i := 2) (oi := { dst := some 138, op := Op.load 32 (Operand.tmp 9), type := 32, pos := "law.go:97", after := #[], guard := none }) (v := ?vv141) rfl (by kernel_rfl) (by kernel_rfl) (by kernel_rfl) (fun _ _ _ h => h) ?hy141 (by assumption) ?rest141
        case hy141 => (refine Or.inl ⟨by rfl, ?_⟩; intro W hSw; (try dsimp only at hSw); go_simp; (try with_reducible rfl))
        try simp only [Act.put, List.setIfInBounds_toArray, List.set_cons_zero, List.set_cons_succ]
        refine wpAnyH_ready (rs := [1]) (by kernel_rfl) (by simp) ?_
        refine AllReadyH.cons (o := { dst := some 137, op := Op.call { callee := Callee.value (Operand.func 24), args := #[Operand.tmp 136], argTypes := #[27] }, type := 24, pos := "law.go:97", after := #[{ on := 0, ground := Ground.data }], guard := none }) rfl (fun K hK => ?step142) ?more142
        case more142 => exact AllReadyH.nil
        ((go_simp; go_at_call 24; refine (HAS.out.leaves _ (below_drew HC9.out)).mono ?_; rintro e w11 ⟨v1, rfl, s1, hb11⟩; go_wp2_with fail))
        refine hK.out _ _ ?hS142 (fun hHeld => ?rr142)
        case hS142 => (exact HAS.out.box _ (HC9.out.trans ((below_of_drew hb11).mono HC9.out.size)))
        clear hK K
        try simp only [Act.put, List.setIfInBounds_toArray, List.set_cons_zero, List.set_cons_succ]
        have HC11 := Lib.hid (HC9.out.trans ((below_of_drew hb11).mono HC9.out.size))
        refine wpAnyH_ready (rs := [3]) (by kernel_rfl) (by simp) ?_
        refine AllReadyH.cons (o := { dst := some 139, op := Op.call { callee := Callee.value (Operand.func 25), args := #[Operand.tmp 138], argTypes := #[32] }, type := 24, pos := "law.go:97", after := #[{ on := 2, ground := Ground.data }, { on := 1, ground := Ground.chain }], guard := none }) rfl (fun K hK => ?step143) ?more143
        case more143 => exact AllReadyH.nil
        ((go_simp; go_at_call 25; refine (HAS.out.rleaves _ HC11.out).mono ?_; rintro e w12 ⟨v2, rfl, s2, hb12⟩; go_wp2_with fail))
        refine hK.out _ _ ?hS143 (fun hHeld => ?rr143)
        case hS143 => (exact HAS.out.box _ (HC11.out.trans (hb12.mono HC11.out.size)))
        clear hK K
        try simp only [Act.put, List.setIfInBounds_toArray, List.set_cons_zero, List.set_cons_succ]
        have HC12 := Lib.hid (HC11.out.trans (hb12.mono HC11.out.size))
        have HSL := Lib.hid (HAS.out.sameL w12 v1 v2 (s1.below hb12) s2)
        refine wpAnyH_ready (rs := [4]) (by kernel_rfl) (by simp) ?_
        refine AllReadyH.cons (o := { dst := some 140, op := Op.call { callee := Callee.value (Operand.func 12), args := #[Operand.tmp 137, Operand.tmp 139], argTypes := #[24, 24] }, type := 4, pos := "law.go:97", after := #[{ on := 1, ground := Ground.data }, { on := 3, ground := Ground.data }, { on := 3, ground := Ground.chain }], guard := none }) rfl (fun K hK => ?step144) ?more144
        case more144 => exact AllReadyH.nil
        ((go_simp; go_at_call 12; refine (HSL.out).mono ?_; rintro e w13 ⟨rfl, hb13⟩; go_wp2_with fail))
        refine hK.out _ _ ?hS144 (fun hHeld => ?rr144)
        case hS144 => (exact HAS.out.box _ (HC12.out.trans (hb13.mono HC12.out.size)))
        clear hK K
        try simp only [Act.put, List.setIfInBounds_toArray, List.set_cons_zero, List.set_cons_succ]
        have HC13 := Lib.hid (HC12.out.trans (hb13.mono HC12.out.size))
        refine wpAnyH_take (i := 5) (oi := { dst := some 141, op := Op.move (Operand.tmp 140), type := 4, pos := "law.go:97", after := #[{ on := 4, ground := Ground.data }, { on := 4, ground := Ground.chain }], guard := none }) (v := ?vv145) rfl (by kernel_rfl) (by kernel_rfl) (by kernel_rfl) (fun _ _ _ h => h) ?hy145 (by assumption) ?rest145
        case hy145 => (refine Or.inl ⟨by rfl, ?_⟩; intro W hSw; (try dsimp only at hSw); go_simp; (try with_reducible rfl))
        try simp only [Act.put, List.setIfInBounds_toArray, List.set_cons_zero, List.set_cons_succ]
        refine wpAnyH_ready (rs := [6]) (by kernel_rfl) (by simp) ?_
        refine AllReadyH.cons (o := { dst := some 142, op := Op.call { callee := Callee.value (Operand.func 10), args := #[], argTypes := #[] }, type := 4, pos := "law.go:97", after := #[{ on := 5, ground := Ground.chain }, { on := 5, ground := Ground.guard }], guard := some (5, true) }) rfl (fun K hK => ?step146) ?more146
        case more146 => exact AllReadyH.nil
        ((go_simp; go_at_call 10; refine (awake_any (HG9.out.below HC13.out)).mono ?_; rintro e w14 ⟨rfl, hb14⟩; go_wp2_with fail))
        refine hK.out _ _ ?hS146 (fun hHeld => ?rr146)
        case hS146 => (exact HAS.out.box _ (HC13.out.trans (hb14.mono HC13.out.size)))
        clear hK K
        try simp only [Act.put, List.setIfInBounds_toArray, List.set_cons_zero, List.set_cons_succ]
        have HC14 := Lib.hid (HC13.out.trans (hb14.mono HC13.out.size))
        refine wpAnyH_take (i := 7) (oi := { dst := some 143, op := Op.pick (Operand.tmp 141) (Operand.tmp 142) (Operand.const (Value.bool false)), type := 4, pos := "law.go:97", after := #[{ on := 5, ground := Ground.data }, { on := 6, ground := Ground.data }], guard := none }) (v := (.bool true)) rfl (by kernel_rfl) (by kernel_rfl) (by kernel_rfl) (fun _ _ _ h => h) ?hy147 (by assumption) ?rest147
        case hy147 => ((refine Or.inl ⟨by rfl, ?_⟩; intro W hSw; (try dsimp only at hSw); go_simp; (first | done | with_reducible rfl | simp)))
        try simp only [Act.put, List.setIfInBounds_toArray, List.set_cons_zero, List.set_cons_succ]
        refine wpAnyH_take (i := 8) (oi := { dst := some 6, op := Op.assign (Operand.tmp 143), type := 4, pos := "law.go:97", after := #[{ on := 7, ground := Ground.data }, { on := 6, ground := Ground.chain }, { on := 0, ground := Ground.phase }, { on := 1, ground := Ground.phase }, { on := 2, ground := Ground.phase }, { on := 3, ground := Ground.phase }, { on := 4, ground := Ground.phase }, { on := 5, ground := Ground.phase }, { on := 6, ground := Ground.phase }, { on := 7, ground := Ground.phase }], guard := none }) (v := ?vv148) rfl (by kernel_rfl) (by kernel_rfl) (by kernel_rfl) (fun _ _ _ h => h) ?hy148 (by assumption) ?rest148
        case hy148 => (refine Or.inl ⟨by rfl, ?_⟩; intro W hSw; (try dsimp only at hSw); go_simp; (try with_reducible rfl))
        try simp only [Act.put, List.setIfInBounds_toArray, List.set_cons_zero, List.set_cons_succ]
        refine wpAnyH_done (by kernel_rfl) ?_ _
        clear hHeld HS hb11 s1 s2 hb12 hb13 hb14 HSL
        go_wp2_with fail
        refine bodyPost_ret (v := .bool true) (by simp [results, Tryd.results4, go_sem]) rfl ⟨rfl, HB1.out.trans ((HB7.out.trans ((HB9.out.trans (HC14.out.mono HB9.out.size)).mono HB7.out.size)).mono HB1.out.size)⟩
  · obtain ⟨e1, e2, e3⟩ : tA = none ∧ tn = 0 ∧ tc = 0 := by
      rcases HTR7.out with ⟨_, h⟩ | ⟨h, _⟩
      · exact h
      · exact absurd (HC.out.symm.trans h) h0
    subst e1 e2 e3
    have hcz : (c == 0) = false := beq_eq_false_iff_ne.2 h0
    have hcz2 : (c != 0) = true := by rw [bne_iff_ne]; exact h0
    have HAW := Lib.hid (awake_any HG7.out)
    go_wp2_with fail
    rw [← HW7.out]
    refine (HAW.out).mono ?_
    rintro e w8 ⟨rfl, hb8⟩
    have HB8 := Lib.hid (HB1.out.trans ((HB7.out.trans (hb8.mono HB7.out.size)).mono HB1.out.size))
    clear hb8
    go_wp2_with fail
    refine bodyPost_ret (v := .bool true) (by simp [results, Tryd.results4, go_sem]) rfl ⟨rfl, HB8.out⟩
end Go.Proofs.YtpploljennbpdaaDoor
