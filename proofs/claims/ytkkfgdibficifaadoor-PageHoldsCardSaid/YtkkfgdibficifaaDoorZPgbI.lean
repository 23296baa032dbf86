/- PageHolds, its walk. -/
import Derived.Test.YtkkfgdibficifaaDoorZPgbH
set_option linter.unusedSimpArgs false
set_option linter.unusedVariables false
set_option linter.unnecessarySimpa false
namespace Go.Proofs.YtkkfgdibficifaaDoor
open Go.RowKit Go.Shelf Go.Sort Go.Lib

/-- A slice of calls that was given. -/
def OppIs (w : World) (v : Value) (m : Nat) : Prop := ∃ A cap, v = .slice A m cap ∧ m ≤ cap ∧ cap ≤ maxLen ∧ ∀ i, i < m → ∃ (a : Addr) (kd n : Int) (x y : ByteArray), A = some a ∧ a.block < w.heap.size ∧ w.cell? (a.add (i * 4)) = some (.int .i64 kd) ∧ w.cell? ((a.add (i * 4)).add 1) = some (.string x) ∧ w.cell? ((a.add (i * 4)).add 2) = some (.string y) ∧ w.cell? ((a.add (i * 4)).add 3) = some (.int .i64 n)
theorem puts_alike {w0 w : World} {s m t m2 : Nat} {P Q : List (List Row)} {rv : Value} {p : List Row} {ob : Nat} {oo : Obj} {k : K} {n : Int} (h : Duo w0 w s m P t m2 Q rv p ob oo) (hP : P.flatten = p) (hQ : Q.flatten = p) (hl : p.length < 256) :
    ∃ c P' Q', putP m P ⟨k, n⟩ = (P', c) ∧ putP m2 Q ⟨k, n⟩ = (Q', c) ∧ (k.length ≤ 16 → P'.flatten = withS k n true p ∧ Q'.flatten = withS k n true p ∧ (withS k n true p).length ≤ p.length + 1) ∧ (16 < k.length → P' = P ∧ Q' = Q) := by
  obtain ⟨_, _, _, _, h⟩ := h
  by_cases hk : k.length ≤ 16
  · obtain ⟨a1, a2, a3⟩ := put_with h.fine (n := n) hk (by rw [hP]; exact hl)
    obtain ⟨b1, b2, b3⟩ := put_with h.fine2 (n := n) hk (by rw [hQ]; exact hl)
    rw [hP] at a2 a3
    rw [hQ] at b2 b3
    exact ⟨0, (putP m P ⟨k, n⟩).1, (putP m2 Q ⟨k, n⟩).1, Prod.ext rfl a1, Prod.ext rfl b1, fun _ => ⟨a2, b2, by rw [← a2]; exact a3⟩, fun e => by omega⟩
  · exact ⟨2, P, Q, put_over (by omega), put_over (by omega), fun e => absurd e hk, fun _ => ⟨rfl, rfl⟩⟩
set_option maxRecDepth 100000 in
set_option maxHeartbeats 8000000 in
theorem law_holds {w : World} (hG : Glob w) (a b : Int) {l : Value} {nl : Nat} (hO : OppIs w l nl) :
    Calls Tryd.prog 3 #[.int .i64 a, .int .i64 b, l] w fun e w' => e = .returned (.bool true) ∧ Below w.heap.size w w' := by
  have HG := Lib.hid (fun W (hW : Below w.heap.size w W) => awake_any (hG.below hW))
  have HN := Lib.hid (fun m hm => sr_new (w := w) hG (most := m) hm)
  obtain ⟨A, cap, rfl, hc1, hc2, hops⟩ := hO
  unfold maxLen at hc2
  have HO := Lib.hid hops
  clear hG hops
  go_enter Tryd.func3, Tryd.ntmps3
  by_cases h1 : a < 2
  · go_wp2_with fail
    refine (HG.out _ (Below.refl _ _)).mono ?_
    rintro e w2 ⟨rfl, hb⟩
    have HB := Lib.hid hb
    clear hb
    go_wp2_with fail
    go_ret
    exact ⟨rfl, HB.out⟩
  by_cases h2 : 64 < a
  · go_wp2_with fail
    refine (HG.out _ (Below.refl _ _)).mono ?_
    rintro e w2 ⟨rfl, hb⟩
    have HB := Lib.hid hb
    clear hb
    go_wp2_with fail
    go_ret
    exact ⟨rfl, HB.out⟩
  by_cases h3 : b < 2
  · go_wp2_with fail
    refine (HG.out _ (Below.refl _ _)).mono ?_
    rintro e w2 ⟨rfl, hb⟩
    have HB := Lib.hid hb
    clear hb
    go_wp2_with fail
    go_ret
    exact ⟨rfl, HB.out⟩
  by_cases h4 : 64 < b
  · go_wp2_with fail
    refine (HG.out _ (Below.refl _ _)).mono ?_
    rintro e w2 ⟨rfl, hb⟩
    have HB := Lib.hid hb
    clear hb
    go_wp2_with fail
    go_ret
    exact ⟨rfl, HB.out⟩
  obtain ⟨m, rfl⟩ : ∃ m : Nat, a = m := ⟨a.toNat, by omega⟩
  obtain ⟨m2, rfl⟩ : ∃ m : Nat, b = m := ⟨b.toNat, by omega⟩
  have hm : 2 ≤ m ∧ m ≤ 64 := by omega
  have hm2 : 2 ≤ m2 ∧ m2 ≤ 64 := by omega
  go_wp2_with fail
  refine (HN.out m hm).mono ?_
  rintro e w1 ⟨s, rfl, hs⟩
  have HN2 := Lib.hid (duo_new hs hm2)
  clear hs HN
  go_wp2_with fail
  refine (HN2.out).mono ?_
  rintro e w2 ⟨t, rfl, oo, hd⟩
  have HD := Lib.hid hd
  clear hd HN2
  go_wp2_with fail
  go_loopw [11, 49] (fun rv iv wr => ∃ (i : Nat) (P Q : List (List Row)) (p : List Row) (ob : Nat) (oo : Obj), i ≤ nl ∧ i ≤ 60 ∧ iv = .int .i64 i ∧ P.flatten = p ∧ Q.flatten = p ∧ p.length ≤ i ∧ Duo w wr s m P t m2 Q rv p ob oo) (fun _ iv _ => nl - (intOf iv).toNat)
  case atStart => exact ⟨0, [], [], [], _, _, Nat.zero_le _, Nat.zero_le _, rfl, rfl, rfl, Nat.le_refl _, HD.out⟩
  case round =>
    obtain ⟨i, P, Q, p, ob, oo, hi, hi2, rfl, hPp, hQp, hpl, hd⟩ := hrel
    by_cases hlt : i < nl ∧ i < 60
    · obtain ⟨hlt, hlt2⟩ := hlt
      obtain ⟨a, kd, n, x, y, rfl, hab, k0, k1, k2, k3⟩ := HO.out i hlt
      have hbw : Below w.heap.size w wr := by
        obtain ⟨_, _, _, _, h⟩ := hd
        exact h.below
      replace k0 := (hbw.cell (p := a.add (i * 4)) (by rw [add_block]; exact hab)).trans k0
      replace k1 : wr.cell? ⟨(a.add (i * 4)).block, (a.add (i * 4)).off + 1, none⟩ = some (.string x) := (hbw.cell (p := (a.add (i * 4)).add 1) (by rw [add_block, add_block]; exact hab)).trans k1
      replace k2 : wr.cell? ⟨(a.add (i * 4)).block, (a.add (i * 4)).off + 2, none⟩ = some (.string y) := (hbw.cell (p := (a.add (i * 4)).add 2) (by rw [add_block, add_block]; exact hab)).trans k2
      replace k3 : wr.cell? ⟨(a.add (i * 4)).block, (a.add (i * 4)).off + 3, none⟩ = some (.int .i64 n) := (hbw.cell (p := (a.add (i * 4)).add 3) (by rw [add_block, add_block]; exact hab)).trans k3
      have hiI : (i : Int) < (nl : Int) := by omega
      have hiI2 : ¬ (60 : Int) ≤ (i : Int) := by omega
      have HD := Lib.hid hd
      have HP := Lib.hid (And.intro hPp hQp)
      have HLT := Lib.hid (And.intro hlt (And.intro hlt2 hpl))
      have HSM := Lib.hid (fun W => small_any (w := W) kd n x y)
      have hW1 := below_new (w := wr) (.cells #[.int .i64 kd, .string x, .string y, .int .i64 n] 30)
      have hat := alloc_at wr (.cells #[.int .i64 kd, .string x, .string y, .int .i64 n] 30)
      have HW1 := Lib.hid hW1
      have HAT := Lib.hid hat
      clear hd hPp hQp hpl hlt hlt2 hbw hW1 hat
      go_wp2_with fail
      refine (HSM.out _).mono ?_
      rintro e w4 ⟨rfl, hb4⟩
      have h4 := (hb4.block wr.heap.size (by rw [asz]; omega)).trans HAT.out
      have HB4 := Lib.hid (HW1.out.trans (hb4.mono HW1.out.size))
      have H4 := Lib.hid h4
      have q0 := cell_of h4 0
      have q1 := cell_of h4 1
      have q2 := cell_of h4 2
      have q3 := cell_of h4 3
      have f0 := free0 h4 0
      have f1 := free0 h4 1
      have f2 := free0 h4 2
      have f3 := free0 h4 3
      have hT : Touch (fun k => k = wr.heap.size) w4 ((((w4.setCell ⟨wr.heap.size, 0, none⟩ (.int .i64 kd)).setCell ⟨wr.heap.size, 1, none⟩ (.string ⟨(cutB x).toArray⟩)).setCell ⟨wr.heap.size, 2, none⟩ (.string ⟨(cutB y).toArray⟩)).setCell ⟨wr.heap.size, 3, none⟩ (.int .i64 n)) := Touch.setCell (S := fun k => k = wr.heap.size) (Touch.setCell (S := fun k => k = wr.heap.size) (Touch.setCell (S := fun k => k = wr.heap.size) (Touch.setCell (S := fun k => k = wr.heap.size) (Touch.refl _ _) ⟨wr.heap.size, 0, none⟩ (fun _ => rfl) _) ⟨wr.heap.size, 1, none⟩ (fun _ => rfl) _) ⟨wr.heap.size, 2, none⟩ (fun _ => rfl) _) ⟨wr.heap.size, 3, none⟩ (fun _ => rfl) _
      have hh := set_at (set_at (set_at (set_at h4 0 (.int .i64 kd)) 1 (.string ⟨(cutB x).toArray⟩)) 2 (.string ⟨(cutB y).toArray⟩)) 3 (.int .i64 n)
      obtain ⟨W5, hW5⟩ : ∃ W5, W5 = ((((w4.setCell ⟨wr.heap.size, 0, none⟩ (.int .i64 kd)).setCell ⟨wr.heap.size, 1, none⟩ (.string ⟨(cutB x).toArray⟩)).setCell ⟨wr.heap.size, 2, none⟩ (.string ⟨(cutB y).toArray⟩)).setCell ⟨wr.heap.size, 3, none⟩ (.int .i64 n)) := ⟨_, rfl⟩
      have HB5 : Below wr.heap.size wr W5 := by
        rw [hW5]
        exact HB4.out.trans (hT.below (fun i e => Nat.le_of_eq e.symm) HB4.out.size)
      rw [← hW5] at hh
      have HD5 := Lib.hid (HD.out.look HB5 (Nat.le_refl _) hh)
      have HDD := Lib.hid (HD5.out.keep (below_drew (Below.refl _ _)))
      have hkl := cut_len x
      have r1 := cell_of HD5.out.cell 1
      have r3 := cell_of HD5.out.cell 3
      have HW5 := Lib.hid hW5
      generalize hob : wr.heap.size = ob5 at *
      clear hT hb4 HSM k0 k1 k2 k3 HD
      by_cases hkd : kd ≤ 2
      · obtain ⟨c, P', Q', hp1, hq1, hin, hov⟩ := puts_alike (k := cutB x) (n := n) HDD.out HP.out.1 HP.out.2 (by have := HLT.out; omega)
        have HP1 := HDD.out.put (k := cutB x) (n := n) (by unfold maxLen; omega)
        rw [hp1] at HP1
        simp only [strV] at HP1
        have HP1 := Lib.hid HP1
        have HQ1 := Lib.hid hq1
        have HIN := Lib.hid hin
        have HOV := Lib.hid hov
        clear hp1 hq1 hin hov
        go_wp2_with fail
        rw [← HW5.out]
        clear hW5 h4 q0 q1 q2 q3 f0 f1 f2 f3
        refine wp_only ?_
        refine wp_region_held_drew (S := fun W => W.cell? ⟨ob5, 1, none⟩ = some (.string ⟨(cutB x).toArray⟩) ∧ W.cell? ⟨ob5, 3, none⟩ = some (.int .i64 n)) (by kernel_rfl) ⟨r1, r3⟩ (fun hHeld => ?_)
        refine wpAnyH_take (i := 0) (oi := { dst := some 61, op := Op.move (Operand.tmp 7), type := 24, pos := "law.go:135", after := #[], guard := none }) (v := ?vv1) rfl (by kernel_rfl) (by kernel_rfl) (by kernel_rfl) (fun _ _ _ h => h) ?hy1 (by assumption) ?rest1
        case hy1 => (refine Or.inl ⟨by rfl, ?_⟩; intro W hSw; (try dsimp only at hSw); go_simp; (try with_reducible rfl))
        try simp only [Act.put, List.setIfInBounds_toArray, List.set_cons_zero, List.set_cons_succ]
        refine wpAnyH_take (i := 1) (oi := { dst := some 62, op := Op.fieldAddr 30 (Operand.tmp 13) 1, type := 0, pos := "law.go:135", after := #[], guard := none }) (v := ?vv2) rfl (by kernel_rfl) (by kernel_rfl) (by kernel_rfl) (fun _ _ _ h => h) ?hy2 (by assumption) ?rest2
        case hy2 => (refine Or.inl ⟨by rfl, ?_⟩; intro W hSw; (try dsimp only at hSw); go_simp; (try with_reducible rfl))
        try simp only [Act.put, List.setIfInBounds_toArray, List.set_cons_zero, List.set_cons_succ]
        refine wpAnyH_take (i := 2) (oi := { dst := some 63, op := Op.load 9 (Operand.tmp 62), type := 9, pos := "law.go:135", after := #[{ on := 1, ground := Ground.data }], guard := none }) (v := ?vv3) rfl (by kernel_rfl) (by kernel_rfl) (by kernel_rfl) (fun _ _ _ h => h) ?hy3 (by assumption) ?rest3
        case hy3 => (refine Or.inl ⟨by rfl, ?_⟩; intro W hSw; (try dsimp only at hSw); go_simp; (try with_reducible rfl))
        try simp only [Act.put, List.setIfInBounds_toArray, List.set_cons_zero, List.set_cons_succ]
        refine wpAnyH_take (i := 3) (oi := { dst := some 64, op := Op.fieldAddr 30 (Operand.tmp 13) 3, type := 0, pos := "law.go:135", after := #[], guard := none }) (v := ?vv4) rfl (by kernel_rfl) (by kernel_rfl) (by kernel_rfl) (fun _ _ _ h => h) ?hy4 (by assumption) ?rest4
        case hy4 => (refine Or.inl ⟨by rfl, ?_⟩; intro W hSw; (try dsimp only at hSw); go_simp; (try with_reducible rfl))
        try simp only [Act.put, List.setIfInBounds_toArray, List.set_cons_zero, List.set_cons_succ]
        refine wpAnyH_take (i := 4) (oi := { dst := some 65, op := Op.load 2 (Operand.tmp 64), type := 2, pos := "law.go:135", after := #[{ on := 3, ground := Ground.data }], guard := none }) (v := ?vv5) rfl (by kernel_rfl) (by kernel_rfl) (by kernel_rfl) (fun _ _ _ h => h) ?hy5 (by assumption) ?rest5
        case hy5 => (refine Or.inl ⟨by rfl, ?_⟩; intro W hSw; (try dsimp only at hSw); go_simp; (try with_reducible rfl))
        try simp only [Act.put, List.setIfInBounds_toArray, List.set_cons_zero, List.set_cons_succ]
        refine wpAnyH_take (i := 6) (oi := { dst := some 67, op := Op.move (Operand.tmp 9), type := 24, pos := "law.go:135", after := #[], guard := none }) (v := ?vv6) rfl (by kernel_rfl) (by kernel_rfl) (by kernel_rfl) (fun _ _ _ h => h) ?hy6 (by assumption) ?rest6
        case hy6 => (refine Or.inl ⟨by rfl, ?_⟩; intro W hSw; (try dsimp only at hSw); go_simp; (try with_reducible rfl))
        try simp only [Act.put, List.setIfInBounds_toArray, List.set_cons_zero, List.set_cons_succ]
        refine wpAnyH_take (i := 7) (oi := { dst := some 68, op := Op.fieldAddr 30 (Operand.tmp 13) 1, type := 0, pos := "law.go:135", after := #[], guard := none }) (v := ?vv7) rfl (by kernel_rfl) (by kernel_rfl) (by kernel_rfl) (fun _ _ _ h => h) ?hy7 (by assumption) ?rest7
        case hy7 => (refine Or.inl ⟨by rfl, ?_⟩; intro W hSw; (try dsimp only at hSw); go_simp; (try with_reducible rfl))
        try simp only [Act.put, List.setIfInBounds_toArray, List.set_cons_zero, List.set_cons_succ]
        refine wpAnyH_take (i := 8) (oi := { dst := some 69, op := Op.load 9 (Operand.tmp 68), type := 9, pos := "law.go:135", after := #[{ on := 7, ground := Ground.data }], guard := none }) (v := ?vv8) rfl (by kernel_rfl) (by kernel_rfl) (by kernel_rfl) (fun _ _ _ h => h) ?hy8 (by assumption) ?rest8
        case hy8 => (refine Or.inl ⟨by rfl, ?_⟩; intro W hSw; (try dsimp only at hSw); go_simp; (try with_reducible rfl))
        try simp only [Act.put, List.setIfInBounds_toArray, List.set_cons_zero, List.set_cons_succ]
        refine wpAnyH_take (i := 9) (oi := { dst := some 70, op := Op.fieldAddr 30 (Operand.tmp 13) 3, type := 0, pos := "law.go:135", after := #[], guard := none }) (v := ?vv9) rfl (by kernel_rfl) (by kernel_rfl) (by kernel_rfl) (fun _ _ _ h => h) ?hy9 (by assumption) ?rest9
        case hy9 => (refine Or.inl ⟨by rfl, ?_⟩; intro W hSw; (try dsimp only at hSw); go_simp; (try with_reducible rfl))
        try simp only [Act.put, List.setIfInBounds_toArray, List.set_cons_zero, List.set_cons_succ]
        refine wpAnyH_take (i := 10) (oi := { dst := some 71, op := Op.load 2 (Operand.tmp 70), type := 2, pos := "law.go:135", after := #[{ on := 9, ground := Ground.data }], guard := none }) (v := ?vv10) rfl (by kernel_rfl) (by kernel_rfl) (by kernel_rfl) (fun _ _ _ h => h) ?hy10 (by assumption) ?rest10
        case hy10 => (refine Or.inl ⟨by rfl, ?_⟩; intro W hSw; (try dsimp only at hSw); go_simp; (try with_reducible rfl))
        try simp only [Act.put, List.setIfInBounds_toArray, List.set_cons_zero, List.set_cons_succ]
        refine wpAnyH_ready (rs := [5]) (by kernel_rfl) (by simp) ?_
        refine AllReadyH.cons (o := { dst := some 66, op := Op.call { callee := Callee.value (Operand.func 9), args := #[Operand.tmp 61, Operand.tmp 63, Operand.tmp 65], argTypes := #[24, 9, 2] }, type := 25, pos := "law.go:135", after := #[{ on := 0, ground := Ground.data }, { on := 2, ground := Ground.data }, { on := 4, ground := Ground.data }], guard := none }) rfl (fun K hK => ?step11) ?more11
        case more11 => exact AllReadyH.nil
        ((go_simp; go_at_call 9; refine (HP1.out).mono ?_; rintro e w6 ⟨rfl, hd6⟩; have HP2 := hd6.swap.put (k := cutB x) (n := n) (by unfold maxLen; omega); rw [HQ1.out] at HP2; simp only [strV] at HP2; have HP2 := Lib.hid HP2; have HC6 := Lib.hid hd6.cell; clear hd6; go_wp2_with fail))
        refine hK.out _ _ ?hS11 (fun hHeld => ?rr11)
        case hS11 => (exact ⟨cell_of HC6.out 1, cell_of HC6.out 3⟩)
        clear hK K
        try simp only [Act.put, List.setIfInBounds_toArray, List.set_cons_zero, List.set_cons_succ]
        refine wpAnyH_ready (rs := [11]) (by kernel_rfl) (by simp) ?_
        refine AllReadyH.cons (o := { dst := some 72, op := Op.call { callee := Callee.value (Operand.func 9), args := #[Operand.tmp 67, Operand.tmp 69, Operand.tmp 71], argTypes := #[24, 9, 2] }, type := 25, pos := "law.go:135", after := #[{ on := 6, ground := Ground.data }, { on := 8, ground := Ground.data }, { on := 10, ground := Ground.data }, { on := 5, ground := Ground.chain }], guard := none }) rfl (fun K hK => ?step12) ?more12
        case more12 => exact AllReadyH.nil
        ((go_simp; go_at_call 9; refine (HP2.out).mono ?_; rintro e w7 ⟨rfl, hd7⟩; have HD7 := Lib.hid hd7.swap; have HC7 := Lib.hid hd7.cell; clear hd7; go_wp2_with fail))
        refine hK.out _ _ ?hS12 (fun hHeld => ?rr12)
        case hS12 => (exact ⟨cell_of HC7.out 1, cell_of HC7.out 3⟩)
        clear hK K
        try simp only [Act.put, List.setIfInBounds_toArray, List.set_cons_zero, List.set_cons_succ]
        refine wpAnyH_take (i := 12) (oi := { dst := some 73, op := Op.binOp BinOp.neq 25 (Operand.tmp 66) (Operand.tmp 72) 25, type := 4, pos := "law.go:135", after := #[{ on := 5, ground := Ground.data }, { on := 11, ground := Ground.data }], guard := none }) (v := ?vv13) rfl (by kernel_rfl) (by kernel_rfl) (by kernel_rfl) (fun _ _ _ h => h) ?hy13 (by assumption) ?rest13
        case hy13 => (refine Or.inl ⟨by rfl, ?_⟩; intro W hSw; (try dsimp only at hSw); go_simp; (try with_reducible rfl))
        try simp only [Act.put, List.setIfInBounds_toArray, List.set_cons_zero, List.set_cons_succ]
        refine wpAnyH_done (by kernel_rfl) ?_ _
        clear hHeld r1 r3
        dsimp only [onlyN]
        have r1 := cell_of HC7.out 1
        have r3 := cell_of HC7.out 3
        by_cases hk : (cutB x).length ≤ 16
        · have hkI : ((cutB x).length : Int) ≤ 16 := by omega
          have HWI := HD7.out.with_ (k := cutB x) (n := n) (b := true) (by have := HLT.out; omega)
          simp only [strV] at HWI
          have HWI := Lib.hid HWI
          have HK := Lib.hid (HIN.out hk)
          go_wp2_with fail
          refine (HWI.out).mono ?_
          rintro e w8 ⟨A8, c8, rfl, hd8⟩
          have HD8 := Lib.hid hd8
          clear hd8 HWI
          go_wp2_with fail
          go_roundw
          case rel => exact ⟨i + 1, _, _, _, _, _, HLT.out.1, HLT.out.2.1, by go_num, HK.out.1, HK.out.2.1, by have := HK.out.2.2; have := HLT.out; omega, HD8.out⟩
          case measure => have := HLT.out; simp [intOf]; omega
        · have hkI : ¬ ((cutB x).length : Int) ≤ 16 := by omega
          have HK := Lib.hid (HOV.out (by omega))
          go_wp2_with fail
          go_roundw
          case rel => exact ⟨i + 1, _, _, _, _, _, HLT.out.1, HLT.out.2.1, by go_num, by rw [HK.out.1]; exact HP.out.1, by rw [HK.out.2]; exact HP.out.2, by have := HLT.out; omega, HD7.out⟩
          case measure => have := HLT.out; simp [intOf]; omega
      · have hf : Fine m P ∧ Fine m2 Q := by
          obtain ⟨_, _, _, _, h⟩ := HD5.out
          exact ⟨h.fine, h.fine2⟩
        obtain ⟨_, d1, d2, d3⟩ := del_with hf.1 (k := cutB x)
        obtain ⟨_, d4, d5, d6⟩ := del_with hf.2 (k := cutB x)
        rw [HP.out.1] at d1 d2 d3
        rw [HP.out.2] at d4 d5 d6
        have HK := Lib.hid (And.intro d2 (And.intro d5 d3))
        have HGE := HD5.out.get (k := cutB x) (by have := HLT.out; omega)
        have HDE := Lib.hid (fun W o5 (hW : Duo w W s m P t m2 Q u11 p ob5 o5) => hW.del (k := cutB x))
        have HDF := Lib.hid (fun W P' o5 (hW : Duo w W t m2 Q s m P' u11 p ob5 o5) => hW.del (k := cutB x))
        simp only [strV] at HGE HDE HDF
        rw [d1] at HDE
        rw [d4] at HDF
        generalize (getR p (cutB x)).1 = gv at HGE
        generalize (getR p (cutB x)).2 = gb at HGE HDE HDF
        have HGE := Lib.hid HGE
        clear d1 d2 d3 d4 d5 d6 hf
        go_wp2_with fail
        rw [← HW5.out]
        clear hW5 h4 q0 q1 q2 q3 f0 f1 f2 f3
        refine (HGE.out).mono ?_
        rintro e w6 ⟨rfl, hd6⟩
        have HE1 := Lib.hid (HDE.out _ _ hd6)
        clear r1 r3
        have r1 := cell_of hd6.cell 1
        clear hd6 HGE
        go_wp2_with fail
        refine (HE1.out).mono ?_
        rintro e w7 ⟨rfl, hd7⟩
        have HE2 := Lib.hid (HDF.out _ _ _ hd7.swap)
        clear r1
        have r1 := cell_of hd7.cell 1
        clear hd7 HE1
        go_wp2_with fail
        refine (HE2.out).mono ?_
        rintro e w8 ⟨rfl, hd8⟩
        have HWI := hd8.swap.with_ (k := cutB x) (n := 0) (b := false) (by have := HLT.out; omega)
        simp only [strV] at HWI
        have HWI := Lib.hid HWI
        clear r1
        have r1 := cell_of hd8.cell 1
        clear hd8 HE2
        go_wp2_with fail
        refine (HWI.out).mono ?_
        rintro e w9 ⟨A9, c9, rfl, hd9⟩
        have HD9 := Lib.hid hd9
        clear hd9 HWI
        go_wp2_with fail
        go_roundw
        case rel => exact ⟨i + 1, _, _, _, _, _, HLT.out.1, HLT.out.2.1, by go_num, HK.out.1, HK.out.2.1, by have := HK.out.2.2; have := HLT.out; rw [← HK.out.1]; omega, HD9.out⟩
        case measure => have := HLT.out; simp [intOf]; omega
    · have HQP := Lib.hid hQp
      have HPL : Hid (p.length ≤ 1000) := Lib.hid (by omega)
      by_cases hn : i < nl
      · have hn60 : (60 : Int) ≤ (i : Int) := by omega
        have hnI : (i : Int) < (nl : Int) := by omega
        obtain ⟨a, kd, n, x, y, rfl, hab, k0, k1, k2, k3⟩ := HO.out i hn
        have hbw : Below w.heap.size w wr := by
          obtain ⟨_, _, _, _, h⟩ := hd
          exact h.below
        replace k0 := (hbw.cell (p := a.add (i * 4)) (by rw [add_block]; exact hab)).trans k0
        replace k1 : wr.cell? ⟨(a.add (i * 4)).block, (a.add (i * 4)).off + 1, none⟩ = some (.string x) := (hbw.cell (p := (a.add (i * 4)).add 1) (by rw [add_block, add_block]; exact hab)).trans k1
        replace k2 : wr.cell? ⟨(a.add (i * 4)).block, (a.add (i * 4)).off + 2, none⟩ = some (.string y) := (hbw.cell (p := (a.add (i * 4)).add 2) (by rw [add_block, add_block]; exact hab)).trans k2
        replace k3 : wr.cell? ⟨(a.add (i * 4)).block, (a.add (i * 4)).off + 3, none⟩ = some (.int .i64 n) := (hbw.cell (p := (a.add (i * 4)).add 3) (by rw [add_block, add_block]; exact hab)).trans k3
        have hsc := (hd.keep (below_new (w := wr) (.cells #[.int .i64 kd, .string x, .string y, .int .i64 n] 30))).scan
        rw [hPp] at hsc
        have HSC := Lib.hid hsc
        clear hsc hd hbw hPp hQp hpl HD
        go_wp2_with fail
        refine (HSC.out).mono ?_
        rintro e w4 ⟨A4, c4, rfl, hr4, hd4⟩
        have HEQ := Lib.hid (hd4.eq hr4 rfl HPL.out)
        clear hr4 hd4 HSC
        go_wp2_with fail
        refine (HEQ.out).mono ?_
        rintro e w5 ⟨rfl, hd5⟩
        have hsc2 := hd5.swap.scan
        rw [HQP.out] at hsc2
        have HSC2 := Lib.hid hsc2
        clear hsc2 hd5 HEQ
        go_wp2_with fail
        refine (HSC2.out).mono ?_
        rintro e w6 ⟨A6, c6, rfl, hr6, hd6⟩
        have HEQ2 := Lib.hid (hd6.eq hr6 rfl HPL.out)
        clear hr6 hd6 HSC2
        go_wp2_with fail
        refine (HEQ2.out).mono ?_
        rintro e w7 ⟨rfl, hd7⟩
        have HBB := Lib.hid (show Below w.heap.size w w7 by
          obtain ⟨_, _, _, _, h⟩ := hd7
          exact h.below)
        clear hd7 HEQ2
        go_wp2_with fail
        refine (HG.out _ HBB.out).mono ?_
        rintro e w8 ⟨rfl, hb8⟩
        have HB8 := Lib.hid (HBB.out.trans (hb8.mono HBB.out.size))
        clear hb8
        go_wp2_with fail
        go_ret
        exact ⟨rfl, HB8.out⟩
      · obtain rfl : i = nl := by omega
        have hsc := hd.scan
        rw [hPp] at hsc
        have HSC := Lib.hid hsc
        clear hsc hd hPp hQp hpl HD
        go_wp2_with fail
        refine (HSC.out).mono ?_
        rintro e w4 ⟨A4, c4, rfl, hr4, hd4⟩
        have HEQ := Lib.hid (hd4.eq hr4 rfl HPL.out)
        clear hr4 hd4 HSC
        go_wp2_with fail
        refine (HEQ.out).mono ?_
        rintro e w5 ⟨rfl, hd5⟩
        have hsc2 := hd5.swap.scan
        rw [HQP.out] at hsc2
        have HSC2 := Lib.hid hsc2
        clear hsc2 hd5 HEQ
        go_wp2_with fail
        refine (HSC2.out).mono ?_
        rintro e w6 ⟨A6, c6, rfl, hr6, hd6⟩
        have HEQ2 := Lib.hid (hd6.eq hr6 rfl HPL.out)
        clear hr6 hd6 HSC2
        go_wp2_with fail
        refine (HEQ2.out).mono ?_
        rintro e w7 ⟨rfl, hd7⟩
        have HBB := Lib.hid (show Below w.heap.size w w7 by
          obtain ⟨_, _, _, _, h⟩ := hd7
          exact h.below)
        clear hd7 HEQ2
        go_wp2_with fail
        refine (HG.out _ HBB.out).mono ?_
        rintro e w8 ⟨rfl, hb8⟩
        have HB8 := Lib.hid (HBB.out.trans (hb8.mono HBB.out.size))
        clear hb8
        go_wp2_with fail
        go_ret
        exact ⟨rfl, HB8.out⟩
end Go.Proofs.YtkkfgdibficifaaDoor
