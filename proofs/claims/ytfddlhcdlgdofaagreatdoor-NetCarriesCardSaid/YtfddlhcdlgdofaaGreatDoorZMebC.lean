/- ops.asked, check, Check: which operations may be asked. -/
import Derived.Test.YtfddlhcdlgdofaaGreatDoorZMebA
import Derived.Test.YtfddlhcdlgdofaaGreatDoorZErrB
set_option linter.unusedSimpArgs false
set_option linter.unusedVariables false
set_option linter.unnecessarySimpa false
namespace Go.Proofs.YtfddlhcdlgdofaaGreatDoor
open Go.RowKit Go.Shelf

set_option maxRecDepth 100000 in
set_option maxHeartbeats 1000000 in
theorem asked_any (k : Int) (s : ByteArray) (n lo : Int) (w : World) (hs : s.size ≤ 1073741824) :
    Calls Tryz.prog 170 #[.agg #[.int .i64 k, .string s, .int .i64 n, .int .i64 lo]] w fun e w' => e = .returned (.bool (askO ⟨k, s, n, lo⟩)) ∧ Below w.heap.size w w' := by
  have HKY := Lib.hid (fun W => key_any s W hs)
  have HM := Lib.hid (fun W => opmay_any k s n lo W hs)
  have HB : Hid (Below w.heap.size w (w.alloc (.cells #[.int .i64 k, .string s, .int .i64 n, .int .i64 lo] 168))) := Lib.hid (below_new _)
  have hat := alloc_at w (.cells #[.int .i64 k, .string s, .int .i64 n, .int .i64 lo] 168)
  have HA := Lib.hid hat
  obtain ⟨mb, hmb⟩ : ∃ b, mayO ⟨k, s, n, lo⟩ = b := ⟨_, rfl⟩
  obtain ⟨kb, hkb⟩ : ∃ b, keyP s = b := ⟨_, rfl⟩
  rw [hmb] at HM
  rw [hkb] at HKY
  have HE : Hid (askO ⟨k, s, n, lo⟩ = (mb && kb)) := Lib.hid (by unfold askO; rw [hmb]; simp only; rw [hkb])
  clear hmb hkb hat
  go_enter Tryz.func170, Tryz.ntmps170
  go_wp2_with fail
  refine (HM.out _).mono ?_
  rintro e w1 ⟨rfl, hb1⟩
  have HB1 := Lib.hid (HB.out.trans (hb1.mono HB.out.size))
  have k1 : w1.cell? ⟨w.heap.size, 1, none⟩ = some (.string s) := (hb1.cell (p := ⟨w.heap.size, 1, none⟩) (by show w.heap.size < _; rw [asz]; omega)).trans (cell_of HA.out 1)
  clear hb1
  cases mb with
  | false =>
    go_wp2_with fail
    go_ret
    exact ⟨ret_bool (by rw [HE.out]; rfl), HB1.out⟩
  | true =>
    go_wp2_with fail
    refine (HKY.out _).mono ?_
    rintro e w2 ⟨rfl, rfl⟩
    go_wp2_with fail
    go_ret
    exact ⟨ret_bool (by rw [HE.out]; rfl), HB1.out⟩
/-- A slice that reads as operations, wherever it lies; their texts are not too long. -/
structure OpsAt (w : World) (v : Value) (l : List OpV) : Prop where
  form : ∃ A cap, v = .slice A l.length cap ∧ l.length ≤ cap ∧ cap ≤ maxLen ∧ ∀ (i : Nat) (o : OpV), l[i]? = some o → ∃ a : Addr, A = some a ∧ a.block < w.heap.size ∧ w.cell? (a.add (i * 4)) = some (.int .i64 o.k) ∧ w.cell? ⟨(a.add (i * 4)).block, (a.add (i * 4)).off + 1, none⟩ = some (.string o.s) ∧ w.cell? ⟨(a.add (i * 4)).block, (a.add (i * 4)).off + 2, none⟩ = some (.int .i64 o.n) ∧ w.cell? ⟨(a.add (i * 4)).block, (a.add (i * 4)).off + 3, none⟩ = some (.int .i64 o.lo)
theorem OpsAt.below {w w' : World} {v : Value} {l : List OpV} (h : OpsAt w v l) (hb : Below w.heap.size w w') : OpsAt w' v l := by
  obtain ⟨A, cap, e, h1, h2, h3⟩ := h.form
  refine ⟨A, cap, e, h1, h2, fun i o hi => ?_⟩
  obtain ⟨a, q0, q1, k0, k1, k2, k3⟩ := h3 i o hi
  have hblk : (a.add (i * 4)).block < w.heap.size := by rw [add_block]; exact q1
  exact ⟨a, q0, Nat.lt_of_lt_of_le q1 hb.size, (hb.cell hblk).trans k0, (hb.cell (p := ⟨(a.add (i * 4)).block, (a.add (i * 4)).off + 1, none⟩) hblk).trans k1, (hb.cell (p := ⟨(a.add (i * 4)).block, (a.add (i * 4)).off + 2, none⟩) hblk).trans k2, (hb.cell (p := ⟨(a.add (i * 4)).block, (a.add (i * 4)).off + 3, none⟩) hblk).trans k3⟩
/-- Texts that are not too long. -/
def KeysIn (l : List OpV) : Prop := ∀ o ∈ l, o.s.size ≤ 1073741824
theorem all_take {l : List OpV} {k : Nat} {o : OpV} (h : l[k]? = some o) (hk : (l.take k).all askO = true) : (l.take (k + 1)).all askO = askO o := by
  have hlt := (List.getElem?_eq_some_iff.1 h).1
  rw [List.take_succ_eq_append_getElem hlt, List.all_append, hk, (List.getElem?_eq_some_iff.1 h).2]
  simp
theorem ret_int' {k : IntKind} {a b : Int} (h : a = b) : Ending.returned (.int k a) = .returned (.int k b) := by rw [h]
theorem numOk_cons {p : Lk} {c : List Lk} (hp : ∀ e, p ≠ .num e) (h : NumOk c) : NumOk (p :: c) := fun e he => by
  rcases List.mem_cons.1 he with he | he
  · exact absurd he.symm (hp e)
  · exact h e he
theorem numOk_one {n : Int} (hn : n ≠ 0) : NumOk [.num n] := fun e he => by
  obtain rfl : e = n := by simpa using he
  exact hn
theorem below_of_drew {w w' : World} (h : Below w.drew.heap.size w.drew w') : Below w.heap.size w w' := (below_drew (Below.refl _ w)).trans h
theorem ErrIs.form2 {w : World} {c : List Lk} {v : Value} (h : ErrIs w c v) (hc : c ≠ []) : ∃ t u, v = .iface t u := by
  cases c with
  | nil => exact absurd rfl hc
  | cons k r => exact h.form1
/-- What check tells: an error of this number, in new blocks. -/
def CheckPost (c : Nat) (w : World) (e : Ending) (w' : World) : Prop := ∃ v ch, e = .returned v ∧ ErrIs w' ch v ∧ NumOk ch ∧ ch.length < 1000 ∧ codeOf ch = (c : Int) ∧ Below w.heap.size w w'
set_option maxRecDepth 100000 in
set_option maxHeartbeats 2000000 in
theorem ocheck_any {w : World} {v : Value} {l : List OpV} (h : OpsAt w v l) (hk : KeysIn l) :
    Calls Tryz.prog 154 #[v] w (CheckPost (checkO l) w) := by
  obtain ⟨A, cap, rfl, hc1, hc2, hcell⟩ := h.form
  unfold maxLen at hc2
  by_cases h8 : 8 < l.length
  · have HP : Hid (checkO l = 7) := Lib.hid (by unfold checkO; rw [if_pos h8])
    have h8I : (8 : Int) < (l.length : Int) := by omega
    clear h hcell hk
    go_enter Tryz.func154, Tryz.ntmps154
    go_wp2_with fail
    refine (new_any 7 _).mono ?_
    rintro e w1 ⟨ev, rfl, hev, hb1⟩
    obtain ⟨t1, u1, rfl⟩ := hev.form2 (by simp [newL, onto])
    have HEV := Lib.hid hev
    have HB1 := Lib.hid hb1
    clear hev hb1
    go_wp2_with fail
    refine (bound_any _ _ HEV.out).mono ?_
    rintro e w2 ⟨ev, rfl, hev, hb2⟩
    have HEV2 := Lib.hid hev
    have HB2 := Lib.hid (HB1.out.trans (hb2.mono HB1.out.size))
    clear hev hb2
    go_wp2
    go_ret
    refine ⟨_, _, rfl, HEV2.out, ?_, ?_, ?_, HB2.out⟩
    · simp only [newL, onto]
      exact numOk_cons (fun e h => by cases h) (numOk_one (by decide))
    · simp [newL, onto]
    · rw [HP.out]; rfl
  · have h8I : ¬ (8 : Int) < (l.length : Int) := by omega
    have hlI : (l.length : Int) ≤ 8 := by omega
    have HH := Lib.hid h
    have HC := Lib.hid hcell
    have HK := Lib.hid hk
    obtain ⟨m, hm⟩ : ∃ m, l.length = m := ⟨_, rfl⟩
    have HM := Lib.hid hm
    rw [hm] at h8 h8I hlI hc1
    clear h hcell hk
    rw [hm]
    clear hm
    go_enter Tryz.func154, Tryz.ntmps154
    go_wp2_with fail
    go_loopw [14] (fun iv wr => ∃ i : Nat, i ≤ m ∧ iv = .int .i64 i ∧ (l.take i).all askO = true ∧ Below w.heap.size w wr) (fun iv _ => m - (intOf iv).toNat)
    case atStart => exact ⟨0, Nat.zero_le _, rfl, rfl, Below.refl _ _⟩
    case round =>
      obtain ⟨i, hi, rfl, hall, hbw⟩ := hrel
      by_cases hlt : i < m
      · obtain ⟨o, ho⟩ : ∃ o, l[i]? = some o := ⟨_, List.getElem?_eq_getElem (by rw [HM.out]; exact hlt)⟩
        obtain ⟨a, rfl, q1, k0, k1, k2, k3⟩ := HC.out i o ho
        have hblk : (a.add (i * 4)).block < w.heap.size := by rw [add_block]; exact q1
        replace k0 := (hbw.cell hblk).trans k0
        replace k1 := (hbw.cell (p := ⟨(a.add (i * 4)).block, (a.add (i * 4)).off + 1, none⟩) hblk).trans k1
        replace k2 := (hbw.cell (p := ⟨(a.add (i * 4)).block, (a.add (i * 4)).off + 2, none⟩) hblk).trans k2
        replace k3 := (hbw.cell (p := ⟨(a.add (i * 4)).block, (a.add (i * 4)).off + 3, none⟩) hblk).trans k3
        have hsz := HK.out o (List.mem_of_getElem? ho)
        have HNX := Lib.hid (all_take ho hall)
        have HNO : Hid (askO o = false → l.all askO = false) := Lib.hid (fun h => by
          rw [List.all_eq_false]
          exact ⟨o, List.mem_of_getElem? ho, by simp [h]⟩)
        obtain ⟨kd, s, n, lo⟩ := o
        simp only at k0 k1 k2 k3 hsz
        have HAS := Lib.hid (fun W => asked_any kd s n lo W hsz)
        obtain ⟨b, hb⟩ : ∃ b, askO ⟨kd, s, n, lo⟩ = b := ⟨_, rfl⟩
        rw [hb] at HAS HNX HNO
        have hiI : (i : Int) < (m : Int) := by omega
        have HLT := Lib.hid hlt
        have HBW := Lib.hid (hbw.trans ((below_new (w := wr) (.cells #[.int .i64 kd, .string s, .int .i64 n, .int .i64 lo] 168)).mono hbw.size))
        have HAT := Lib.hid (alloc_at wr (.cells #[.int .i64 kd, .string s, .int .i64 n, .int .i64 lo] 168))
        clear hb ho hall hbw hlt hblk q1 hi
        go_wp2_with fail
        refine (HAS.out _).mono ?_
        rintro e w1 ⟨rfl, hb1⟩
        have HB1 := Lib.hid (HBW.out.trans (hb1.mono HBW.out.size))
        have c1 : w1.cell? ⟨wr.heap.size, 1, none⟩ = some (.string s) := (hb1.cell (p := ⟨wr.heap.size, 1, none⟩) (by show wr.heap.size < _; rw [asz]; omega)).trans (cell_of HAT.out 1)
        clear hb1 k0 k1 k2 k3
        cases b with
        | true =>
          go_wp2_with fail
          go_roundw
          case rel => exact ⟨i + 1, HLT.out, by go_num, HNX.out, HB1.out⟩
          case measure => have := HLT.out; simp [intOf]; omega
        | false =>
          have HK0 := Lib.hid c1
          go_wp2_with fail
          refine wp_only ?_
          refine wp_region_held_drew (S := fun W => W.cell? ⟨wr.heap.size, 1, none⟩ = some (.string s)) (by kernel_rfl) HK0.out (fun hHeld => ?_)
          refine wpAnyH_take (i := 0) (oi := { dst := some 22, op := Op.move (Operand.tmp 3), type := 3, pos := "ops.go:133", after := #[], guard := none }) (v := ?vv1) rfl (by kernel_rfl) (by kernel_rfl) (by kernel_rfl) (fun _ _ _ h => h) ?hy1 (by assumption) ?rest1
          case hy1 => (refine Or.inl ⟨by rfl, ?_⟩; intro W hSw; (try dsimp only at hSw); go_simp; (try with_reducible rfl))
          try simp only [Act.put, List.setIfInBounds_toArray, List.set_cons_zero, List.set_cons_succ]
          refine wpAnyH_take (i := 1) (oi := { dst := some 23, op := Op.fieldAddr 168 (Operand.tmp 4) 1, type := 0, pos := "ops.go:133", after := #[], guard := none }) (v := ?vv2) rfl (by kernel_rfl) (by kernel_rfl) (by kernel_rfl) (fun _ _ _ h => h) ?hy2 (by assumption) ?rest2
          case hy2 => (refine Or.inl ⟨by rfl, ?_⟩; intro W hSw; (try dsimp only at hSw); go_simp; (try with_reducible rfl))
          try simp only [Act.put, List.setIfInBounds_toArray, List.set_cons_zero, List.set_cons_succ]
          refine wpAnyH_take (i := 2) (oi := { dst := some 24, op := Op.load 9 (Operand.tmp 23), type := 9, pos := "ops.go:133", after := #[{ on := 1, ground := Ground.data }], guard := none }) (v := ?vv3) rfl (by kernel_rfl) (by kernel_rfl) (by kernel_rfl) (fun _ _ _ h => h) ?hy3 (by assumption) ?rest3
          case hy3 => (refine Or.inl ⟨by rfl, ?_⟩; intro W hSw; (try dsimp only at hSw); go_simp; (try with_reducible rfl))
          try simp only [Act.put, List.setIfInBounds_toArray, List.set_cons_zero, List.set_cons_succ]
          refine wpAnyH_ready (rs := [3]) (by kernel_rfl) (by simp) ?_
          refine AllReadyH.cons (o := { dst := some 25, op := Op.call { callee := Callee.value (Operand.func 68), args := #[Operand.const (Value.int IntKind.i64 2)], argTypes := #[24] }, type := 94, pos := "ops.go:133", after := #[], guard := none }) rfl (fun K hK => ?step4) ?more4
          case more4 => exact AllReadyH.nil
          ((go_simp; go_at_call 68; refine (new_any 2 _).mono ?_; rintro e w8 ⟨ev, rfl, hev, hb8⟩; obtain ⟨t8, u8, rfl⟩ := hev.form2 (by simp [newL, onto]); have HEV := Lib.hid hev; have HB8 := Lib.hid (below_of_drew hb8); clear hev hb8; go_wp2_with fail))
          refine hK.out _ _ ?hS4 (fun hHeld => ?rr4)
          case hS4 => (exact (HB8.out.cell (World.block_lt_of_cell? _ _ HK0.out)).trans HK0.out)
          clear hK K
          try simp only [Act.put, List.setIfInBounds_toArray, List.set_cons_zero, List.set_cons_succ]
          refine wpAnyH_ready (rs := [4]) (by kernel_rfl) (by simp) ?_
          refine AllReadyH.cons (o := { dst := some 26, op := Op.call { callee := Callee.value (Operand.func 74), args := #[Operand.tmp 24, Operand.tmp 25], argTypes := #[9, 94] }, type := 94, pos := "ops.go:133", after := #[{ on := 2, ground := Ground.data }, { on := 3, ground := Ground.data }, { on := 3, ground := Ground.chain }], guard := none }) rfl (fun K hK => ?step5) ?more5
          case more5 => exact AllReadyH.nil
          ((go_simp; go_at_call 74; refine (in_any _ HEV.out).mono ?_; rintro e w9 ⟨ev, rfl, hev, hb9⟩; obtain ⟨t9, u9, rfl⟩ := hev.form2 (by simp [newL, onto]); have HEV2 := Lib.hid hev; have HB9 := Lib.hid (HB8.out.trans (hb9.mono HB8.out.size)); clear hev hb9; go_wp2_with fail))
          refine hK.out _ _ ?hS5 (fun hHeld => ?rr5)
          case hS5 => (exact (HB9.out.cell (World.block_lt_of_cell? _ _ HK0.out)).trans HK0.out)
          clear hK K
          try simp only [Act.put, List.setIfInBounds_toArray, List.set_cons_zero, List.set_cons_succ]
          refine wpAnyH_ready (rs := [5]) (by kernel_rfl) (by simp) ?_
          refine AllReadyH.cons (o := { dst := some 27, op := Op.call { callee := Callee.value (Operand.func 67), args := #[Operand.tmp 22, Operand.tmp 26], argTypes := #[3, 94] }, type := 94, pos := "ops.go:133", after := #[{ on := 0, ground := Ground.data }, { on := 4, ground := Ground.data }, { on := 4, ground := Ground.chain }], guard := none }) rfl (fun K hK => ?step6) ?more6
          case more6 => exact AllReadyH.nil
          ((go_simp; go_at_call 67; refine (at_any _ HEV2.out).mono ?_; rintro e wa ⟨ev, rfl, hev, hba⟩; obtain ⟨ta, ua, rfl⟩ := hev.form2 (by simp [newL, onto]); have HEV3 := Lib.hid hev; have HBA := Lib.hid (HB9.out.trans (hba.mono HB9.out.size)); clear hev hba; go_wp2_with fail))
          refine hK.out _ _ ?hS6 (fun hHeld => ?rr6)
          case hS6 => (exact (HBA.out.cell (World.block_lt_of_cell? _ _ HK0.out)).trans HK0.out)
          clear hK K
          try simp only [Act.put, List.setIfInBounds_toArray, List.set_cons_zero, List.set_cons_succ]
          refine wpAnyH_take (i := 6) (oi := { dst := some 2, op := Op.assign (Operand.tmp 27), type := 94, pos := "ops.go:133", after := #[{ on := 5, ground := Ground.data }, { on := 5, ground := Ground.chain }, { on := 0, ground := Ground.phase }, { on := 1, ground := Ground.phase }, { on := 2, ground := Ground.phase }, { on := 3, ground := Ground.phase }, { on := 4, ground := Ground.phase }, { on := 5, ground := Ground.phase }], guard := none }) (v := ?vv7) rfl (by kernel_rfl) (by kernel_rfl) (by kernel_rfl) (fun _ _ _ h => h) ?hy7 (by assumption) ?rest7
          case hy7 => (refine Or.inl ⟨by rfl, ?_⟩; intro W hSw; (try dsimp only at hSw); go_simp; (try with_reducible rfl))
          try simp only [Act.put, List.setIfInBounds_toArray, List.set_cons_zero, List.set_cons_succ]
          refine wpAnyH_done (by kernel_rfl) ?_ _
          dsimp only [onlyN]
          clear hHeld
          go_wp2_with fail
          go_ret
          refine ⟨_, _, rfl, HEV3.out, ?_, ?_, ?_, HB1.out.trans (HBA.out.mono HB1.out.size)⟩
          · simp only [newL, onto]
            exact numOk_cons (fun e h => by cases h) (numOk_cons (fun e h => by cases h) (numOk_one (by decide)))
          · simp [newL, onto]
          · have : checkO l = 2 := by
              unfold checkO
              rw [HM.out, if_neg h8, HNO.out (by simp)]
              rfl
            rw [this]; rfl
      · obtain rfl : i = m := by omega
        have HF : Hid (checkO l = 0) := Lib.hid (by
          rw [List.take_of_length_le (by rw [HM.out]; omega)] at hall
          unfold checkO
          rw [HM.out, if_neg h8, if_pos hall])
        have HB := Lib.hid hbw
        clear hall hbw
        go_wp2_with fail
        go_ret
        exact ⟨_, [], rfl, rfl, (fun e h => by cases h), by simp, by rw [HF.out]; rfl, HB.out⟩
set_option maxRecDepth 100000 in
set_option maxHeartbeats 1000000 in
theorem Check_any {w : World} {v : Value} {l : List OpV} (hG : Glob w) (h : OpsAt w v l) (hk : KeysIn l) :
    Calls Tryz.prog 116 #[v] w fun e w' => e = .returned (.int .i64 (checkO l)) ∧ Below w.heap.size w w' := by
  have HC := Lib.hid (ocheck_any h hk)
  obtain ⟨A, cap, rfl, _⟩ := h.form
  have HG := Lib.hid hG
  clear h hk hG
  go_enter Tryz.func116, Tryz.ntmps116
  go_wp2_with fail
  refine (HC.out).mono ?_
  rintro e w1 ⟨ev, ch, rfl, hev, hno, hlt, hco, hb1⟩
  have HCD := Lib.hid (code_any (HG.out.below hb1) hev hno hlt (Below.refl _ _))
  have HF := Lib.hid (And.intro hco hb1)
  rcases hev.form with rfl | ⟨t, u, rfl⟩
  all_goals
    clear hev hno hlt hco hb1
    go_wp2_with fail
    refine (HCD.out).mono ?_
    rintro e w2 ⟨rfl, hb2⟩
    have HB2 := Lib.hid (HF.out.2.trans (hb2.mono HF.out.2.size))
    clear hb2
    go_wp2
    go_ret
    exact ⟨ret_int' HF.out.1, HB2.out⟩
end Go.Proofs.YtfddlhcdlgdofaaGreatDoor
