/- fault.New, errors.Is and fault.Is at every chain. -/
import Derived.Test.YtakdhhapckcnaaaDoorErrE
set_option linter.unusedSimpArgs false
set_option linter.unusedVariables false
namespace Go.Proofs.YtakdhhapckcnaaaDoor
open Go.RowKit Go.Extern.Stop Go.Stop Go.Extern

theorem noIs84 (v : Value) (xT : TypeId) (w : World) : (Instr.typeAssert (.iface 84 v) xT 122 true).run Tryd.prog w = .ok (.tuple #[.nilIface, .bool false]) w := run_typeAssert_lacksB Tryd.underlying122 (by kernel_rfl) (by kernel_rfl) v xT w
theorem noIs87 (v : Value) (xT : TypeId) (w : World) : (Instr.typeAssert (.iface 87 v) xT 122 true).run Tryd.prog w = .ok (.tuple #[.nilIface, .bool false]) w := run_typeAssert_lacksB Tryd.underlying122 (by kernel_rfl) (by kernel_rfl) v xT w
theorem noIs94 (v : Value) (xT : TypeId) (w : World) : (Instr.typeAssert (.iface 94 v) xT 122 true).run Tryd.prog w = .ok (.tuple #[.nilIface, .bool false]) w := run_typeAssert_lacksB Tryd.underlying122 (by kernel_rfl) (by kernel_rfl) v xT w
theorem noIs76 (v : Value) (xT : TypeId) (w : World) : (Instr.typeAssert (.iface 76 v) xT 122 true).run Tryd.prog w = .ok (.tuple #[.nilIface, .bool false]) w := run_typeAssert_lacksB Tryd.underlying122 (by kernel_rfl) (by kernel_rfl) v xT w
theorem comp84 (w : World) : (ReflectliteType.method (fun t => do Go.Extern.Rtype.noPackHeld "Comparable" t; pure (.bool (← typeInfo t).comparable)) #[.agg #[.pointer (some ⟨1, 84, none⟩)]]).run Tryd.prog w = .ok (.bool true) w := by kernel_rfl
theorem call115 (w : World) : (callFunc 115 #[.agg #[.pointer (some ⟨1, 84, none⟩)]]).run Tryd.prog w = .ok (Next.value (.bool true)) w := by
  rw [@run_callFunc_extern Tryd.prog 115 _ (ReflectliteType.method fun t => do Go.Extern.Rtype.noPackHeld "Comparable" t; pure (.bool (← typeInfo t).comparable)) Tryd.func115 (by kernel_rfl) (by kernel_rfl) (by kernel_rfl) (by kernel_rfl), comp84]; rfl
theorem call67 (v : Value) (w : World) : (callFunc 67 #[.iface 84 v]).run Tryd.prog w = .ok (Next.value (.iface 120 (.agg #[.pointer (some ⟨1, 84, none⟩)]))) w := by
  rw [@run_callFunc_extern Tryd.prog 67 _ ReflectliteType.typeOf Tryd.func67 (by kernel_rfl) (by kernel_rfl) (by kernel_rfl) (by kernel_rfl), typeOf84]; rfl
theorem methodComparable (v : Value) (w : World) : (Go.method 276 120 v "Comparable").run Tryd.prog w = .ok (115, v) w := by kernel_rfl
theorem comparable84 : (Tryd.prog.info? 84).map (·.comparable) = some true := by kernel_rfl
theorem eqIn84 (d : Nat) (e n : Int) (w : World) : (Op.equalIn (d + 2) 84 (.agg #[.int .i64 e]) (.agg #[.int .i64 n])).run Tryd.prog w = .ok (e == n) w := by
  by_cases h : e = n
  · have hb : (e == n) = true := beq_iff_eq.2 h
    go_simp
  · have hb : (e == n) = false := beq_eq_false_iff_ne.2 h
    go_simp
theorem eq84 (e n : Int) (w : World) : (binOp .eql 25 (.iface 84 (.agg #[.int .i64 e])) (.iface 84 (.agg #[.int .i64 n]))).run Tryd.prog w = .ok (.bool (e == n)) w := by
  obtain ⟨i, hi, hc⟩ := Option.map_eq_some_iff.1 comparable84
  have h : ∀ d, (Op.equalIn (d + 3) 25 (.iface 84 (.agg #[.int .i64 e])) (.iface 84 (.agg #[.int .i64 n]))).run Tryd.prog w = .ok (e == n) w := fun d => by
    rw [Op.equalIn]
    simp [run_underlying Tryd.underlying25, typeInfo, hi, hc, eqIn84]
  simp only [binOp]
  simp [Op.equal, Op.maxDepth, h 9997]

set_option maxHeartbeats 400000 in
theorem new_zero (w : World) : Calls Tryd.prog 30 #[.int .i64 0] w fun e w' => e = .returned .nilIface ∧ w = w' := by
  go_enter Tryd.func30, Tryd.ntmps30
  go_wp2
  go_ret
  exact ⟨rfl, rfl⟩
set_option maxHeartbeats 400000 in
theorem new_num (n : Int) (hn : n ≠ 0) (w : World) : Calls Tryd.prog 30 #[.int .i64 n] w fun e w' => e = .returned (.iface 84 (.agg #[.int .i64 n])) ∧ w = w' := by
  have h0 : (n == 0) = false := beq_eq_false_iff_ne.2 hn
  go_enter Tryd.func30, Tryd.ntmps30
  go_wp2
  go_ret
  exact ⟨rfl, rfl⟩

set_option maxRecDepth 100000 in
set_option maxHeartbeats 1000000 in
theorem is_one (e n : Int) (w : World) : Calls Tryd.prog 29 #[.iface 84 (.agg #[.int .i64 e]), .iface 84 (.agg #[.int .i64 n])] w fun x w' => x = .returned (.bool (e == n)) ∧ w = w' := by
  have h67 := call67
  have h115 := call115
  have e3 := methodComparable
  have e4 := eq84
  have e5 := noIs84
  have e6 := noU84
  have e7 := noUs84
  by_cases hen : e = n
  · have hb : (e == n) = true := beq_iff_eq.2 hen
    clear hen
    go_enter Tryd.func29, Tryd.ntmps29
    go_wp2
    refine wp_loop_rounds 1 ?_
    rw [rounds_succ]
    go_wp2
    go_ret
    exact ⟨by rw [hb]; rfl, rfl⟩
  · have hb : (e == n) = false := beq_eq_false_iff_ne.2 hen
    clear hen
    go_enter Tryd.func29, Tryd.ntmps29
    go_wp2
    refine wp_loop_rounds 1 ?_
    rw [rounds_succ]
    go_wp2
    go_ret
    exact ⟨by rw [hb]; rfl, rfl⟩
set_option maxRecDepth 100000 in
set_option maxHeartbeats 1000000 in
theorem is_nil (e : Int) (w : World) : Calls Tryd.prog 29 #[.iface 84 (.agg #[.int .i64 e]), .nilIface] w fun x w' => x = .returned (.bool false) ∧ w = w' := by
  go_enter Tryd.func29, Tryd.ntmps29
  go_wp2
  go_ret
  exact ⟨rfl, rfl⟩

def isAt (c : List Lk) (n : Int) : Bool := match hit Lk.isNum c with
  | .num e :: _ => e == n
  | _ => false
theorem ne87 (u v : Value) (w : World) : (binOp .eql 25 (.iface 87 u) (.iface 84 v)).run Tryd.prog w = .ok (.bool false) w := run_eql_iface_types 87 84 u v Tryd.underlying25 (by decide) w
theorem ne94 (u v : Value) (w : World) : (binOp .eql 25 (.iface 94 u) (.iface 84 v)).run Tryd.prog w = .ok (.bool false) w := run_eql_iface_types 94 84 u v Tryd.underlying25 (by decide) w
theorem ne76 (u v : Value) (w : World) : (binOp .eql 25 (.iface 76 u) (.iface 84 v)).run Tryd.prog w = .ok (.bool false) w := run_eql_iface_types 76 84 u v Tryd.underlying25 (by decide) w

set_option maxRecDepth 100000 in
set_option maxHeartbeats 1000000 in
theorem is_chain {w W : World} {c : List Lk} {v : Value} (n : Int) (h : ErrIs w c v) (hW : Below w.heap.size w W) :
    Calls Tryd.prog 29 #[v, .iface 84 (.agg #[.int .i64 n])] W fun e w' => e = .returned (.bool (isAt c n)) ∧ Below W.heap.size W w' := by
  by_cases hc : c = []
  · subst hc
    obtain rfl : v = .nilIface := h
    have e0 := fun (w : World) => run_eql_iface_nil_left (P := Tryd.prog) w 84 (.agg #[.int .i64 n]) Tryd.underlying25
    go_enter Tryd.func29, Tryd.ntmps29
    go_wp2
    go_ret
    exact ⟨rfl, Below.refl _ _⟩
  · obtain ⟨vt, vu, rfl⟩ : ∃ t u, v = .iface t u := by
      cases c with
      | nil => exact absurd rfl hc
      | cons k r => exact h.form1
    have hwW : w.heap.size ≤ W.heap.size := hW.size
    have h67 := call67
    have h115 := call115
    have e3 := methodComparable
    have HW := Lib.hid hW
    clear hW
    go_enter Tryd.func29, Tryd.ntmps29
    go_wp2
    go_loopg [0] c.length (fun g v0 wr => ∃ r : List Lk, r.length = g ∧ r ≠ [] ∧ ErrIs w r v0 ∧ hit Lk.isNum r = hit Lk.isNum c ∧ Below W.heap.size W wr)
    case atStart => exact ⟨c, rfl, hc, h, rfl, Below.refl _ _⟩
    case round =>
      clear h
      obtain ⟨r, hg, hne, hr, hh, hb⟩ := hrel
      have HH := Lib.hid hh
      have HG := Lib.hid hg
      clear hh hg
      cases r with
      | nil => exact absurd rfl hne
      | cons k0 r =>
        cases k0 with
        | num e =>
          obtain ⟨rfl, rfl⟩ := hr
          have e4 := eq84
          have e5 := noIs84
          have e6 := noU84
          have e7 := noUs84
          clear hc hne
          have HB := Lib.hid hb
          clear hb
          by_cases hen : e = n
          · have hb : (e == n) = true := beq_iff_eq.2 hen
            clear hen
            go_wp2
            go_ret
            exact ⟨by unfold isAt; rw [← HH.out]; simp only [hit, Lk.isNum]; rw [hb]; rfl, HB.out⟩
          · have hb : (e == n) = false := beq_eq_false_iff_ne.2 hen
            clear hen
            go_wp2
            go_ret
            exact ⟨by unfold isAt; rw [← HH.out]; simp only [hit, Lk.isNum]; rw [hb]; rfl, HB.out⟩
        | plc p =>
          obtain ⟨hr1, b, x, rfl, hb1, hx⟩ := hr
          have hb2 := cell0 (HW.out.trans (hb.mono hwW)) hb1
          have e4 := ne87
          have e5 := noIs87
          have e6 := hasU87
          have e7 := m87u b x wr hb2
          obtain ⟨k1, r1, rfl⟩ : ∃ k1 r1, r = k1 :: r1 := by
            cases r with
            | nil => exact absurd rfl hr1
            | cons k1 r1 => exact ⟨k1, r1, rfl⟩
          obtain ⟨xt, xu, rfl⟩ := hx.form1
          clear hc hne hb1 hb2 hr1
          have HB := Lib.hid hb
          clear hb
          go_wp2_with (go_at_call 109; refine (link_unwrap _ _).mono ?_; rintro e w1 ⟨rfl, rfl⟩)
          go_roundg (r1.length + 1)
          case measure => rw [← HG.out]; simp
          case rel => exact ⟨k1 :: r1, rfl, by simp, hx, HH.out, HB.out.alloc HB.out.size _⟩
        | nam s =>
          obtain ⟨hr1, b, x, rfl, hb1, hx⟩ := hr
          have hb2 := cell0 (HW.out.trans (hb.mono hwW)) hb1
          have e4 := ne94
          have e5 := noIs94
          have e6 := hasU94
          have e7 := m94u b x wr hb2
          obtain ⟨k1, r1, rfl⟩ : ∃ k1 r1, r = k1 :: r1 := by
            cases r with
            | nil => exact absurd rfl hr1
            | cons k1 r1 => exact ⟨k1, r1, rfl⟩
          obtain ⟨xt, xu, rfl⟩ := hx.form1
          clear hc hne hb1 hb2 hr1
          have HB := Lib.hid hb
          clear hb
          go_wp2_with (go_at_call 109; refine (link_unwrap _ _).mono ?_; rintro e w1 ⟨rfl, rfl⟩)
          go_roundg (r1.length + 1)
          case measure => rw [← HG.out]; simp
          case rel => exact ⟨k1 :: r1, rfl, by simp, hx, HH.out, HB.out.alloc HB.out.size _⟩
        | bnd l g =>
          obtain ⟨hr1, b, x, rfl, hb1, hx⟩ := hr
          have hb2 := cell0 (HW.out.trans (hb.mono hwW)) hb1
          have e4 := ne76
          have e5 := noIs76
          have e6 := hasU76
          have e7 := m76u b x wr hb2
          obtain ⟨k1, r1, rfl⟩ : ∃ k1 r1, r = k1 :: r1 := by
            cases r with
            | nil => exact absurd rfl hr1
            | cons k1 r1 => exact ⟨k1, r1, rfl⟩
          obtain ⟨xt, xu, rfl⟩ := hx.form1
          clear hc hne hb1 hb2 hr1
          have HB := Lib.hid hb
          clear hb
          go_wp2_with (go_at_call 109; refine (link_unwrap _ _).mono ?_; rintro e w1 ⟨rfl, rfl⟩)
          go_roundg (r1.length + 1)
          case measure => rw [← HG.out]; simp
          case rel => exact ⟨k1 :: r1, rfl, by simp, hx, HH.out, HB.out.alloc HB.out.size _⟩

theorem is_one' (e n : Int) (w : World) : Calls Tryd.prog 29 #[.iface 84 (.agg #[.int .i64 e]), .iface 84 (.agg #[.int .i64 n])] w fun x w' => x = .returned (.bool (e == n)) ∧ w' = w := (is_one e n w).mono fun _ _ ⟨a, b⟩ => ⟨a, b.symm⟩
theorem is_nil' (e : Int) (w : World) : Calls Tryd.prog 29 #[.iface 84 (.agg #[.int .i64 e]), .nilIface] w fun x w' => x = .returned (.bool false) ∧ w' = w := (is_nil e w).mono fun _ _ ⟨a, b⟩ => ⟨a, b.symm⟩
theorem new_zero' (w : World) : Calls Tryd.prog 30 #[.int .i64 0] w fun e w' => e = .returned .nilIface ∧ w' = w := (new_zero w).mono fun _ _ ⟨a, b⟩ => ⟨a, b.symm⟩
theorem new_num' (n : Int) (hn : n ≠ 0) (w : World) : Calls Tryd.prog 30 #[.int .i64 n] w fun e w' => e = .returned (.iface 84 (.agg #[.int .i64 n])) ∧ w' = w := (new_num n hn w).mono fun _ _ ⟨a, b⟩ => ⟨a, b.symm⟩

def isOf (c : List Lk) (n : Int) : Bool := match c with
  | [] => false
  | k :: r => codeOf (k :: r) == n
set_option maxRecDepth 100000 in
set_option maxHeartbeats 1000000 in
theorem isF_any {w W : World} {c : List Lk} {v : Value} (n : Int) (hG : Glob w) (h : ErrIs w c v) (hz : NumOk c) (hn : c.length < 1000) (hW : Below w.heap.size w W) :
    Calls Tryd.prog 28 #[v, .int .i64 n] W fun e w' => e = .returned (.bool (isOf c n)) ∧ Below W.heap.size W w' := by
  have H1 := Lib.hid (find_num hG h hz hn hW)
  have HZ := Lib.hid hz
  have HE := Lib.hid h
  cases hh : hit Lk.isNum c with
  | nil =>
    have HH := Lib.hid hh
    cases c with
    | nil =>
      obtain rfl : v = .nilIface := h
      clear hG hn hW hz hh
      go_enter Tryd.func28, Tryd.ntmps28
      go_wp2_with fail
      refine (H1.out).mono ?_
      rintro e w1 ⟨hb, hp⟩
      rw [HH.out] at hp
      obtain rfl := hp
      have HB := Lib.hid hb
      clear hb
      go_wp2
      go_ret
      exact ⟨rfl, HB.out.alloc HB.out.size _⟩
    | cons k r =>
      obtain ⟨t, u, rfl⟩ := h.form1
      have HC := Lib.hid (codeOf_nil hh)
      clear h hG hn hW hz hh
      by_cases h2 : n = 2
      · have hb2 : (n == 2) = true := beq_iff_eq.2 h2
        have hb2' : ((2 : Int) == n) = true := beq_iff_eq.2 h2.symm
        clear h2
        go_enter Tryd.func28, Tryd.ntmps28
        go_wp2_with fail
        refine (H1.out).mono ?_
        rintro e w1 ⟨hb, hp⟩
        rw [HH.out] at hp
        obtain rfl := hp
        have HB := Lib.hid hb
        clear hb
        go_wp2
        go_ret
        exact ⟨by simp only [isOf]; rw [HC.out, hb2']; rfl, HB.out.alloc HB.out.size _⟩
      · have hb2 : (n == 2) = false := beq_eq_false_iff_ne.2 h2
        have hb2' : ((2 : Int) == n) = false := beq_eq_false_iff_ne.2 (Ne.symm h2)
        clear h2
        go_enter Tryd.func28, Tryd.ntmps28
        go_wp2_with fail
        refine (H1.out).mono ?_
        rintro e w1 ⟨hb, hp⟩
        rw [HH.out] at hp
        obtain rfl := hp
        have HB := Lib.hid hb
        clear hb
        go_wp2
        go_ret
        exact ⟨by simp only [isOf]; rw [HC.out, hb2']; rfl, HB.out.alloc HB.out.size _⟩
  | cons k' r' =>
    have HH := Lib.hid hh
    obtain ⟨e, hke⟩ : ∃ e, k' = .num e := by
      have := (hit_mem hh).2
      cases k' with
      | num e => exact ⟨e, rfl⟩
      | _ => cases this
    subst hke
    have he0 : e ≠ 0 := hz e (hit_mem hh).1
    have HI : Hid (isOf c n = (e == n)) := by
      cases c with
      | nil => cases hh
      | cons k r => show (codeOf (k :: r) == n) = (e == n); rw [codeOf_num hh]
    have HE0 := Lib.hid he0
    clear h hG hn hW hz hh he0
    by_cases h0 : n = 0
    · subst h0
      have HI2 : Hid (isOf c 0 = false) := by rw [HI.out]; exact beq_eq_false_iff_ne.2 HE0.out
      go_enter Tryd.func28, Tryd.ntmps28
      go_wp2_with fail
      refine (H1.out).mono ?_
      rintro x w1 ⟨hb, hp⟩
      rw [HH.out] at hp
      obtain ⟨u, hu, rfl⟩ := hp
      obtain ⟨e1, he1, _, rfl⟩ := inv84 hu
      obtain rfl : e1 = e := by injection he1 with he1; exact he1.symm
      clear he1 hu
      have HB := Lib.hid hb
      clear hb
      go_wp2
      go_quiet ((first | (go_at_call 30; exact Calls.quiet_of_same (new_zero' _)) | (go_at_call 29; exact Calls.quiet_of_same (is_nil' _ _))))
      go_wp2
      go_ret
      exact ⟨by rw [HI2.out]; rfl, below_drewN (HB.out.alloc HB.out.size _) _⟩
    · go_enter Tryd.func28, Tryd.ntmps28
      go_wp2_with fail
      refine (H1.out).mono ?_
      rintro x w1 ⟨hb, hp⟩
      rw [HH.out] at hp
      obtain ⟨u, hu, rfl⟩ := hp
      obtain ⟨e1, he1, _, rfl⟩ := inv84 hu
      obtain rfl : e1 = e := by injection he1 with he1; exact he1.symm
      clear he1 hu
      have HB := Lib.hid hb
      clear hb
      go_wp2
      go_quiet ((first | (go_at_call 30; exact Calls.quiet_of_same (new_num' _ h0 _)) | (go_at_call 29; exact Calls.quiet_of_same (is_one' _ _ _))))
      go_wp2
      go_ret
      exact ⟨by rw [HI.out]; rfl, below_drewN (HB.out.alloc HB.out.size _) _⟩
end Go.Proofs.YtakdhhapckcnaaaDoor
