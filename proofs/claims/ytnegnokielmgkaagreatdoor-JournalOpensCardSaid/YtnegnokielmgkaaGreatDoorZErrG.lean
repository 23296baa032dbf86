/- fault.Is of no error, and of an error that is a number. -/
import Derived.Test.YtnegnokielmgkaaGreatDoorZErrB
set_option linter.unusedSimpArgs false
set_option linter.unusedVariables false
set_option linter.unnecessarySimpa false
namespace Go.Proofs.YtnegnokielmgkaaGreatDoor
open Go.RowKit Go.Extern.Stop Go.Stop Go.Extern

theorem noIs84 (v : Value) (xT : TypeId) (w : World) : (Instr.typeAssert (.iface 126 v) xT 207 true).run Tryz.prog w = .ok (.tuple #[.nilIface, .bool false]) w := run_typeAssert_lacksB Tryz.underlying207 (by kernel_rfl) (by kernel_rfl) v xT w
theorem comp84 (w : World) : (ReflectliteType.method (fun t => do Go.Extern.Rtype.noPackHeld "Comparable" t; pure (.bool (← typeInfo t).comparable)) #[.agg #[.pointer (some ⟨2, 126, none⟩)]]).run Tryz.prog w = .ok (.bool true) w := by kernel_rfl
theorem callCmp (w : World) : (callFunc 178 #[.agg #[.pointer (some ⟨2, 126, none⟩)]]).run Tryz.prog w = .ok (Next.value (.bool true)) w := by
  rw [@run_callFunc_extern Tryz.prog 178 _ (ReflectliteType.method fun t => do Go.Extern.Rtype.noPackHeld "Comparable" t; pure (.bool (← typeInfo t).comparable)) Tryz.func178 (by kernel_rfl) (by kernel_rfl) (by kernel_rfl) (by kernel_rfl), comp84]; rfl
theorem callTyp (v : Value) (w : World) : (callFunc 131 #[.iface 126 v]).run Tryz.prog w = .ok (Next.value (.iface 205 (.agg #[.pointer (some ⟨2, 126, none⟩)]))) w := by
  rw [@run_callFunc_extern Tryz.prog 131 _ ReflectliteType.typeOf Tryz.func131 (by kernel_rfl) (by kernel_rfl) (by kernel_rfl) (by kernel_rfl), typeOf84]; rfl
theorem methodComparable (v : Value) (w : World) : (Go.method 350 205 v "Comparable").run Tryz.prog w = .ok (178, v) w := by kernel_rfl
theorem comparable84 : (Tryz.prog.info? 126).map (·.comparable) = some true := by kernel_rfl
theorem eqIn84 (d : Nat) (e n : Int) (w : World) : (Op.equalIn (d + 2) 126 (.agg #[.int .i64 e]) (.agg #[.int .i64 n])).run Tryz.prog w = .ok (e == n) w := by
  by_cases h : e = n
  · have hb : (e == n) = true := beq_iff_eq.2 h
    go_simp
  · have hb : (e == n) = false := beq_eq_false_iff_ne.2 h
    go_simp
theorem eq84 (e n : Int) (w : World) : (binOp .eql 95 (.iface 126 (.agg #[.int .i64 e])) (.iface 126 (.agg #[.int .i64 n]))).run Tryz.prog w = .ok (.bool (e == n)) w := by
  obtain ⟨i, hi, hc⟩ := Option.map_eq_some_iff.1 comparable84
  have h : ∀ d, (Op.equalIn (d + 3) 95 (.iface 126 (.agg #[.int .i64 e])) (.iface 126 (.agg #[.int .i64 n]))).run Tryz.prog w = .ok (e == n) w := fun d => by
    rw [Op.equalIn]
    simp [run_underlying Tryz.underlying95, typeInfo, hi, hc, eqIn84]
  simp only [binOp]
  simp [Op.equal, Op.maxDepth, h 9997]
set_option maxRecDepth 100000 in
set_option maxHeartbeats 1000000 in
theorem is_one (e : Int) (w : World) : Calls Tryz.prog 132 #[.iface 126 (.agg #[.int .i64 e]), .iface 126 (.agg #[.int .i64 e]), .bool true] w fun x w' => x = .returned (.bool true) ∧ w' = w := by
  have e4 := eq84
  have hb : (e == e) = true := beq_self_eq_true e
  go_enter Tryz.func132, Tryz.ntmps132
  go_wp2
  refine wp_loop_rounds 1 ?_
  rw [rounds_succ]
  go_wp2
  go_ret
  exact ⟨rfl, rfl⟩
set_option maxRecDepth 100000 in
set_option maxHeartbeats 1000000 in
theorem isL_one (e : Int) (w : World) : Calls Tryz.prog 112 #[.iface 126 (.agg #[.int .i64 e]), .iface 126 (.agg #[.int .i64 e])] w fun x w' => x = .returned (.bool true) ∧ w' = w := by
  have h67 := callTyp
  have h115 := callCmp
  have e3 := methodComparable
  have HI := Lib.hid (is_one e w)
  go_enter Tryz.func112, Tryz.ntmps112
  go_wp2_with fail
  refine (HI.out).mono ?_
  rintro x w1 ⟨rfl, rfl⟩
  go_wp2_with fail
  go_ret
  exact ⟨rfl, rfl⟩
theorem new_num' (n : Int) (hn : n ≠ 0) (w : World) : Calls Tryz.prog 85 #[.int .i64 n] w fun e w' => e = .returned (.iface 126 (.agg #[.int .i64 n])) ∧ w' = w := (new_num n hn w).mono fun _ _ ⟨a, b⟩ => ⟨a, b.symm⟩
set_option maxRecDepth 100000 in
set_option maxHeartbeats 1000000 in
theorem isF_nil {w : World} (n : Int) (hG : Glob w) : Calls Tryz.prog 100 #[.nilIface, .int .i64 n] w fun e w' => e = .returned (.bool false) ∧ Below w.heap.size w w' := by
  have H1 := Lib.hid (find_num (c := []) (v := .nilIface) hG rfl (fun e he => by cases he) (by simp) (Below.refl _ _))
  clear hG
  go_enter Tryz.func100, Tryz.ntmps100
  go_wp2_with fail
  refine (H1.out).mono ?_
  rintro e w1 ⟨hb, hp⟩
  have hp' := hp
  simp only [hit] at hp'
  obtain rfl := hp'
  have HB := Lib.hid hb
  clear hb hp
  go_wp2
  go_ret
  exact ⟨rfl, HB.out.alloc HB.out.size _⟩
set_option maxRecDepth 100000 in
set_option maxHeartbeats 1000000 in
theorem isF_num {w : World} (n : Int) (hn : n ≠ 0) (hG : Glob w) : Calls Tryz.prog 100 #[.iface 126 (.agg #[.int .i64 n]), .int .i64 n] w fun e w' => e = .returned (.bool true) ∧ Below w.heap.size w w' := by
  have H1 := Lib.hid (find_num (c := [.num n]) (v := .iface 126 (.agg #[.int .i64 n])) hG ⟨rfl, rfl⟩ (fun e he => by
    obtain h2 : Lk.num e = Lk.num n := by simpa using he
    cases h2
    exact hn) (by simp) (Below.refl _ _))
  have HN := Lib.hid (fun w => new_num' n hn w)
  have HI := Lib.hid (fun w => isL_one n w)
  clear hG hn
  go_enter Tryz.func100, Tryz.ntmps100
  go_wp2_with fail
  refine (H1.out).mono ?_
  rintro e w1 ⟨hb, hp⟩
  have hp' := hp
  have hh : hit Lk.isNum [Lk.num n] = [Lk.num n] := rfl
  rw [hh] at hp'
  obtain ⟨u, hu, rfl⟩ := hp'
  obtain ⟨e1, he1, _, rfl⟩ := inv84 hu
  obtain rfl : e1 = n := by injection he1 with he1; exact he1.symm
  have HB := Lib.hid hb
  clear hb hp hh hu he1
  go_wp2_with fail
  go_quiet ((first | (go_at_call 85; exact Calls.quiet_of_same (HN.out _)) | (go_at_call 112; exact Calls.quiet_of_same (HI.out _))))
  go_wp2
  go_ret
  exact ⟨rfl, below_drewN (HB.out.alloc HB.out.size _) _⟩
end Go.Proofs.YtnegnokielmgkaaGreatDoor
