/- awake; ValidNil. -/
import Derived.Test.YtoidfkcecggjfaaDoorZValJ
set_option linter.unusedSimpArgs false
set_option linter.unusedVariables false
set_option linter.unnecessarySimpa false
namespace Go.Proofs.YtoidfkcecggjfaaDoor
open Go.RowKit Go.Shelf

set_option maxRecDepth 100000 in
set_option maxHeartbeats 1000000 in
theorem Add_nil (v : Value) (w : World) : Calls Tryd.prog 12 #[.pointer none, v] w fun e w' => e = .returned (.tuple #[.int .i64 0, .int .i64 1]) ∧ w' = w := by
  go_enter Tryd.func12, Tryd.ntmps12
  go_wp2_with fail
  refine bodyPost_ret (v := .tuple #[.int .i64 0, .int .i64 1]) (by simp [results, Tryd.results12, go_sem]) rfl ⟨rfl, rfl⟩
set_option maxRecDepth 100000 in
set_option maxHeartbeats 1000000 in
theorem Check_nil (n : Int) (v : Value) (w : World) : Calls Tryd.prog 10 #[.pointer none, .int .i64 n, v] w fun e w' => e = .returned (.int .i64 1) ∧ w' = w := by
  go_enter Tryd.func10, Tryd.ntmps10
  go_wp2_with fail
  go_ret
  exact ⟨rfl, rfl⟩
set_option maxRecDepth 100000 in
set_option maxHeartbeats 1000000 in
theorem First_nil (n : Int) (v : Value) (w : World) : Calls Tryd.prog 14 #[.pointer none, .int .i64 n, v] w fun e w' => e = .returned (.tuple #[.int .i64 0, .bool false]) ∧ w' = w := by
  go_enter Tryd.func14, Tryd.ntmps14
  go_wp2_with fail
  refine bodyPost_ret (v := .tuple #[.int .i64 0, .bool false]) (by simp [results, Tryd.results14, go_sem]) rfl ⟨rfl, rfl⟩
set_option maxRecDepth 100000 in
set_option maxHeartbeats 1000000 in
theorem Forget_nil (n : Int) (w : World) : Calls Tryd.prog 15 #[.pointer none, .int .i64 n] w fun e w' => e = .returned (.int .i64 0) ∧ w' = w := by
  go_enter Tryd.func15, Tryd.ntmps15
  go_wp2_with fail
  go_ret
  exact ⟨rfl, rfl⟩
set_option maxRecDepth 100000 in
set_option maxHeartbeats 1000000 in
theorem Now_nil (w : World) : Calls Tryd.prog 8 #[.pointer none] w fun e w' => e = .returned (.int .i64 0) ∧ w' = w := by
  go_enter Tryd.func8, Tryd.ntmps8
  go_wp2_with fail
  go_ret
  exact ⟨rfl, rfl⟩
set_option maxRecDepth 100000 in
set_option maxHeartbeats 1000000 in
theorem Floor_nil (w : World) : Calls Tryd.prog 9 #[.pointer none] w fun e w' => e = .returned (.int .i64 0) ∧ w' = w := by
  go_enter Tryd.func9, Tryd.ntmps9
  go_wp2_with fail
  go_ret
  exact ⟨rfl, rfl⟩
set_option maxRecDepth 100000 in
set_option maxHeartbeats 1000000 in
theorem Keys_nil (n : Int) (w : World) : Calls Tryd.prog 16 #[.pointer none, .int .i64 n] w fun e w' => e = .returned (.slice none 0 0) ∧ w' = w := by
  go_enter Tryd.func16, Tryd.ntmps16
  go_wp2_with fail
  go_ret
  exact ⟨rfl, rfl⟩
section
variable {w0 w : World} {h F : Nat} {C : List (List K)} {bx : List (Nat × Obj)}
theorem Run.add_lit (hr : Run w0 w h F C bx) (keys : List K) (T : TypeId) (hl : keys.length ≤ 1000) (hf : F + C.length + 1 ≤ 100000) :
    Calls Tryd.prog 12 #[.pointer (some ⟨h, 0, none⟩), .slice (some ⟨w.heap.size, 0, none⟩) keys.length keys.length] (w.alloc (.cells (strs keys).toArray T)) fun e w' => e = .returned (.tuple #[.int .i64 ((F : Int) + (C.length : Int) + 1), .int .i64 0]) ∧ Run w0 w' h F (C ++ [rises keys]) bx :=
  (hr.keep (below_new _)).add (row_lit (alloc_at w _) rfl (by omega)) hl hf
theorem Run.check_lit {since : Int} (hr : Run w0 w h F C bx) (reads : List K) (T : TypeId) (hl : reads.length ≤ 1000000) :
    Calls Tryd.prog 10 #[.pointer (some ⟨h, 0, none⟩), .int .i64 since, .slice (some ⟨w.heap.size, 0, none⟩) reads.length reads.length] (w.alloc (.cells (strs reads).toArray T)) fun e w' => e = .returned (.int .i64 (checkR F C since reads)) ∧ Run w0 w' h F C bx :=
  ((hr.keep (below_new _)).check (row_lit (alloc_at w _) rfl (by omega)) hl).mono fun _ _ h => ⟨h.1, h.2.1⟩
theorem Run.check_nil {since : Int} (hr : Run w0 w h F C bx) :
    Calls Tryd.prog 10 #[.pointer (some ⟨h, 0, none⟩), .int .i64 since, .slice none 0 0] w fun e w' => e = .returned (.int .i64 (checkR F C since [])) ∧ Run w0 w' h F C bx :=
  (hr.check (RowIs.nil _ _) (by simp)).mono fun _ _ h => ⟨h.1, h.2.1⟩
theorem Run.first_lit {since : Int} (hr : Run w0 w h F C bx) (reads : List K) (T : TypeId) (hl : reads.length ≤ 1000000) :
    Calls Tryd.prog 14 #[.pointer (some ⟨h, 0, none⟩), .int .i64 since, .slice (some ⟨w.heap.size, 0, none⟩) reads.length reads.length] (w.alloc (.cells (strs reads).toArray T)) fun e w' => e = .returned (.tuple #[.int .i64 (firstR F C since reads).1, .bool (decide (0 < (firstR F C since reads).1))]) ∧ Run w0 w' h F C bx :=
  (hr.keep (below_new _)).first (row_lit (alloc_at w _) rfl (by omega)) hl
end
def va1 : List (List K) := [[ka, kb]]
set_option maxRecDepth 100000 in
set_option maxHeartbeats 2000000 in
theorem awake_any {w : World} (hG : Glob w) : Calls Tryd.prog 11 #[] w fun e w' => e = .returned (.bool true) ∧ Below w.heap.size w w' := by
  have HN := Lib.hid (New_any hG)
  have HG := Lib.hid hG
  clear hG
  go_enter Tryd.func11, Tryd.ntmps11
  go_wp2_with fail
  refine (HN.out).mono ?_
  rintro e w1 ⟨h, rfl, h1, hb1, hc1⟩
  have r1 := run_new HG.out h1 hb1 hc1 (fun b e => by cases e) (fun x hx => by cases hx)
  have hA := r1.add_lit [ka, kb] 9 (by decide) (by decide)
  rw [va_ab] at hA
  have HA := Lib.hid hA
  clear h1 hb1 hc1 HN r1 hA
  go_wp2_with fail
  refine (HA.out).mono ?_
  rintro e w2 ⟨rfl, r2⟩
  have r2 : Run w w2 h 0 va1 [] := r2
  have hA := r2.add_lit [kc] 9 (by decide) (by decide)
  rw [va_c] at hA
  have HA2 := Lib.hid hA
  clear r2 hA HA
  go_wp2_with fail
  refine (HA2.out).mono ?_
  rintro e w3 ⟨rfl, r3⟩
  have r3 : Run w w3 h 0 va0 [] := r3
  have hF := r3.first_lit (since := 0) [ka] 9 (by decide)
  rw [va_f] at hF
  have HF := Lib.hid hF
  clear r3 hF HA2
  go_wp2_with fail
  refine (HF.out).mono ?_
  rintro e w4 ⟨rfl, r4⟩
  have hC := r4.check_lit (since := 1) [ka, kb] 9 (by decide)
  rw [va_c1] at hC
  have HC := Lib.hid hC
  clear r4 hC HF
  go_wp2_with fail
  refine (HC.out).mono ?_
  rintro e w5 ⟨rfl, r5⟩
  have hC := r5.check_lit (since := 1) [kc] 9 (by decide)
  rw [va_c2] at hC
  have HC2 := Lib.hid hC
  clear r5 hC HC
  go_wp2_with fail
  refine (HC2.out).mono ?_
  rintro e w6 ⟨rfl, r6⟩
  have hF := r6.forget (lo := 2) (by decide)
  rw [show forgetN 0 va0.length 2 = 1 from rfl] at hF
  have HF2 := Lib.hid hF
  clear r6 hF HC2
  go_wp2_with fail
  refine (HF2.out).mono ?_
  rintro e w7 ⟨rfl, r7⟩
  have r7 : Run w w7 h 1 [[kc]] [] := r7
  have hC := r7.check_nil (since := 0)
  rw [va_c3] at hC
  have HC3 := Lib.hid hC
  clear r7 hC HF2
  go_wp2_with fail
  refine (HC3.out).mono ?_
  rintro e w8 ⟨rfl, r8⟩
  have hC := r8.check_nil (since := 1)
  rw [va_c4] at hC
  have HC4 := Lib.hid hC
  clear r8 hC HC3
  go_wp2_with fail
  refine (HC4.out).mono ?_
  rintro e w9 ⟨rfl, r9⟩
  have HFL := Lib.hid r9.floor
  clear r9 HC4
  go_wp2_with fail
  refine (HFL.out).mono ?_
  rintro e w10 ⟨rfl, r10⟩
  have HNO : Hid (Calls Tryd.prog 8 #[.pointer (some ⟨h, 0, none⟩)] w10 fun e w' => e = .returned (.int .i64 2) ∧ Below w.heap.size w w') := Lib.hid (r10.now.mono fun e w' h => ⟨h.1, r10.below.trans (h.2.2.mono r10.below.size)⟩)
  clear r10 HFL
  go_wp2_with fail
  refine (HNO.out).mono ?_
  rintro e w11 ⟨rfl, hb11⟩
  have HB := Lib.hid hb11
  clear hb11 HNO
  go_wp2_with fail
  go_ret
  exact ⟨rfl, HB.out⟩
set_option maxRecDepth 100000 in
set_option maxHeartbeats 2000000 in
theorem law_nil {w : World} (hG : Glob w) (n : Int) (s : ByteArray) : Calls Tryd.prog 5 #[.int .i64 n, .string s] w fun e w' => e = .returned (.bool true) ∧ Below w.heap.size w w' := by
  have H1 := Lib.hid (fun v W => Add_nil v W)
  have H2 := Lib.hid (fun v W => First_nil n v W)
  have H3 := Lib.hid (fun v W => Check_nil n v W)
  have H4 := Lib.hid (fun W => Forget_nil n W)
  have H5 := Lib.hid (fun W => Now_nil W)
  have H6 := Lib.hid (fun W => Floor_nil W)
  have H7 := Lib.hid (fun W => Keys_nil n W)
  have HG := Lib.hid hG
  clear hG
  go_enter Tryd.func5, Tryd.ntmps5
  go_wp2_with fail
  refine (H1.out _ _).mono ?_
  rintro e w1 ⟨rfl, rfl⟩
  go_wp2_with fail
  refine (H2.out _ _).mono ?_
  rintro e w2 ⟨rfl, rfl⟩
  go_wp2_with fail
  refine (H3.out _ _).mono ?_
  rintro e w3 ⟨rfl, rfl⟩
  go_wp2_with fail
  refine (H4.out _).mono ?_
  rintro e w4 ⟨rfl, rfl⟩
  go_wp2_with fail
  refine (H5.out _).mono ?_
  rintro e w5 ⟨rfl, rfl⟩
  go_wp2_with fail
  refine (H6.out _).mono ?_
  rintro e w6 ⟨rfl, rfl⟩
  go_wp2_with fail
  refine (H7.out _).mono ?_
  rintro e w7 ⟨rfl, rfl⟩
  have hb : Below w.heap.size w (((w.alloc (.cells #[.string s] 9)).alloc (.cells #[.string s] 9)).alloc (.cells #[.string s] 9)) := ((below_new _).trans ((below_new _).mono (by rw [asz]; omega))).trans ((below_new _).mono (by rw [asz, asz]; omega))
  have HB := Lib.hid hb
  have HA := Lib.hid (awake_any (HG.out.below hb))
  clear hb
  go_wp2_with fail
  refine (HA.out).mono ?_
  rintro e w8 ⟨rfl, hb8⟩
  have HB8 := Lib.hid (HB.out.trans (hb8.mono HB.out.size))
  clear hb8 HA
  go_wp2_with fail
  go_ret
  exact ⟨rfl, HB8.out⟩
end Go.Proofs.YtoidfkcecggjfaaDoor
