/- Rows of bytes of the call's own; octet.Nat. (The first half is CrcD's, the second stage 1's OctB.) -/
import Derived.Test.YtfddlhcdlgdofaaGreatDoorZTak
import Derived.Test.YtfddlhcdlgdofaaGreatDoorZCrcF
import Derived.Test.YtfddlhcdlgdofaaGreatDoorZErrB
import Derived.Test.YtfddlhcdlgdofaaGreatDoorZShq
import Derived.Deep.AppendSrc
import Derived.Room.Entries
import Derived.Deep.Upon
set_option linter.unusedSimpArgs false
set_option linter.unusedVariables false
set_option linter.unnecessarySimpa false
namespace Go.Proofs.YtfddlhcdlgdofaaGreatDoor
open Go.RowKit Go.Shelf Go.Lib

/-! the bytes of a number -/
def beB : Nat → Nat → List UInt8
  | 0, _ => []
  | k + 1, n => beB k (n / 256) ++ [UInt8.ofNat (n % 256)]
def sizeB (n : Nat) : Nat := (Lib.bitLen n + 7) / 8
def natB (n : Nat) : List UInt8 := UInt8.ofNat (sizeB n) :: beB (sizeB n) n
theorem beB_length (k n : Nat) : (beB k n).length = k := by
  induction k generalizing n with
  | zero => rfl
  | succ k ih => rw [beB, List.length_append, ih]; rfl
theorem beB_at {k n j : Nat} (hj : j < k) : (beB k n)[j]? = some (UInt8.ofNat (n / 256 ^ (k - 1 - j) % 256)) := by
  induction k generalizing n with
  | zero => omega
  | succ k ih =>
    rw [beB]
    by_cases h : j < k
    · rw [List.getElem?_append_left (by rw [beB_length]; exact h), ih h, Nat.div_div_eq_div_mul, show k + 1 - 1 - j = (k - 1 - j) + 1 from by omega, Nat.pow_succ, Nat.mul_comm]
    · obtain rfl : j = k := by omega
      rw [List.getElem?_append_right (by rw [beB_length]; omega), beB_length]
      simp
theorem bitLenAux_le (f x : Nat) : Lib.bitLenAux f x ≤ f := by
  induction f generalizing x with
  | zero => simp [Lib.bitLenAux]
  | succ f ih =>
    rw [Lib.bitLenAux]
    split
    · omega
    · have := ih (x / 2); omega
theorem bitLen_le (n : Nat) (hn : n ≤ 18446744073709551615) : Lib.bitLen n ≤ 64 := bitLenAux_le 64 n
set_option maxRecDepth 100000 in
set_option maxHeartbeats 1000000 in
theorem onat_any (n : Nat) (hn : n ≤ 18446744073709551615) (w : World) :
    Calls Tryz.prog 144 #[.int .u64 (n : Int)] w fun e w' => ∃ v, e = .returned v ∧ OwnBy w' w.heap.size v (natB n) ∧ Below w.heap.size w w' := by
  have H69 : Hid (∀ W, Calls Tryz.prog 166 #[.int .u64 (n : Int)] W fun e w' => ∃ L : Nat, e = .returned (.int .i64 (L : Int)) ∧ w' = W ∧ L ≤ 64 ∧ (L + 7) / 8 = sizeB n) := fun W =>
    (Any.bits_Len64 Tryz.len64A (n : Int) W (by omega) (by omega)).mono fun e w' ⟨he, hw⟩ => ⟨_, he, hw, by simpa using bitLen_le n hn, by simp [sizeB]⟩
  have hn0 : (0 : Int) ≤ (n : Int) := by omega
  have hn1 : (n : Int) ≤ 18446744073709551615 := by omega
  go_enter Tryz.func144, Tryz.ntmps144
  go_wp2_with fail
  refine (H69.out _).mono ?_
  rintro e w' ⟨L, rfl, rfl, hL, hLs⟩
  generalize hs : sizeB n = s at hLs
  have HS := Lib.hid hs
  have hs8 : s ≤ 8 := by omega
  have q1 : ((L : Int) + 7) / 8 = (s : Int) := by omega
  have q2 : (s : Int) % 256 = (s : Int) := by omega
  have q3 : (0 : Int) ≤ (L : Int) + 7 := by omega
  have q4 : (L : Int) + 7 ≤ 71 := by omega
  have hsi : (s : Int) ≤ 8 := by omega
  clear hLs hs
  go_wp2_with fail
  go_loopw [0, 5] (fun m i wr => ∃ k : Nat, k ≤ s ∧ i = .int .i64 k ∧ m = .int .u64 ((n / 256 ^ (s - k) : Nat) : Int) ∧ Below w.heap.size w wr ∧
    ∃ arr : Array Value, wr.heap[w.heap.size]? = some (.cells arr 240 (0, 0)) ∧ arr.size = 9 ∧ arr[0]? = some (.int .u8 s) ∧ (∀ j, j < 9 → ∃ x : Int, arr[j]? = some (.int .u8 x)) ∧ ∀ j, k < j → j ≤ s → arr[j]? = some (.int .u8 ((n / 256 ^ (s - j) % 256 : Nat) : Int))) (fun _ i _ => (RowKit.intOf i).toNat)
  case atStart =>
    refine ⟨s, Nat.le_refl _, by rw [q1], by simp, (Below.refl _ _).alloc (Nat.le_refl _) _, _, heap_alloc_new w _, by simp, by simp, ?_, fun j h1 h2 => by omega⟩
    intro j hj
    match j, hj with
    | 0, _ => exact ⟨_, rfl⟩
    | 1, _ => exact ⟨_, rfl⟩
    | 2, _ => exact ⟨_, rfl⟩
    | 3, _ => exact ⟨_, rfl⟩
    | 4, _ => exact ⟨_, rfl⟩
    | 5, _ => exact ⟨_, rfl⟩
    | 6, _ => exact ⟨_, rfl⟩
    | 7, _ => exact ⟨_, rfl⟩
    | 8, _ => exact ⟨_, rfl⟩
  case round =>
    obtain ⟨k, hk, rfl, rfl, hb, arr, harr, hsz, h0, hall, hrest⟩ := hrel
    have hm0 : n / 256 ^ (s - k) ≤ n := Nat.div_le_self _ _
    have hm1 : ((n / 256 ^ (s - k) : Nat) : Int) ≤ 18446744073709551615 := by omega
    generalize hm : n / 256 ^ (s - k) = m at *
    have HM := Lib.hid hm
    have HA := Lib.hid harr
    have H0 := Lib.hid h0
    have HALL := Lib.hid hall
    have HR := Lib.hid hrest
    have HB := Lib.hid hb
    have HSZ := Lib.hid hsz
    cases k with
    | zero =>
      clear hm harr h0 hall hrest hb hsz
      have p1 : (0 : Int) ≤ 1 + (s : Int) := by omega
      have p2 : 1 + (s : Int) ≤ 9 := by omega
      go_wp2
      go_ret
      refine ⟨_, rfl, .inr ⟨w.heap.size, 9, ?_, Nat.le_refl _, heap_lt HA.out, ?_, by unfold maxLen; omega, ?_, ?_⟩, HB.out⟩
      · have : (natB n).length = 1 + s := by unfold natB; rw [List.length_cons, beB_length, HS.out]; omega
        rw [this]; rfl
      · have : (natB n).length = 1 + s := by unfold natB; rw [List.length_cons, beB_length, HS.out]; omega
        omega
      · intro j b hj
        rw [cell_of_row wr w.heap.size j _ _ _ HA.out]
        cases j with
        | zero =>
          have : b = UInt8.ofNat s := by unfold natB at hj; rw [HS.out] at hj; simpa using hj.symm
          rw [H0.out, this]
          simp
          omega
        | succ j =>
          unfold natB at hj
          rw [HS.out, List.getElem?_cons_succ] at hj
          have hjs : j < s := by
            have := (List.getElem?_eq_some_iff.1 hj).1
            rwa [beB_length] at this
          rw [HR.out (j + 1) (by omega) (by omega)]
          rw [beB_at hjs] at hj
          have hb := Option.some.inj hj
          rw [← hb, show s - (j + 1) = s - 1 - j from by omega]
          simp
      · intro j hj
        obtain ⟨x, hx⟩ := HALL.out j hj
        exact ⟨by rw [cell_of_row wr w.heap.size j _ _ _ HA.out, hx]; rfl, free0 HA.out j⟩
    | succ k =>
      obtain ⟨x0, hx0⟩ := hall (k + 1) (by omega)
      have c0 := (cell_of_row wr w.heap.size (k + 1) _ _ _ harr).trans hx0
      have f0 := free0 harr (k + 1)
      have hk9 : ((k : Int) + 1) < 9 := by omega
      clear hm harr h0 hall hrest hb hsz hx0
      go_wp2
      go_roundw
      case rel =>
        refine ⟨k, by omega, rfl, ?_, HB.out.setCell (Nat.le_refl _) _, arr.setIfInBounds (k + 1) (.int .u8 ((m : Int) % 256)), ?_, ?_, ?_, ?_, ?_⟩
        · have e : n / 256 ^ (s - k) = m / 256 := by
            rw [← HM.out, show s - k = (s - (k + 1)) + 1 from by omega, Nat.pow_succ, Nat.div_div_eq_div_mul]
          rw [e]
          rfl
        · simp [World.setCell, Array.getElem?_modify, HA.out]
        · simpa using HSZ.out
        · rw [Array.getElem?_setIfInBounds_ne (by omega)]; exact H0.out
        · intro j hj
          by_cases hjk : k + 1 = j
          · subst hjk
            exact ⟨_, by rw [Array.getElem?_setIfInBounds_self_of_lt (by rw [HSZ.out]; omega)]⟩
          · rw [Array.getElem?_setIfInBounds_ne hjk]; exact HALL.out j hj
        · intro j hj hjs
          by_cases hjk : k + 1 = j
          · subst hjk
            rw [Array.getElem?_setIfInBounds_self_of_lt (by rw [HSZ.out]; omega), HM.out]
            simp
          · rw [Array.getElem?_setIfInBounds_ne hjk]; exact HR.out j (by omega) hjs
      case measure => simp [RowKit.intOf] <;> omega
end Go.Proofs.YtfddlhcdlgdofaaGreatDoor
