/- Numbers' bytes, in plain words. -/
import Derived.Test.YtfddlhcdlgdofaaGreatDoorZOmwB
import Derived.Lib.ItoaNum
set_option linter.unusedSimpArgs false
set_option linter.unusedVariables false
set_option linter.unnecessarySimpa false
namespace Go.Proofs.YtfddlhcdlgdofaaGreatDoor
open Go.RowKit Go.Shelf Go.Lib

theorem beB_cons (j n : Nat) : beB (j + 1) n = UInt8.ofNat (n / 256 ^ j % 256) :: beB j n := by
  induction j generalizing n with
  | zero => simp [beB]
  | succ j ih =>
    rw [beB, ih, beB, Nat.div_div_eq_div_mul, Nat.pow_succ, Nat.mul_comm 256]
    rfl
theorem sizeB_spec (n : Nat) (hn : n ≤ 18446744073709551615) (j : Nat) : j < sizeB n ↔ n / 256 ^ j ≠ 0 := by
  by_cases h0 : n = 0
  · subst h0
    have : sizeB 0 = 0 := by decide
    rw [this]; simp
  · have hb := Lib.bitLenAux_bounds 64 n (by omega) h0
    have e : 256 ^ j = 2 ^ (8 * j) := by rw [Nat.pow_mul]
    have hd : n / 256 ^ j ≠ 0 ↔ 256 ^ j ≤ n := by
      rw [Ne, Nat.div_eq_zero_iff]
      have : 0 < 256 ^ j := Nat.pow_pos (by omega)
      omega
    rw [hd, e]
    have hs : sizeB n = (Lib.bitLenAux 64 n + 7) / 8 := rfl
    rw [hs]
    constructor
    · intro h
      exact Nat.le_trans (Nat.pow_le_pow_right (by omega) (by omega)) hb.2.1
    · intro h
      have h1 : 2 ^ (8 * j) < 2 ^ Lib.bitLenAux 64 n := Nat.lt_of_le_of_lt h hb.2.2
      have h2 := (Nat.pow_lt_pow_iff_right (by omega : 1 < 2)).1 h1
      omega
end Go.Proofs.YtfddlhcdlgdofaaGreatDoor
