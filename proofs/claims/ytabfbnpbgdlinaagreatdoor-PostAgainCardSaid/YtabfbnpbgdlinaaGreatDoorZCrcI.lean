/- The law CrcBit. -/
import Derived.Test.YtabfbnpbgdlinaaGreatDoorZCrcF
set_option linter.unusedSimpArgs false
set_option linter.unusedVariables false
set_option linter.unnecessarySimpa false
namespace Go.Proofs.YtabfbnpbgdlinaaGreatDoor
open Go.RowKit

theorem tmod_cases (c : Int) (N : Nat) (hN : 0 < N) : ∃ m : Nat, m < N ∧ (c.tmod N = (m : Int) ∨ (0 < m ∧ c.tmod N = -(m : Int))) := by
  have h2 : (c.tmod N).natAbs < N := by
    rw [Int.natAbs_tmod]
    exact Nat.mod_lt _ (by simpa using hN)
  rcases Int.lt_or_le (c.tmod N) 0 with h | h
  · exact ⟨(c.tmod N).natAbs, h2, .inr ⟨by omega, by omega⟩⟩
  · exact ⟨(c.tmod N).natAbs, h2, .inl (by omega)⟩
theorem flip (x : UInt8) (j : Nat) (hj : j < 8) : ∃ y : UInt8, bits .xor .u8 (x.toNat : Int) ((2 : Int) ^ j % 256) = (y.toNat : Int) ∧ x ≠ y := by
  have h2 : (2 : Int) ^ j % 256 = ((2 ^ j : Nat) : Int) := by
    match j, hj with
    | 0, _ | 1, _ | 2, _ | 3, _ | 4, _ | 5, _ | 6, _ | 7, _ => rfl
  have h3 : 2 ^ j < 256 := by
    match j, hj with
    | 0, _ | 1, _ | 2, _ | 3, _ | 4, _ | 5, _ | 6, _ | 7, _ => decide
  have hx := UInt8.toNat_lt x
  have hlt : x.toNat ^^^ 2 ^ j < 256 := Nat.xor_lt_two_pow (n := 8) hx h3
  have hy : (UInt8.ofNat (x.toNat ^^^ 2 ^ j)).toNat = x.toNat ^^^ 2 ^ j := by
    rw [UInt8.toNat_ofNat']; exact Nat.mod_eq_of_lt hlt
  refine ⟨UInt8.ofNat (x.toNat ^^^ 2 ^ j), ?_, fun e => ?_⟩
  · rw [h2, u8_xor_nat _ _ hx h3, hy]
  · have e2 := congrArg UInt8.toNat e
    rw [hy] at e2
    have e3 := congrArg (x.toNat ^^^ ·) e2
    simp only [← Nat.xor_assoc, Nat.xor_self, Nat.zero_xor] at e3
    have := Nat.two_pow_pos j
    omega
theorem set_one {l : List UInt8} {k : Nat} (hl : l.length ≤ 16384) (hk : k < (frameB l).length) {y : UInt8} (hy : (frameB l)[k] ≠ y) : firstP ((frameB l).set k y) ≠ ((frameB l).set k y).length := by
  have e1 : frameB l = (frameB l).take k ++ (frameB l)[k] :: (frameB l).drop (k + 1) := by
    rw [← List.drop_eq_getElem_cons hk, List.take_append_drop]
  have e2 : (frameB l).set k y = (frameB l).take k ++ y :: (frameB l).drop (k + 1) := List.set_eq_take_append_cons_drop.trans (by rw [if_pos hk])
  rw [List.length_set, frameB_len, e2]
  exact firstP_one hl hy e1
/-- A byte of one's own that is stored. -/
theorem OwnC.set {w : World} {base g cap : Nat} {l : List UInt8} (h : OwnC w base g cap l) {k : Nat} (hk : k < l.length) (y : UInt8) : OwnC (w.setCell ⟨g, k, none⟩ (.int .u8 (y.toNat : Int))) base g cap (l.set k y) := by
  have hs : (w.setCell ⟨g, k, none⟩ (.int .u8 (y.toNat : Int))).heap.size = w.heap.size := by simp [World.setCell]
  have hk2 : k < cap := Nat.lt_of_lt_of_le hk h.le
  have hsame : (w.setCell ⟨g, k, none⟩ (.int .u8 (y.toNat : Int))).cell? ⟨g, k, none⟩ = some (.int .u8 (y.toNat : Int)) := World.cell?_setCell_same' _ _ _ (h.there k hk2).1
  have hother : ∀ j, j ≠ k → (w.setCell ⟨g, k, none⟩ (.int .u8 (y.toNat : Int))).cell? ⟨g, j, none⟩ = w.cell? ⟨g, j, none⟩ := fun j hj => World.cell?_setCell_other _ _ _ _ (fun e => hj (by injection e with _ e _; exact e.symm))
  refine ⟨h.new, by rw [hs]; exact h.lt, by rw [List.length_set]; exact h.le, h.max, fun j b hj => ?_, fun j hj => ⟨?_, by rw [World.frozen?_setCell]; exact (h.there j hj).2⟩⟩
  · by_cases hjk : j = k
    · subst hjk
      rw [List.getElem?_set_self hk] at hj
      rw [hsame, ← Option.some.inj hj]
    · rw [List.getElem?_set_ne (by omega)] at hj
      rw [hother j hjk]
      exact h.holds j b hj
  · by_cases hjk : j = k
    · subst hjk; rw [hsame]; rfl
    · rw [hother j hjk]; exact (h.there j hj).1

/-- i: where the first cut is, whatever the number. -/
theorem cut_cases (c : Int) (n : Nat) : ∃ i : Nat, i ≤ n ∧ (c.tmod ((n : Int) + 1) = (i : Int) ∨ (0 < i ∧ c.tmod ((n : Int) + 1) = -(i : Int))) := by
  obtain ⟨m, hm, h⟩ := tmod_cases c (n + 1) (by omega)
  exact ⟨m, by omega, by simpa using h⟩

end Go.Proofs.YtabfbnpbgdlinaaGreatDoor
