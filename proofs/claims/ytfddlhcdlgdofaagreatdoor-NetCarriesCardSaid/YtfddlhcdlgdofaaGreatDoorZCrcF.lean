/- The reference's Wrap and Peel. The chapter's example (awake); crc.All. The law CrcBit. -/
import Derived.Test.YtfddlhcdlgdofaaGreatDoorZCrcE
import Derived.Laws.IdiomStrings
import Derived.Lib.SmallJoins
set_option linter.unusedSimpArgs false
set_option linter.unusedVariables false
set_option linter.unnecessarySimpa false
namespace Go.Proofs.YtfddlhcdlgdofaaGreatDoor
open Go.RowKit

theorem new_own (w : World) (l : List UInt8) (hl : l.length ≤ 1073741824) : OwnBy (w.alloc (.cells (bc l).toArray 5)) w.heap.size (.slice (some ⟨w.heap.size, 0, none⟩) l.length l.length) l := by
  have hblk := heap_alloc_new w (.cells (bc l).toArray 5)
  refine .inr ⟨w.heap.size, l.length, rfl, Nat.le_refl _, by show w.heap.size < (w.heap.push _).size; rw [Array.size_push]; omega, Nat.le_refl _, by unfold maxLen; omega, fun i b hi => ?_, fun j hj => ⟨?_, free0 hblk j⟩⟩
  · rw [cell_of_row _ _ _ _ _ _ hblk]
    simpa using bc_some hi
  · rw [cell_of_row _ _ _ _ _ _ hblk]
    have := bc_some (List.getElem?_eq_getElem hj)
    simpa using (show ((bc l)[j]?).isSome = true by rw [this]; rfl)
theorem bis_string {w : World} {v : Value} {l : List UInt8} (h : BIs w v l) : (convert 54 9 v).run Tryz.prog w = .ok (.string ⟨l.toArray⟩) w := by
  obtain ⟨A, cap, rfl, _, _, h3⟩ := h
  cases A with
  | none =>
    have : l = [] := by
      cases l with
      | nil => rfl
      | cons x r => obtain ⟨a, e, _⟩ := h3 0 x rfl; cases e
    subst this
    exact run_convert_bytes_nil w 54 5 Tryz.underlying54 Tryz.underlying5 0 cap 9 Tryz.underlying9
  | some a =>
    exact run_convert_bytes_back w 54 9 5 a cap l Tryz.underlying54 Tryz.underlying5 Tryz.underlying9 (fun j hj => by
      obtain ⟨a', e, _, hc⟩ := h3 j _ (List.getElem?_eq_getElem hj)
      cases e; exact hc)

end Go.Proofs.YtfddlhcdlgdofaaGreatDoor

namespace Go.Proofs.YtfddlhcdlgdofaaGreatDoor
open Go.RowKit

/-- A slice of slices that is laid anew. -/
theorem new_parts (w : World) (xs : List Value) (ls : List (List UInt8)) (hlen : xs.length = ls.length) (hl : ls.length ≤ 1000) (h : ∀ (i : Nat) (x : Value) (l : List UInt8), xs[i]? = some x → ls[i]? = some l → BIs w x l) :
    PIs (w.alloc (.cells xs.toArray 54)) (.slice (some ⟨w.heap.size, 0, none⟩) ls.length ls.length) ls := by
  refine ⟨_, _, rfl, Nat.le_refl _, by unfold maxLen; omega, fun i l hi => ?_⟩
  have hi' : i < xs.length := by rw [hlen]; exact (List.getElem?_eq_some_iff.1 hi).1
  refine ⟨_, xs[i], rfl, by show w.heap.size < (w.heap.push _).size; rw [Array.size_push]; omega, ?_, (h i _ l (List.getElem?_eq_getElem hi') hi).below ((Below.refl _ _).alloc (Nat.le_refl _) _)⟩
  rw [add0, cell_of_row _ _ _ _ _ _ (heap_alloc_new w _)]
  simp [hi']

theorem awake_sum : sumB [49, 50, 51, 52, 53, 54, 55, 56, 57] = 3808858755 := by decide +kernel
theorem new_lit (w : World) (l : List UInt8) (cs : Array Value) (fr : Nat × Nat) (hcs : (bc l).toArray = cs) (hl : l.length ≤ 1000) : BIs (w.alloc (.cells cs 5 fr)) (.slice (some ⟨w.heap.size, 0, none⟩) l.length l.length) l := by
  subst hcs
  refine ⟨_, _, rfl, Nat.le_refl _, by unfold maxLen; omega, fun i b hi => ⟨_, rfl, by show w.heap.size < (w.heap.push _).size; rw [Array.size_push]; omega, ?_⟩⟩
  rw [add0, World.cell?_alloc_mark]
  simpa using bc_some hi
/-- One part. -/
theorem pis_one {w : World} {x : Value} {l : List UInt8} (h : BIs w x l) : PIs (w.alloc (.cells #[x] 54)) (.slice (some ⟨w.heap.size, 0, none⟩) 1 1) [l] :=
  new_parts w [x] [l] rfl (by simp) fun i y m hy hm => by
    match i with
    | 0 =>
      obtain rfl : x = y := by simpa using hy
      obtain rfl : l = m := by simpa using hm
      exact h
    | i + 1 => simp at hy
theorem Below.new {w : World} (o : Obj) : Below w.heap.size w (w.alloc o) := (Below.refl _ _).alloc (Nat.le_refl _) _

theorem Mov.below' {w W : World} (h : Mov w) {B : Nat} (hB : w.heap.size ≤ B) (hW : Below B w W) : Mov W := h.below (hW.mono hB)

end Go.Proofs.YtfddlhcdlgdofaaGreatDoor

namespace Go.Proofs.YtfddlhcdlgdofaaGreatDoor
open Go.RowKit

theorem tmod_cases (c : Int) (N : Nat) (hN : 0 < N) : ∃ m : Nat, m < N ∧ (c.tmod N = (m : Int) ∨ (0 < m ∧ c.tmod N = -(m : Int))) := by
  have h2 : (c.tmod N).natAbs < N := by
    rw [Int.natAbs_tmod]
    exact Nat.mod_lt _ (by simpa using hN)
  rcases Int.lt_or_le (c.tmod N) 0 with h | h
  · exact ⟨(c.tmod N).natAbs, h2, .inr ⟨by omega, by omega⟩⟩
  · exact ⟨(c.tmod N).natAbs, h2, .inl (by omega)⟩
theorem flip (x : UInt8) (j : Nat) (hj : j < 8) : ∃ y : UInt8, bits .xor .u8 (x.toNat : Int) ((2 : Int) ^ j % 256) = (y.toNat : Int) ∧ x ≠ y := by
  have h2 : (2 : Int) ^ j % 256 = ((2 ^ j : Nat) : Int) := by
    match j, hj with
    | 0, _ | 1, _ | 2, _ | 3, _ | 4, _ | 5, _ | 6, _ | 7, _ => rfl
  have h3 : 2 ^ j < 256 := by
    match j, hj with
    | 0, _ | 1, _ | 2, _ | 3, _ | 4, _ | 5, _ | 6, _ | 7, _ => decide
  have hx := UInt8.toNat_lt x
  have hlt : x.toNat ^^^ 2 ^ j < 256 := Nat.xor_lt_two_pow (n := 8) hx h3
  have hy : (UInt8.ofNat (x.toNat ^^^ 2 ^ j)).toNat = x.toNat ^^^ 2 ^ j := by
    rw [UInt8.toNat_ofNat']; exact Nat.mod_eq_of_lt hlt
  refine ⟨UInt8.ofNat (x.toNat ^^^ 2 ^ j), ?_, fun e => ?_⟩
  · rw [h2, u8_xor_nat _ _ hx h3, hy]
  · have e2 := congrArg UInt8.toNat e
    rw [hy] at e2
    have e3 := congrArg (x.toNat ^^^ ·) e2
    simp only [← Nat.xor_assoc, Nat.xor_self, Nat.zero_xor] at e3
    have := Nat.two_pow_pos j
    omega
theorem set_one {l : List UInt8} {k : Nat} (hl : l.length ≤ 16384) (hk : k < (frameB l).length) {y : UInt8} (hy : (frameB l)[k] ≠ y) : firstP ((frameB l).set k y) ≠ ((frameB l).set k y).length := by
  have e1 : frameB l = (frameB l).take k ++ (frameB l)[k] :: (frameB l).drop (k + 1) := by
    rw [← List.drop_eq_getElem_cons hk, List.take_append_drop]
  have e2 : (frameB l).set k y = (frameB l).take k ++ y :: (frameB l).drop (k + 1) := List.set_eq_take_append_cons_drop.trans (by rw [if_pos hk])
  rw [List.length_set, frameB_len, e2]
  exact firstP_one hl hy e1
/-- A byte of one's own that is stored. -/
theorem OwnC.set {w : World} {base g cap : Nat} {l : List UInt8} (h : OwnC w base g cap l) {k : Nat} (hk : k < l.length) (y : UInt8) : OwnC (w.setCell ⟨g, k, none⟩ (.int .u8 (y.toNat : Int))) base g cap (l.set k y) := by
  have hs : (w.setCell ⟨g, k, none⟩ (.int .u8 (y.toNat : Int))).heap.size = w.heap.size := by simp [World.setCell]
  have hk2 : k < cap := Nat.lt_of_lt_of_le hk h.le
  have hsame : (w.setCell ⟨g, k, none⟩ (.int .u8 (y.toNat : Int))).cell? ⟨g, k, none⟩ = some (.int .u8 (y.toNat : Int)) := World.cell?_setCell_same' _ _ _ (h.there k hk2).1
  have hother : ∀ j, j ≠ k → (w.setCell ⟨g, k, none⟩ (.int .u8 (y.toNat : Int))).cell? ⟨g, j, none⟩ = w.cell? ⟨g, j, none⟩ := fun j hj => World.cell?_setCell_other _ _ _ _ (fun e => hj (by injection e with _ e _; exact e.symm))
  refine ⟨h.new, by rw [hs]; exact h.lt, by rw [List.length_set]; exact h.le, h.max, fun j b hj => ?_, fun j hj => ⟨?_, by rw [World.frozen?_setCell]; exact (h.there j hj).2⟩⟩
  · by_cases hjk : j = k
    · subst hjk
      rw [List.getElem?_set_self hk] at hj
      rw [hsame, ← Option.some.inj hj]
    · rw [List.getElem?_set_ne (by omega)] at hj
      rw [hother j hjk]
      exact h.holds j b hj
  · by_cases hjk : j = k
    · subst hjk; rw [hsame]; rfl
    · rw [hother j hjk]; exact (h.there j hj).1

/-- i: where the first cut is, whatever the number. -/
theorem cut_cases (c : Int) (n : Nat) : ∃ i : Nat, i ≤ n ∧ (c.tmod ((n : Int) + 1) = (i : Int) ∨ (0 < i ∧ c.tmod ((n : Int) + 1) = -(i : Int))) := by
  obtain ⟨m, hm, h⟩ := tmod_cases c (n + 1) (by omega)
  exact ⟨m, by omega, by simpa using h⟩

end Go.Proofs.YtfddlhcdlgdofaaGreatDoor
