/- slices.Equal of numbers and of operations (genmefa.py wrote it.) -/
import Derived.Test.YtfddlhcdlgdofaaGreatDoorZMecE
set_option linter.unusedSimpArgs false
set_option linter.unusedVariables false
set_option linter.unnecessarySimpa false
namespace Go.Proofs.YtfddlhcdlgdofaaGreatDoor
open Go.RowKit Go.Shelf

theorem toList_inj {s s' : ByteArray} : s.toList = s'.toList ↔ s = s' := by
  rw [ByteArray.toList_eq, ByteArray.toList_eq]
  constructor
  · intro h
    obtain ⟨⟨l⟩⟩ := s
    obtain ⟨⟨l'⟩⟩ := s'
    simp only at h
    rw [h]
  · rintro rfl; rfl
theorem run_neq_op (o p : OpV) (w : World) : (binOp .neq 168 (opV o) (opV p)).run Tryz.prog w = .ok (.bool (!decide (o = p))) w := by
  obtain ⟨k, s, n, lo⟩ := o
  obtain ⟨k', s', n', lo'⟩ := p
  unfold opV
  go_simp
  simp only [toList_inj]
  by_cases h1 : k = k'
  · by_cases h2 : s = s'
    · by_cases h3 : n = n'
      · by_cases h4 : lo = lo' <;> simp [h1, h2, h3, h4]
      · simp [h1, h2, h3]
    · simp [h1, h2]
  · simp [h1]
theorem op_ne {x y : OpV} (h : ¬ x = y) : x.k = y.k → x.s.toList = y.s.toList → x.n = y.n → ¬ x.lo = y.lo := fun h1 h2 h3 h4 => h (by
  obtain ⟨k, s, n, lo⟩ := x
  obtain ⟨k', s', n', lo'⟩ := y
  have h5 : s = s' := toList_inj.1 h2
  clear h2
  simp only at h1 h3 h4
  subst h1 h3 h4 h5
  rfl)
theorem run_eql_about (a b c a' b' c' : Int) (w : World) : (binOp .eql 48 (.agg #[.int .i64 a, .int .i64 b, .int .i64 c]) (.agg #[.int .i64 a', .int .i64 b', .int .i64 c'])).run Tryz.prog w = .ok (.bool (decide (a = a' ∧ b = b' ∧ c = c'))) w := by
  go_simp
  by_cases h1 : a = a'
  · by_cases h2 : b = b'
    · by_cases h3 : c = c' <;> simp [h1, h2, h3]
    · simp [h1, h2]
  · simp [h1]
end Go.Proofs.YtfddlhcdlgdofaaGreatDoor
