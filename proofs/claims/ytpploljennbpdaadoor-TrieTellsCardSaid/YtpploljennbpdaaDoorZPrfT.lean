/- What the rows of the laws of trie give a walk: rows of rows of numbers, read out of an argument. -/
import Derived.Test.YtpploljennbpdaaDoorZPrfN
import Derived.Test.YtpploljennbpdaaDoorZTriW
set_option linter.unusedSimpArgs false
set_option linter.unusedVariables false
set_option linter.unnecessarySimpa false
namespace Go.Proofs.YtpploljennbpdaaDoor
open Go.ChangeShapes Go.WideShapes Go.RowKit Go.Deep

section
variable {H : Type} {enc : TypeId × Value → H}
theorem cells_int : Tryd.prog.cellsOf 3 = 1 := by kernel_rfl
theorem cells_ints : Tryd.prog.cellsOf 24 = 1 := by kernel_rfl
theorem row_mem {a : Addr} {n : Nat} (h : 0 < n) : ∃ x ∈ MemPlace.row a n, x.block = a.block := by
  cases n with
  | zero => omega
  | succ n =>
    refine ⟨(MemPlace.row a (n + 1)).head (by simp [MemPlace.row]), List.head_mem _, ?_⟩
    simp [MemPlace.row, MemPlace.block]
theorem list_of {α : Type} {n : Nat} {P : Nat → α → Prop} (h : ∀ i, i < n → ∃ x, P i x) : ∃ ls : List α, ls.length = n ∧ ∀ i x, ls[i]? = some x → P i x := by
  induction n with
  | zero => exact ⟨[], rfl, fun i x hx => by simp at hx⟩
  | succ n ih =>
    obtain ⟨ls, hl, hp⟩ := ih (fun i hi => h i (by omega))
    obtain ⟨x, hx⟩ := h n (by omega)
    refine ⟨ls ++ [x], by simp [hl], fun i y hy => ?_⟩
    by_cases hi : i < ls.length
    · rw [List.getElem?_append_left hi] at hy; exact hp i y hy
    · rw [List.getElem?_append_right (by omega)] at hy
      have h0 : i - ls.length = 0 := by
        rcases Nat.eq_zero_or_pos (i - ls.length) with h | h
        · exact h
        · rw [List.getElem?_eq_none (by simp; omega)] at hy; cases hy
      rw [h0] at hy
      have : x = y := by simpa using hy
      subst this
      have : i = n := by omega
      subst this
      exact hx
set_option maxRecDepth 100000 in
/-- A path that was read, by its cells. -/
theorem pth_trod {W : World} {fuel : Nat} {c : Value} {d : DataW H} {ps : List MemPlace} (hf : DataW.trod enc Tryd.prog W 0 (fun _ => true) true fuel 24 [c] = some (d, ps)) (hlt : ∀ x ∈ ps, x.block < W.heap.size) : ∃ l, SIs W c l := by
  rcases open_slice1 Tryd.underlying24 cells_int hf with ⟨h0, _⟩ | ⟨a, len', cap', m, n, V, D, Pl, hcs, hb, hl, hm, hmm, hx, hi⟩
  · obtain rfl : c = .slice none 0 0 := by simpa using h0
    exact ⟨[], none, 0, rfl, Nat.le_refl _, by unfold maxLen; omega, fun i b hi => by simp at hi⟩
  · obtain rfl : c = .slice (some a) len' cap' := by simpa using hcs
    simp at hmm
    subst hmm
    have hps : ps = MemPlace.row a m ++ (List.range m).flatMap Pl := congrArg Prod.snd hx
    have each : ∀ i, i < len' → ∃ z : Int, W.cell? (a.add i) = some (.int .i64 z) := by
      intro i hil
      obtain ⟨hc, ht⟩ := hi i (by omega)
      obtain ⟨z, e, _, hw⟩ := DataW.trod_int Tryd.underlying3 ht
      simp at e
      exact ⟨z, by rw [hc, e]⟩
    obtain ⟨l, hlen, hls⟩ := list_of each
    subst hlen
    refine ⟨l, some a, m, rfl, hl, hm, fun i b hib => ⟨a, rfl, ?_, hls i b hib⟩⟩
    have hlen0 : 0 < l.length := Nat.lt_of_le_of_lt (Nat.zero_le _) (List.getElem?_eq_some_iff.1 hib).1
    obtain ⟨p, hp1, hp2⟩ := row_mem (a := a) (n := m) (by omega)
    rw [← hp2]
    exact hlt p (by rw [hps]; exact List.mem_append.2 (.inl hp1))
set_option maxRecDepth 100000 in
theorem paths_open {W : World} {v : Value} {d : DataW H} {ps : List MemPlace} {r : Reach} {b0 : Nat} (hv : Value.okWide Tryd.prog W r b0 22 v)
    (h : DataW.Trod enc Tryd.prog W 0 (fun _ => true) true 22 v d ps) (hlt : ∀ x ∈ ps, x.block < W.heap.size) : ∃ ls, PsIs W v ls := by
  obtain ⟨A, len, cap, rfl⟩ := okWide_slice Tryd.underlying22 hv
  obtain ⟨fuel, hf⟩ := h
  rcases open_slice1 Tryd.underlying22 cells_ints hf with ⟨h0, _⟩ | ⟨a, len', cap', m, n, V, D, Pl, hcs, hb, hl, hm, hmm, hx, hi⟩
  · simp [Value.cells] at h0
    obtain ⟨rfl, rfl, rfl⟩ := h0
    exact ⟨[], none, 0, rfl, Nat.le_refl _, by unfold maxLen; omega, fun i b hi => by simp at hi⟩
  · simp [Value.cells] at hcs
    obtain ⟨rfl, rfl, rfl⟩ := hcs
    simp at hmm
    subst hmm
    have hps : ps = MemPlace.row a m ++ (List.range m).flatMap Pl := congrArg Prod.snd hx
    have each : ∀ i, i < len → ∃ l : Pth, ∃ x, W.cell? (a.add i) = some x ∧ SIs W x l := by
      intro i hil
      obtain ⟨hc, ht⟩ := hi i (by omega)
      obtain ⟨l, hl2⟩ := pth_trod ht (fun p hp => hlt p (by rw [hps]; exact List.mem_append.2 (.inr (List.mem_flatMap.2 ⟨i, List.mem_range.2 (by omega), hp⟩))))
      exact ⟨l, _, hc, hl2⟩
    obtain ⟨ls, hlen, hls⟩ := list_of each
    subst hlen
    refine ⟨ls, some a, m, rfl, hl, hm, fun i l hil => ?_⟩
    obtain ⟨x, hc, hB⟩ := hls i l hil
    have hlen0 : 0 < ls.length := Nat.lt_of_le_of_lt (Nat.zero_le _) (List.getElem?_eq_some_iff.1 hil).1
    obtain ⟨p, hp1, hp2⟩ := row_mem (a := a) (n := m) (by omega)
    exact ⟨a, x, rfl, by rw [← hp2]; exact hlt p (by rw [hps]; exact List.mem_append.2 (.inl hp1)), hc, hB⟩
end
end Go.Proofs.YtpploljennbpdaaDoor
