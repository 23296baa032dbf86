/- What the rows of the laws of valid give a walk: texts, and rows of texts, read out of an argument. -/
import Derived.Test.YtoidfkcecggjfaaDoorZPrfN
import Derived.Test.YtoidfkcecggjfaaDoorZValM
set_option linter.unusedSimpArgs false
set_option linter.unusedVariables false
set_option linter.unnecessarySimpa false
namespace Go.Proofs.YtoidfkcecggjfaaDoor
open Go.ChangeShapes Go.WideShapes Go.RowKit Go.Deep

section
variable {H : Type} {enc : TypeId × Value → H}
theorem cellsT : Tryd.prog.cellsOf 9 = 1 := by kernel_rfl
theorem cellsTs : Tryd.prog.cellsOf 29 = 1 := by kernel_rfl
theorem row_mem {a : Addr} {n : Nat} (h : 0 < n) : ∃ x ∈ MemPlace.row a n, x.block = a.block := by
  cases n with
  | zero => omega
  | succ n =>
    refine ⟨(MemPlace.row a (n + 1)).head (by simp [MemPlace.row]), List.head_mem _, ?_⟩
    simp [MemPlace.row, MemPlace.block]
theorem list_of {α : Type} {n : Nat} {P : Nat → α → Prop} (h : ∀ i, i < n → ∃ x, P i x) : ∃ ls : List α, ls.length = n ∧ ∀ i x, ls[i]? = some x → P i x := by
  induction n with
  | zero => exact ⟨[], rfl, fun i x hx => by simp at hx⟩
  | succ n ih =>
    obtain ⟨ls, hl, hp⟩ := ih (fun i hi => h i (by omega))
    obtain ⟨x, hx⟩ := h n (by omega)
    refine ⟨ls ++ [x], by simp [hl], fun i y hy => ?_⟩
    by_cases hi : i < ls.length
    · rw [List.getElem?_append_left hi] at hy; exact hp i y hy
    · rw [List.getElem?_append_right (by omega)] at hy
      have h0 : i - ls.length = 0 := by
        rcases Nat.eq_zero_or_pos (i - ls.length) with h | h
        · exact h
        · rw [List.getElem?_eq_none (by simp; omega)] at hy; cases hy
      rw [h0] at hy
      have : x = y := by simpa using hy
      subst this
      have : i = n := by omega
      subst this
      exact hx
set_option maxRecDepth 100000 in
/-- A slice of texts that was read, by its cells. -/
theorem txt_trod {W : World} {fuel : Nat} {c : Value} {d : DataW H} {ps : List MemPlace} (hf : DataW.trod enc Tryd.prog W 0 (fun _ => true) true fuel 29 [c] = some (d, ps)) (hlt : ∀ x ∈ ps, x.block < W.heap.size) : ∃ L, TxtIs W c L := by
  rcases open_slice1 Tryd.underlying29 cellsT hf with ⟨h0, _⟩ | ⟨a, len', cap', m, n, V, D, Pl, hcs, hb, hl, hm, hmm, hx, hi⟩
  · obtain rfl : c = .slice none 0 0 := by simpa using h0
    exact ⟨[], none, 0, rfl, Nat.le_refl _, by unfold maxLen; omega, fun i b hi => by simp at hi⟩
  · obtain rfl : c = .slice (some a) len' cap' := by simpa using hcs
    simp at hmm
    subst hmm
    have hps : ps = MemPlace.row a m ++ (List.range m).flatMap Pl := congrArg Prod.snd hx
    have each : ∀ i, i < len' → ∃ s : K, s.length ≤ maxLen ∧ W.cell? (a.add i) = some (encStr s) := by
      intro i hil
      obtain ⟨hc, ht⟩ := hi i (by omega)
      obtain ⟨s, e1, _, h3⟩ := DataW.trod_string Tryd.underlying9 ht
      have e1 : V i = .string s := by simpa using e1
      refine ⟨s.data.toList, by simpa using h3, ?_⟩
      rw [hc, e1]
    obtain ⟨ls, hlen, hls⟩ := list_of each
    subst hlen
    refine ⟨ls, some a, m, rfl, hl, hm, fun i l hil => ?_⟩
    obtain ⟨h1, h2⟩ := hls i l hil
    have hlen0 : 0 < ls.length := Nat.lt_of_le_of_lt (Nat.zero_le _) (List.getElem?_eq_some_iff.1 hil).1
    obtain ⟨p, hp1, hp2⟩ := row_mem (a := a) (n := m) (by omega)
    exact ⟨h1, a, rfl, by rw [← hp2]; exact hlt p (by rw [hps]; exact List.mem_append.2 (.inl hp1)), h2⟩
set_option maxRecDepth 100000 in
theorem txt_open {W : World} {v : Value} {d : DataW H} {ps : List MemPlace} {r : Reach} {b0 : Nat} (hv : Value.okWide Tryd.prog W r b0 29 v)
    (h : DataW.Trod enc Tryd.prog W 0 (fun _ => true) true 29 v d ps) (hlt : ∀ x ∈ ps, x.block < W.heap.size) : ∃ L, TxtIs W v L := by
  obtain ⟨A, len, cap, rfl⟩ := okWide_slice Tryd.underlying29 hv
  obtain ⟨fuel, hf⟩ := h
  exact txt_trod hf hlt
set_option maxRecDepth 100000 in
theorem txts_open {W : World} {v : Value} {d : DataW H} {ps : List MemPlace} {r : Reach} {b0 : Nat} (hv : Value.okWide Tryd.prog W r b0 26 v)
    (h : DataW.Trod enc Tryd.prog W 0 (fun _ => true) true 26 v d ps) (hlt : ∀ x ∈ ps, x.block < W.heap.size) : ∃ ls, TxtsIs W v ls := by
  obtain ⟨A, len, cap, rfl⟩ := okWide_slice Tryd.underlying26 hv
  obtain ⟨fuel, hf⟩ := h
  rcases open_slice1 Tryd.underlying26 cellsTs hf with ⟨h0, _⟩ | ⟨a, len', cap', m, n, V, D, Pl, hcs, hb, hl, hm, hmm, hx, hi⟩
  · simp [Value.cells] at h0
    obtain ⟨rfl, rfl, rfl⟩ := h0
    exact ⟨[], none, 0, rfl, Nat.le_refl _, by unfold maxLen; omega, fun i b hi => by simp at hi⟩
  · simp [Value.cells] at hcs
    obtain ⟨rfl, rfl, rfl⟩ := hcs
    simp at hmm
    subst hmm
    have hps : ps = MemPlace.row a m ++ (List.range m).flatMap Pl := congrArg Prod.snd hx
    have each : ∀ i, i < len → ∃ l : List K, ∃ x, W.cell? (a.add i) = some x ∧ TxtIs W x l := by
      intro i hil
      obtain ⟨hc, ht⟩ := hi i (by omega)
      obtain ⟨l, hl2⟩ := txt_trod ht (fun p hp => hlt p (by rw [hps]; exact List.mem_append.2 (.inr (List.mem_flatMap.2 ⟨i, List.mem_range.2 (by omega), hp⟩))))
      exact ⟨l, _, hc, hl2⟩
    obtain ⟨ls, hlen, hls⟩ := list_of each
    subst hlen
    refine ⟨ls, some a, m, rfl, hl, hm, fun i l hil => ?_⟩
    obtain ⟨x, hc, hB⟩ := hls i l hil
    have hlen0 : 0 < ls.length := Nat.lt_of_le_of_lt (Nat.zero_le _) (List.getElem?_eq_some_iff.1 hil).1
    obtain ⟨p, hp1, hp2⟩ := row_mem (a := a) (n := m) (by omega)
    exact ⟨a, x, rfl, by rw [← hp2]; exact hlt p (by rw [hps]; exact List.mem_append.2 (.inl hp1)), hc, hB⟩
end
end Go.Proofs.YtoidfkcecggjfaaDoor
