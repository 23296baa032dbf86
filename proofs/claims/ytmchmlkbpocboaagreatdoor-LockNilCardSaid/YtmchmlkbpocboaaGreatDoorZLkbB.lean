/- slices.Compact of edges. -/
import Derived.Test.YtmchmlkbpocboaaGreatDoorZLkbA
set_option linter.unusedSimpArgs false
set_option linter.unusedVariables false
set_option linter.unnecessarySimpa false
namespace Go.Proofs.YtmchmlkbpocboaaGreatDoor
open Go.RowKit Go.Sort Go.Shelf Go.Lib

abbrev Eg := Int × Int
theorem edC_set {M : List Eg} {i : Nat} {e : Eg} (hi : i < M.length) : edC (M.set i e) = edC (M.take i) ++ ([.int .i64 e.1, .int .i64 e.2] ++ edC (M.drop (i + 1))) := by
  rw [List.set_eq_take_append_cons_drop, if_pos hi, edC_app]; rfl
theorem edC_split {M : List Eg} {i : Nat} (hi : i < M.length) : edC M = edC (M.take i) ++ ([.int .i64 (M[i]'hi).1, .int .i64 (M[i]'hi).2] ++ edC (M.drop (i + 1))) := by
  have h1 : M = M.take i ++ M[i]'hi :: M.drop (i + 1) := by rw [← List.drop_eq_getElem_cons hi, List.take_append_drop]
  have h2 : edC (M.take i ++ M[i]'hi :: M.drop (i + 1)) = edC (M.take i) ++ ([.int .i64 (M[i]'hi).1, .int .i64 (M[i]'hi).2] ++ edC (M.drop (i + 1))) := by rw [edC_app]; rfl
  rw [← h2, ← h1]
theorem edC_take (l : List Eg) (i : Nat) : (edC l).take (i * 2) = edC (l.take i) := by
  by_cases h : i ≤ l.length
  · have e : edC l = edC (l.take i) ++ edC (l.drop i) := by rw [← edC_app, List.take_append_drop]
    have hl : (edC (l.take i)).length = i * 2 := by rw [edC_len, List.length_take, Nat.min_eq_left h]
    rw [e, List.take_append_of_le_length (by omega), List.take_of_length_le (by omega)]
  · rw [List.take_of_length_le (by rw [edC_len]; omega), List.take_of_length_le (by omega)]
theorem RowC.areaE {w : World} {g cap : Nat} {M : List Eg} (h : RowC w 2 g cap (edC M)) : Area w 2 g 0 cap (edC M) :=
  ⟨h.lt, h.le, h.max, fun j u hj => by rw [Nat.zero_add]; exact h.holds j u hj, fun j hj => by rw [Nat.zero_add]; exact h.there j hj, edC_one M⟩
theorem Area.rowE {w : World} {g cap : Nat} {l : List Value} (h : Area w 2 g 0 cap l) : RowC w 2 g cap l :=
  ⟨h.lt, h.le, h.max, fun j u hj => by have := h.holds j u hj; rwa [Nat.zero_add] at this, fun j hj => by have := h.there j hj; rwa [Nat.zero_add] at this⟩
theorem RowC.setE {w : World} {g cap i : Nat} {M : List Eg} {e : Eg} (h : RowC w 2 g cap (edC M)) (hi : i < M.length) : RowC (w.setCells g (i * 2) [.int .i64 e.1, .int .i64 e.2]) 2 g cap (edC (M.set i e)) := by
  have hle := h.le
  rw [edC_len] at hle
  have ht : (edC (M.take i)).length = i * 2 := by rw [edC_len, List.length_take, Nat.min_eq_left (by omega)]
  have := h.areaE.put (p := i * 2) (ys := [.int .i64 e.1, .int .i64 e.2]) (l' := edC (M.set i e)) (by simp only [List.length_cons, List.length_nil]; omega) (by rw [edC_len, List.length_set]; omega) (edC_one _) (fun j u h1 h2 hj => by
    simp only [List.length_cons, List.length_nil] at h2
    rw [edC_set hi, List.getElem?_append_right (by rw [ht]; omega), ht, List.getElem?_append_left (by simp only [List.length_cons, List.length_nil]; omega)] at hj
    exact hj) (fun j u h1 hj => by
    simp only [List.length_cons, List.length_nil] at h1
    by_cases hjk : j < i * 2
    · rw [edC_set hi, List.getElem?_append_left (by rw [ht]; exact hjk)] at hj
      rw [edC_split hi, List.getElem?_append_left (by rw [ht]; exact hjk)]
      exact hj
    · rw [edC_set hi, List.getElem?_append_right (by rw [ht]; omega), ht, List.getElem?_append_right (by simp only [List.length_cons, List.length_nil]; omega)] at hj
      rw [edC_split hi, List.getElem?_append_right (by rw [ht]; omega), ht, List.getElem?_append_right (by simp only [List.length_cons, List.length_nil]; omega)]
      exact hj)
  rw [Nat.zero_add] at this
  exact this.rowE
theorem RowC.cutE {w : World} {g cap i : Nat} {M : List Eg} (h : RowC w 2 g cap (edC M)) (hi : i ≤ M.length) (zs : List Value) (hz : zs.length = (M.length - i) * 2) : RowC (w.setCells g (i * 2) zs) 2 g cap (edC (M.take i)) := by
  have hle := h.le
  rw [edC_len] at hle
  have ht : (edC (M.take i)).length = i * 2 := by rw [edC_len, List.length_take, Nat.min_eq_left (by omega)]
  have := h.areaE.put (p := i * 2) (ys := zs) (l' := edC (M.take i)) (by omega) (by omega) (edC_one _) (fun j u h1 h2 hj => by
    have := (List.getElem?_eq_some_iff.1 hj).1
    rw [ht] at this
    omega) (fun j u h1 hj => by
    have := (List.getElem?_eq_some_iff.1 hj).1
    rw [← edC_take, List.getElem?_take_of_lt (by omega)] at hj
    exact hj)
  rw [Nat.zero_add] at this
  exact this.rowE
theorem RowC.hasE {w : World} {g cap : Nat} {M : List Eg} {j : Nat} {e : Eg} (h : RowC w 2 g cap (edC M)) (hu : M[j]? = some e) : w.cell? ⟨g, j * 2, none⟩ = some (.int .i64 e.1) ∧ w.cell? ⟨g, j * 2 + 1, none⟩ = some (.int .i64 e.2) :=
  ⟨h.holds _ _ (edC_at hu).1, h.holds _ _ (edC_at hu).2⟩
theorem zero_ed (w : World) : (zeroValue 49).run Tryz.prog w = .ok (.agg #[.int .i64 0, .int .i64 0]) w := by kernel_rfl
theorem zero_eds (n : Nat) : (∀ v ∈ (Builtin.zeroCells (Value.agg #[.int .i64 0, .int .i64 0]).cells n).toList, v.oneCell' = true) ∧ (Builtin.zeroCells (Value.agg #[.int .i64 0, .int .i64 0]).cells n).toList.length = n * 2 := by
  refine ⟨fun v hv => ?_, ?_⟩
  · unfold Builtin.zeroCells at hv
    simp only [Array.toList_map, List.mem_map] at hv
    obtain ⟨j, _, rfl⟩ := hv
    have h5 : j % 2 < 2 := Nat.mod_lt _ (by omega)
    have e : (Value.agg #[.int .i64 0, .int .i64 0]).cells = #[.int .i64 0, .int .i64 0] := by rfl
    rw [e]
    show ((#[.int .i64 0, .int .i64 0] : Array Value)[j % 2]!).oneCell' = true
    generalize j % 2 = k at h5
    match k, h5 with
    | 0, _ => rfl
    | 1, _ => rfl
  · rw [Array.length_toList, size_zeroCells]; rfl
theorem clear_eds {W : World} {g p c n : Nat} (ty : TypeId) (hn : 0 < n) (h : ∀ j, j < n * 2 → (W.cell? ⟨g, p + j, none⟩).isSome = true ∧ W.frozen? ⟨g, p + j, none⟩ = false) :
    ∃ zs : List Value, zs.length = n * 2 ∧ (Builtin.clear_ #[46] ty #[.slice (some ⟨g, p, none⟩) n c]).run Tryz.prog W = .ok (.tuple #[]) (W.setCells g p zs) := by
  obtain ⟨h1, h2⟩ := zero_eds n
  have hst := run_storeCells_cells (P := Tryz.prog) g p _ 0 W (fun j hj => by rw [Nat.add_zero]; exact (h j (by omega)).1) (fun j hj => by rw [Nat.add_zero]; exact (h j (by omega)).2) h1
  rw [Nat.add_zero] at hst
  obtain ⟨m, rfl⟩ : ∃ m, n = m + 1 := ⟨n - 1, by omega⟩
  refine ⟨_, h2, ?_⟩
  simp only [Builtin.clear_, List.getElem?_toArray, List.getElem?_cons_zero, Sem.run_bind, run_underlying Tryz.underlying46, Result.andThen_ok, zero_ed, hst, Sem.run_pure]
/-! without doubles -/
def dd (E : List Eg) (q : Nat) : List Eg := Lib.compactUpTo E.toArray q
theorem dd_step {E : List Eg} {q : Nat} {x y : Eg} (hx : E[q + 1]? = some x) (hy : E[q]? = some y) : dd E (q + 2) = dd E (q + 1) ++ if x = y then [] else [x] := by
  unfold dd
  rw [Lib.compactUpTo_succ]
  obtain ⟨h1, e1⟩ := List.getElem?_eq_some_iff.1 hx
  obtain ⟨h2, e2⟩ := List.getElem?_eq_some_iff.1 hy
  have f1 : E.toArray[q + 1]! = x := by simp [h1, e1]
  have f2 : E.toArray[q]! = y := by simp [h2, e2]
  congr 1
  unfold Lib.keeps
  rw [Nat.add_sub_cancel, f1, f2]
  by_cases h : x = y <;> simp [h]
theorem dd_one {E : List Eg} (h : 1 ≤ E.length) : dd E 1 = E.take 1 := by
  unfold dd
  rw [show (1 : Nat) = 0 + 1 from rfl, Lib.compactUpTo_succ]
  cases E with
  | nil => simp at h
  | cons a E => simp [Lib.keeps, Lib.compactUpTo]
theorem dd_all (E : List Eg) : dd E E.length = Lib.compact E := by unfold dd Lib.compact; simp
end Go.Proofs.YtmchmlkbpocboaaGreatDoor
