/- The memory of slices.DeleteFunc. slices.DeleteFunc. -/
import Derived.Test.YtmaokoekbjjgfaaDoorZChbC
set_option linter.unusedSimpArgs false
set_option linter.unusedVariables false
set_option linter.unnecessarySimpa false
namespace Go.Proofs.YtmaokoekbjjgfaaDoor
open Go.RowKit Go.Shelf

theorem RowC.setV5 {w : World} {g cap i : Nat} {M : List Ver} {v : Ver} (h : RowC w 5 g cap (verC M)) (hi : i < M.length) : RowC (w.setCells g (i * 5) (verV v)) 5 g cap (verC (M.set i v)) := by
  have hle := h.le
  rw [verC_len] at hle
  have hvl : (verV v).length = 5 := rfl
  have ht : (verC (M.take i)).length = i * 5 := by rw [verC_len, List.length_take, Nat.min_eq_left (by omega)]
  have e1 : verC (M.set i v) = verC (M.take i) ++ (verV v ++ verC (M.drop (i + 1))) := by
    rw [List.set_eq_take_append_cons_drop, if_pos hi, verC_append]; rfl
  have hu : (verV (M[i]'hi)).length = 5 := rfl
  have e2 : verC M = verC (M.take i) ++ (verV (M[i]'hi) ++ verC (M.drop (i + 1))) := by
    have h1 : M = M.take i ++ M[i]'hi :: M.drop (i + 1) := by rw [← List.drop_eq_getElem_cons hi, List.take_append_drop]
    have h2 : verC (M.take i ++ M[i]'hi :: M.drop (i + 1)) = verC (M.take i) ++ (verV (M[i]'hi) ++ verC (M.drop (i + 1))) := by rw [verC_append]; rfl
    rw [← h2, ← h1]
  refine h.setCs (by rw [hvl]; omega) (by rw [verC_len, List.length_set]; omega) (fun j b hj hb => ?_) (fun j b hj hb => ?_)
  · rw [hvl] at hj
    rw [e1, List.getElem?_append_right (by rw [ht]; omega), ht, List.getElem?_append_left (by rw [hvl]; omega)] at hb
    have e : i * 5 + j - i * 5 = j := by omega
    rw [e] at hb
    exact hb
  · rw [hvl] at hj
    by_cases hjk : j < i * 5
    · rw [e1, List.getElem?_append_left (by rw [ht]; exact hjk)] at hb
      rw [e2, List.getElem?_append_left (by rw [ht]; exact hjk)]
      exact hb
    · rw [e1, List.getElem?_append_right (by rw [ht]; omega), ht, List.getElem?_append_right (by rw [hvl]; omega), hvl] at hb
      rw [e2, List.getElem?_append_right (by rw [ht]; omega), ht, List.getElem?_append_right (by rw [hu]; omega), hu]
      exact hb
/-- The tail is cleared: what stands ahead of it is left. -/
theorem RowC.cut {w : World} {g cap i : Nat} {M : List Ver} (h : RowC w 5 g cap (verC M)) (hi : i ≤ M.length) (zs : List Value) (hz : zs.length = (M.length - i) * 5) : RowC (w.setCells g (i * 5) zs) 5 g cap (verC (M.take i)) := by
  have hle := h.le
  rw [verC_len] at hle
  have ht : (verC (M.take i)).length = i * 5 := by rw [verC_len, List.length_take, Nat.min_eq_left (by omega)]
  have e2 : verC M = verC (M.take i) ++ verC (M.drop i) := by rw [← verC_append, List.take_append_drop]
  refine h.setCs (by rw [hz]; omega) (by rw [ht]; omega) (fun j b hj hb => ?_) (fun j b hj hb => ?_)
  · have := (List.getElem?_eq_some_iff.1 hb).1
    rw [ht] at this
    omega
  · have := (List.getElem?_eq_some_iff.1 hb).1
    rw [e2, List.getElem?_append_left this]
    exact hb
theorem zero_many (n : Nat) : (∀ v ∈ (Builtin.zeroCells (Value.agg #[.int .i64 0, .int .i64 0, .bool false, .int .i64 0, .bool false]).cells n).toList, v.oneCell' = true) ∧ (Builtin.zeroCells (Value.agg #[.int .i64 0, .int .i64 0, .bool false, .int .i64 0, .bool false]).cells n).toList.length = n * 5 := by
  refine ⟨fun v hv => ?_, ?_⟩
  · unfold Builtin.zeroCells at hv
    simp only [Array.toList_map, List.mem_map] at hv
    obtain ⟨j, _, rfl⟩ := hv
    have h5 : j % 5 < 5 := Nat.mod_lt _ (by omega)
    have e : (Value.agg #[.int .i64 0, .int .i64 0, .bool false, .int .i64 0, .bool false]).cells = #[.int .i64 0, .int .i64 0, .bool false, .int .i64 0, .bool false] := by rfl
    rw [e]
    show ((#[.int .i64 0, .int .i64 0, .bool false, .int .i64 0, .bool false] : Array Value)[j % 5]!).oneCell' = true
    generalize j % 5 = k at h5
    match k, h5 with
    | 0, _ => rfl
    | 1, _ => rfl
    | 2, _ => rfl
    | 3, _ => rfl
    | 4, _ => rfl
  · rw [Array.length_toList, size_zeroCells]; rfl
theorem clear_many {W : World} {g p c n : Nat} (ty : TypeId) (hn : 0 < n) (h : ∀ j, j < n * 5 → (W.cell? ⟨g, p + j, none⟩).isSome = true ∧ W.frozen? ⟨g, p + j, none⟩ = false) :
    ∃ zs : List Value, zs.length = n * 5 ∧ (Builtin.clear_ #[48] ty #[.slice (some ⟨g, p, none⟩) n c]).run Tryd.prog W = .ok (.tuple #[]) (W.setCells g p zs) := by
  obtain ⟨h1, h2⟩ := zero_many n
  have hst := run_storeCells_cells (P := Tryd.prog) g p _ 0 W (fun j hj => by rw [Nat.add_zero]; exact (h j (by omega)).1) (fun j hj => by rw [Nat.add_zero]; exact (h j (by omega)).2) h1
  rw [Nat.add_zero] at hst
  obtain ⟨m, rfl⟩ : ∃ m, n = m + 1 := ⟨n - 1, by omega⟩
  refine ⟨_, h2, ?_⟩
  simp only [Builtin.clear_, List.getElem?_toArray, List.getElem?_cons_zero, Sem.run_bind, run_underlying Tryd.underlying48, Result.andThen_ok, zero_ver, hst, Sem.run_pure]
end Go.Proofs.YtmaokoekbjjgfaaDoor

namespace Go.Proofs.YtmaokoekbjjgfaaDoor
open Go.RowKit Go.Shelf

def keepV (last : Int) (L : List Ver) : List Ver := L.filter fun v => !goneV last v
/-- Between two rounds: the first i are what is kept of the first j. -/
structure DelP (last : Int) (L M : List Ver) (i j : Nat) : Prop where
  len : M.length = L.length
  lt : i < j
  le : j ≤ L.length
  front : M.take i = keepV last (L.take j)
  back : ∀ n, j ≤ n → M[n]? = L[n]?
theorem keepV_snoc {last : Int} {L : List Ver} {j : Nat} {u : Ver} (hu : L[j]? = some u) : keepV last (L.take (j + 1)) = keepV last (L.take j) ++ (if goneV last u then [] else [u]) := by
  unfold keepV
  rw [List.take_add_one, hu, List.filter_append]
  congr 1
  cases h : goneV last u <;> simp [h]
theorem DelP.skip {last : Int} {L M : List Ver} {i j : Nat} {u : Ver} (h : DelP last L M i j) (hu : L[j]? = some u) (hg : goneV last u = true) : DelP last L M i (j + 1) := by
  have hj := (List.getElem?_eq_some_iff.1 hu).1
  refine ⟨h.len, by have := h.lt; omega, by omega, ?_, fun n hn => h.back n (by omega)⟩
  rw [keepV_snoc hu, hg, h.front]
  simp
theorem DelP.take {last : Int} {L M : List Ver} {i j : Nat} {u : Ver} (h : DelP last L M i j) (hu : L[j]? = some u) (hg : goneV last u = false) : DelP last L (M.set i u) (i + 1) (j + 1) := by
  have hj := (List.getElem?_eq_some_iff.1 hu).1
  have hi := h.lt
  have hM := h.len
  refine ⟨by rw [List.length_set]; exact hM, by omega, by omega, ?_, fun n hn => ?_⟩
  · rw [keepV_snoc hu, hg, ← h.front, List.take_add_one, List.getElem?_set_self (by omega)]
    congr 1
    rw [List.take_set_of_le (Nat.le_refl _)]
  · rw [List.getElem?_set_ne (by omega)]
    exact h.back n (by omega)
theorem DelP.start {last : Int} {L : List Ver} {k : Nat} (hk : k < L.length) (h1 : ∀ u, L[k]? = some u → goneV last u = true) (h2 : ∀ j, j < k → ∀ v, L[j]? = some v → goneV last v = false) : DelP last L L k (k + 1) := by
  refine ⟨rfl, by omega, by omega, ?_, fun _ _ => rfl⟩
  have hu : L[k]? = some L[k] := List.getElem?_eq_getElem hk
  rw [keepV_snoc hu, h1 _ hu]
  unfold keepV
  rw [List.filter_eq_self.2 (fun v hv => by
    obtain ⟨j, hj⟩ := List.getElem?_of_mem hv
    have hjl := (List.getElem?_eq_some_iff.1 hj).1
    rw [List.length_take] at hjl
    rw [List.getElem?_take_of_lt (by omega)] at hj
    rw [h2 j (by omega) v hj]; rfl)]
  simp
theorem DelP.done {last : Int} {L M : List Ver} {i : Nat} (h : DelP last L M i L.length) : M.take i = keepV last L ∧ i = (keepV last L).length := by
  have h1 := h.front
  rw [List.take_length] at h1
  refine ⟨h1, ?_⟩
  rw [← h1, List.length_take, h.len]
  have := h.lt
  omega
end Go.Proofs.YtmaokoekbjjgfaaDoor
