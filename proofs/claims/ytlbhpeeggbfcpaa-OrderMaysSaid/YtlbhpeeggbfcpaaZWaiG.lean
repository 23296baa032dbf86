/- Reach. -/
import Derived.Test.YtlbhpeeggbfcpaaZWaiF
set_option linter.unusedSimpArgs false
set_option linter.unusedVariables false
set_option linter.unnecessarySimpa false
namespace Go.Proofs.Ytlbhpeeggbfcpaa
open Go.RowKit
open Go.Maps (Keyed)

theorem mem_rises {l : List Int} {y : Int} (h : y ∈ rises l) : y ∈ l := by
  unfold rises Lib.compact Lib.compactUpTo at h
  obtain ⟨j, hj, rfl⟩ := List.mem_map.1 h
  have hj' : j < (sorted l).length := List.mem_range.1 (List.mem_filter.1 hj).1
  have : (sorted l).toArray[j]! = (sorted l)[j] := by simp [hj']
  rw [this]
  have hm := List.getElem_mem hj'
  generalize (sorted l)[j] = z at hm
  unfold sorted at hm
  exact (List.mergeSort_perm l _).mem_iff.1 hm
theorem rises_len (l : List Int) : (rises l).length ≤ l.length := by
  unfold rises
  exact Nat.le_trans (Lib.compact_length_le _) (by rw [sorted_len]; exact Nat.le_refl _)
theorem keys_graphR (l : List (Int × Int)) : (graphR l).map (·.1) = (graph0 l).map (·.1) := by
  unfold graphR
  rw [List.map_map]
  rfl
theorem count_sum (l : List (Int × Int)) : ∀ {xs : List Int}, xs.Nodup → (xs.map fun x => (l.filter fun e => e.1 == x).length).sum ≤ l.length := by
  induction l with
  | nil =>
    intro xs _
    have : ∀ ys : List Int, (ys.map fun x => (([] : List (Int × Int)).filter fun e => e.1 == x).length).sum = 0 := fun ys => by
      induction ys with
      | nil => rfl
      | cons y ys ih =>
        simp only [List.map_cons, List.sum_cons, List.filter_nil, List.length_nil] at ih ⊢
        omega
    rw [this]
    exact Nat.zero_le _
  | cons e l ih =>
    intro xs hn
    have h1 := ih hn
    have h2 : ∀ {xs : List Int}, xs.Nodup → (xs.map fun x => ((e :: l).filter fun e => e.1 == x).length).sum ≤ (xs.map fun x => (l.filter fun e => e.1 == x).length).sum + (if e.1 ∈ xs then 1 else 0) := by
      intro xs hn
      induction xs with
      | nil => simp
      | cons x xs ih =>
        rw [List.nodup_cons] at hn
        have h3 := ih hn.2
        simp only [List.map_cons, List.sum_cons]
        by_cases hx : e.1 = x
        · have h4 : ¬ e.1 ∈ xs := by rw [hx]; exact hn.1
          rw [if_neg h4] at h3
          rw [if_pos (by rw [hx]; exact List.mem_cons_self), List.filter_cons_of_pos (by simpa using hx), List.length_cons]
          omega
        · rw [List.filter_cons_of_neg (by simpa using hx)]
          by_cases h4 : e.1 ∈ xs
          · rw [if_pos h4] at h3
            rw [if_pos (List.mem_cons_of_mem _ h4)]
            omega
          · rw [if_neg h4] at h3
            omega
    have h3 := h2 hn
    rw [List.length_cons]
    split at h3 <;> omega
theorem at_of_nodup {G : Gr} (hn : (G.map (·.1)).Nodup) {e : Int × List Int} (he : e ∈ G) : at_ G e.1 = e.2 := by
  obtain ⟨j, hj⟩ := List.getElem?_of_mem he
  exact (at_hit (x := e.1) (l := e.2) hn hj).1
theorem sum_graphR {l : List (Int × Int)} (hn : ((graph0 l).map (·.1)).Nodup) : ((graphR l).map fun e => e.2.length).sum ≤ l.length := by
  have h1 := count_sum l hn
  refine Nat.le_trans ?_ h1
  have h2 : ∀ e ∈ graph0 l, e.2.length = (l.filter fun z => z.1 == e.1).length := fun e he => by
    rw [← at_of_nodup hn he, at_graph0, List.length_map]
  unfold graphR
  rw [List.map_map, List.map_map]
  generalize graph0 l = G at h2
  clear hn h1
  induction G with
  | nil => simp
  | cons e G ih =>
    simp only [List.map_cons, List.sum_cons]
    have h3 := ih (fun e' he' => h2 e' (List.mem_cons_of_mem _ he'))
    have h4 := h2 e List.mem_cons_self
    have h5 := rises_len e.2
    show (rises e.2).length + _ ≤ (l.filter fun z => z.1 == e.1).length + _
    omega
theorem num_graphR {l : List (Int × Int)} (hn : ((graph0 l).map (·.1)).Nodup) (hr : ∀ e ∈ l, InR64 e.1 ∧ InR64 e.2) : ∀ e ∈ graphR l, ∀ y ∈ e.2, InR64 y := by
  intro e he y hy
  unfold graphR at he
  obtain ⟨e0, h0, rfl⟩ := List.mem_map.1 he
  have h1 := mem_rises hy
  rw [← at_of_nodup hn h0, at_graph0] at h1
  obtain ⟨z, hz, rfl⟩ := List.mem_map.1 h1
  exact (hr z (List.mem_filter.1 hz).1).2
theorem at_num {G : Gr} (h : ∀ e ∈ G, ∀ y ∈ e.2, InR64 y) (x : Int) : ∀ y ∈ at_ G x, InR64 y := by
  intro y hy
  unfold at_ at hy
  cases hf : G.find? (fun e => e.1 == x) with
  | none => rw [hf] at hy; cases hy
  | some e =>
    rw [hf] at hy
    exact h e (List.mem_of_find?_eq_some hf) y hy
theorem at_sum (G : Gr) (x : Int) : (at_ G x).length ≤ (G.map fun e => e.2.length).sum := by
  unfold at_
  induction G with
  | nil => simp
  | cons e G ih =>
    rw [find_hd]
    simp only [List.map_cons, List.sum_cons]
    split
    · show e.2.length ≤ _
      omega
    · omega
theorem inv_nil (G : Gr) : InvP G [] := fun x => by
  have : getN [] x = 0 := rfl
  rw [this]
  omega
set_option maxRecDepth 100000 in
set_option maxHeartbeats 1000000 in
theorem over_any (w : World) (g : Nat) : Calls Try.prog 28 #[.map (some g)] w fun e w' => ∃ m, e = .returned (.agg #[.map (some g), .map (some m)]) ∧ w.heap.size ≤ m ∧ NAt Try.prog 3 w' m [] [] 0 ∧ Below w.heap.size w w' := by
  have hmm := @run_makeMap Try.prog
  go_enter Try.func28, Try.ntmps28
  go_wp2_with fail
  have hat : ((w.alloc (.cells #[.map (some g), .map (some (w.heap.size + 1))] 71)).alloc (.map #[] 0)).heap[w.heap.size]? = some (.cells #[.map (some g), .map (some (w.heap.size + 1))] 71) := by
    rw [Below.heap_alloc _ _ _ (by rw [asz]; omega)]
    exact alloc_at w _
  have c0 := cell_of hat 0
  have c1 := cell_of hat 1
  refine bodyPost_ret (v := .agg #[.map (some g), .map (some (w.heap.size + 1))]) (by simp [results, Try.results28, go_sem, c0, c1]) rfl ⟨w.heap.size + 1, rfl, by omega, ?_, ?_⟩
  · have h := NAt.made Try.prog 3 (w.alloc (.cells #[.map (some g), .map (some (w.heap.size + 1))] 71))
    rw [asz] at h
    exact h
  · exact (below_new _).trans ((below_new _).mono (by rw [asz]; omega))
end Go.Proofs.Ytlbhpeeggbfcpaa
