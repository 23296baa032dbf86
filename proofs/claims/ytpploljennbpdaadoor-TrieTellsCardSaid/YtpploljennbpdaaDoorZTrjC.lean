/- trie, the law's side: the chapter's example. -/
import Derived.Test.YtpploljennbpdaaDoorZTrjB
set_option linter.unusedSimpArgs false
set_option linter.unusedVariables false
set_option linter.unnecessarySimpa false
namespace Go.Proofs.YtpploljennbpdaaDoor
open Go.RowKit Go.Shelf

def L0 : List Pth := [[0, 1], [0, 2], [3]]
theorem L0_code : bcode L0 = 0 := by decide +kernel
theorem L0_tree : treeP L0 = [[], [0], [0, 1], [0, 2], [3]] := by decide +kernel
theorem L0_len : (treeP L0).length = 5 := by decide +kernel
theorem L0_kids : kidsP (treeP L0) 0 = [1, 4] := by decide +kernel
theorem L0_leaves : leavesP (treeP L0) = [2, 3, 4] := by decide +kernel
theorem L0_above : aboveI (treeP L0) 3 = [3, 1, 0] := by decide +kernel
theorem L0_meet : meetI (treeP L0) 2 3 = 1 := by decide +kernel
theorem L0_pref1 : prefI (treeP L0) 2 4 = true := by decide +kernel
theorem L0_pref2 : prefI (treeP L0) 1 2 = false := by decide +kernel
theorem sis_blk {W : World} {b n : Nat} {t : TypeId} {l : List Int} {cs : Array Value} (h : W.heap[b]? = some (.cells cs t (0, 0))) (hcs : cs = (ints l).toArray) (hn : n = l.length) (hl : l.length ≤ 1000) : SIs W (.slice (some ⟨b, 0, none⟩) n n) l := by
  subst hcs hn
  refine ⟨_, l.length, rfl, Nat.le_refl _, by unfold maxLen; omega, fun i x hx => ⟨⟨b, 0, none⟩, rfl, heap_lt h, ?_⟩⟩
  rw [add0, cell_of h i]
  unfold ints
  simp [hx]
/-- The paths of the example, in memory. -/
theorem ps0 (w : World) : ∃ w4 : World, w4 = (((w.alloc (.cells #[.int .i64 0, .int .i64 1] 3)).alloc (.cells #[.int .i64 0, .int .i64 2] 3)).alloc (.cells #[.int .i64 3] 3)).alloc (.cells #[.slice (some ⟨w.heap.size, 0, none⟩) 2 2, .slice (some ⟨w.heap.size + 1, 0, none⟩) 2 2, .slice (some ⟨w.heap.size + 1 + 1, 0, none⟩) 1 1] 24) ∧ PsIs w4 (.slice (some ⟨w.heap.size + 1 + 1 + 1, 0, none⟩) 3 3) L0 ∧ Below w.heap.size w w4 := by
  have old : ∀ (a : World) (o : Obj) (j : Nat), j < a.heap.size → (a.alloc o).heap[j]? = a.heap[j]? := fun a o j hj => Below.heap_alloc a o j hj
  refine ⟨_, rfl, ?_, (((below_new _).trans ((below_new _).mono (by rw [asz]; omega))).trans ((below_new _).mono (by rw [asz, asz]; omega))).trans ((below_new _).mono (by rw [asz, asz, asz]; omega))⟩
  generalize hw1 : w.alloc (.cells #[.int .i64 0, .int .i64 1] 3) = w1
  have s1 : w1.heap.size = w.heap.size + 1 := by rw [← hw1, asz]
  have b1 : w1.heap[w.heap.size]? = some (.cells #[.int .i64 0, .int .i64 1] 3 (0, 0)) := by rw [← hw1]; exact alloc_at w _
  generalize hw2 : w1.alloc (.cells #[.int .i64 0, .int .i64 2] 3) = w2
  have s2 : w2.heap.size = w.heap.size + 1 + 1 := by rw [← hw2, asz, s1]
  have b2 : w2.heap[w.heap.size + 1]? = some (.cells #[.int .i64 0, .int .i64 2] 3 (0, 0)) := by rw [← hw2, ← s1]; exact alloc_at w1 _
  have b12 : w2.heap[w.heap.size]? = some (.cells #[.int .i64 0, .int .i64 1] 3 (0, 0)) := by rw [← hw2, old _ _ _ (by omega)]; exact b1
  generalize hw3 : w2.alloc (.cells #[.int .i64 3] 3) = w3
  have s3 : w3.heap.size = w.heap.size + 1 + 1 + 1 := by rw [← hw3, asz, s2]
  have b3 : w3.heap[w.heap.size + 1 + 1]? = some (.cells #[.int .i64 3] 3 (0, 0)) := by rw [← hw3, ← s2]; exact alloc_at w2 _
  have b13 : w3.heap[w.heap.size]? = some (.cells #[.int .i64 0, .int .i64 1] 3 (0, 0)) := by rw [← hw3, old _ _ _ (by omega)]; exact b12
  have b23 : w3.heap[w.heap.size + 1]? = some (.cells #[.int .i64 0, .int .i64 2] 3 (0, 0)) := by rw [← hw3, old _ _ _ (by omega)]; exact b2
  have b4 := alloc_at w3 (.cells #[.slice (some ⟨w.heap.size, 0, none⟩) 2 2, .slice (some ⟨w.heap.size + 1, 0, none⟩) 2 2, .slice (some ⟨w.heap.size + 1 + 1, 0, none⟩) 1 1] 24)
  rw [s3] at b4
  have c1 := (old w3 (.cells #[.slice (some ⟨w.heap.size, 0, none⟩) 2 2, .slice (some ⟨w.heap.size + 1, 0, none⟩) 2 2, .slice (some ⟨w.heap.size + 1 + 1, 0, none⟩) 1 1] 24) _ (heap_lt b13)).trans b13
  have c2 := (old w3 (.cells #[.slice (some ⟨w.heap.size, 0, none⟩) 2 2, .slice (some ⟨w.heap.size + 1, 0, none⟩) 2 2, .slice (some ⟨w.heap.size + 1 + 1, 0, none⟩) 1 1] 24) _ (heap_lt b23)).trans b23
  have c3 := (old w3 (.cells #[.slice (some ⟨w.heap.size, 0, none⟩) 2 2, .slice (some ⟨w.heap.size + 1, 0, none⟩) 2 2, .slice (some ⟨w.heap.size + 1 + 1, 0, none⟩) 1 1] 24) _ (heap_lt b3)).trans b3
  refine ⟨_, 3, rfl, by decide, by decide, fun i p hp => ?_⟩
  have hi : i = 0 ∨ i = 1 ∨ i = 2 := by
    have h3 := (List.getElem?_eq_some_iff.1 hp).1
    have : L0.length = 3 := rfl
    omega
  rcases hi with rfl | rfl | rfl
  · cases hp
    exact ⟨_, _, rfl, heap_lt b4, by rw [add0, cell_of b4]; rfl, sis_blk c1 rfl rfl (by decide)⟩
  · cases hp
    exact ⟨_, _, rfl, heap_lt b4, by rw [add0, cell_of b4]; rfl, sis_blk c2 rfl rfl (by decide)⟩
  · cases hp
    exact ⟨_, _, rfl, heap_lt b4, by rw [add0, cell_of b4]; rfl, sis_blk c3 rfl rfl (by decide)⟩
/-- Three numbers of a row. -/
theorem row3 {w : World} {v : Value} {n : Nat} {x y z : Int} (h : RowIs w 1 v n [.int .i64 x, .int .i64 y, .int .i64 z]) : ∃ g c, v = .slice (some ⟨g, 0, none⟩) 3 c ∧ w.cell? ⟨g, 0, none⟩ = some (.int .i64 x) ∧ w.cell? ⟨g, 1, none⟩ = some (.int .i64 y) ∧ w.cell? ⟨g, 2, none⟩ = some (.int .i64 z) := by
  rcases h with ⟨_, _, e⟩ | ⟨g, c, rfl, h1, h2, hc⟩
  · cases e
  · have : n = 3 := by simpa using h1.symm
    subst this
    exact ⟨g, c, rfl, hc.holds 0 _ rfl, hc.holds 1 _ rfl, hc.holds 2 _ rfl⟩
theorem row2 {w : World} {v : Value} {n : Nat} {x y : Int} (h : RowIs w 1 v n [.int .i64 x, .int .i64 y]) : ∃ g c, v = .slice (some ⟨g, 0, none⟩) 2 c ∧ w.cell? ⟨g, 0, none⟩ = some (.int .i64 x) ∧ w.cell? ⟨g, 1, none⟩ = some (.int .i64 y) := by
  rcases h with ⟨_, _, e⟩ | ⟨g, c, rfl, h1, h2, hc⟩
  · cases e
  · have : n = 2 := by simpa using h1.symm
    subst this
    exact ⟨g, c, rfl, hc.holds 0 _ rfl, hc.holds 1 _ rfl⟩
end Go.Proofs.YtpploljennbpdaaDoor
