/- trie: build, what it holds while it runs. -/
import Derived.Test.YtpploljennbpdaaDoorZTriW
set_option linter.unusedSimpArgs false
set_option linter.unusedVariables false
set_option linter.unnecessarySimpa false
namespace Go.Proofs.YtpploljennbpdaaDoor
open Go.RowKit Go.Shelf

theorem addP_pre (P : List Pth) (p : Pth) : P <+: addP P p := addN_pre P p _
theorem fold_pre : ∀ (M P : List Pth), P <+: M.foldl addP P
  | [], P => List.prefix_refl P
  | p :: M, P => (addP_pre P p).trans (fold_pre M (addP P p))
theorem tree_take_pre (L : List Pth) (k : Nat) : treeP (L.take k) <+: treeP L := by
  have h := fold_pre (L.drop k) (treeP (L.take k))
  unfold treeP at h ⊢
  rw [← List.foldl_append, List.take_append_drop] at h
  exact h
theorem tree_take {L : List Pth} {k : Nat} {p : Pth} (hx : L[k]? = some p) : treeP (L.take (k + 1)) = addP (treeP (L.take k)) p := by
  rw [List.take_add_one, hx]
  exact tree_snoc _ _
theorem take_short {L : List Pth} (h8 : ∀ p ∈ L, p.length ≤ 8) (k : Nat) : ∀ p ∈ L.take k, p.length ≤ 8 := fun p hp => h8 p (List.mem_of_mem_take hp)
theorem idx_take {L : List Pth} (h8 : ∀ p ∈ L, p.length ≤ 8) {k : Nat} {p : Pth} (hx : L[k]? = some p) : idxP (treeP (L.take (k + 1))) p = idxP (treeP L) p := by
  have hm : p ∈ treeP (L.take (k + 1)) := (mem_tree _ _).2 (.inr ⟨p, by rw [List.take_add_one, hx]; simp, List.prefix_refl _⟩)
  exact (idx_pre (tree_ok L h8) (tree_take_pre L (k + 1)) (idx_at hm)).symm
/-- The nodes at the ends of the first k paths. -/
def endsK (L : List Pth) (k : Nat) : List Nat := (L.take k).map (idxP (treeP L))
theorem endsK_snoc {L : List Pth} {k : Nat} {p : Pth} (hx : L[k]? = some p) : endsK L (k + 1) = endsK L k ++ [idxP (treeP L) p] := by
  unfold endsK
  rw [List.take_add_one, hx, List.map_append]
  rfl
theorem endsK_len {L : List Pth} {k : Nat} (hk : k ≤ L.length) : (endsK L k).length = k := by unfold endsK; rw [List.length_map, List.length_take]; omega
theorem endsK_all (L : List Pth) : endsK L L.length = endsP (treeP L) L := by unfold endsK endsP; rw [List.take_length]
/-- The tree that build begins with. -/
theorem tree_start (w1 : World) : ∃ w3 : World, w3 = (w1.alloc (.cells #[.int .i64 (-1), .int .i64 (-1), .slice none 0 0] 52)).alloc (.cells #[.slice (some ⟨w1.heap.size, 0, none⟩) 1 1] 27) ∧ TrBx w3 (w1.heap.size + 1) (.slice (some ⟨w1.heap.size, 0, none⟩) 1 1) [newNd (-1) (-1)] [[]] ∧ Below w1.heap.size w1 w3 := by
  have hb1 := below_new (w := w1) (.cells #[.int .i64 (-1), .int .i64 (-1), .slice none 0 0] 52)
  have hb2 := below_new (w := w1.alloc (.cells #[.int .i64 (-1), .int .i64 (-1), .slice none 0 0] 52)) (.cells #[.slice (some ⟨w1.heap.size, 0, none⟩) 1 1] 27)
  have hh := alloc_at (w1.alloc (.cells #[.int .i64 (-1), .int .i64 (-1), .slice none 0 0] 52)) (.cells #[.slice (some ⟨w1.heap.size, 0, none⟩) 1 1] 27)
  rw [asz] at hh
  have hn : ((w1.alloc (.cells #[.int .i64 (-1), .int .i64 (-1), .slice none 0 0] 52)).alloc (.cells #[.slice (some ⟨w1.heap.size, 0, none⟩) 1 1] 27)).heap[w1.heap.size]? = some (.cells #[.int .i64 (-1), .int .i64 (-1), .slice none 0 0] 52 (0, 0)) := (Below.heap_alloc _ _ _ (by rw [asz]; omega)).trans (alloc_at w1 _)
  refine ⟨_, rfl, ⟨hh, ?_, ?_⟩, hb1.trans (hb2.mono hb1.size)⟩
  · refine ⟨tree0, ?_, rfl, ?_, ?_, ?_, ?_⟩
    · refine .inr ⟨_, 1, rfl, rfl, Nat.le_refl _, heap_lt hn, Nat.le_refl _, by decide, fun j b hj => ?_, fun j hj => ?_⟩
      · rw [cell_of_row _ _ _ _ _ _ hn]
        have : ndC [newNd (-1) (-1)] = [.int .i64 (-1), .int .i64 (-1), .slice none 0 0] := rfl
        rw [this] at hj
        simpa using hj
      · have hj3 : j = 0 ∨ j = 1 ∨ j = 2 := by omega
        rcases hj3 with rfl | rfl | rfl
        · exact ⟨by rw [cell_of_row _ _ _ _ _ _ hn]; rfl, free0 hn 0⟩
        · exact ⟨by rw [cell_of_row _ _ _ _ _ _ hn]; rfl, free0 hn 1⟩
        · exact ⟨by rw [cell_of_row _ _ _ _ _ _ hn]; rfl, free0 hn 2⟩
    · intro i x hx
      cases i with
      | zero => cases hx; exact ⟨rfl, rfl⟩
      | succ i => simp at hx
    · intro i x hx
      cases i with
      | zero => cases hx; exact RowIs.nil _ _
      | succ i => simp at hx
    · intro i x g hx hg
      cases i with
      | zero => cases hx; cases hg
      | succ i => simp at hx
    · intro i j x y g hx hy hg
      cases i with
      | zero => cases hx; cases hg
      | succ i => simp at hx
  · rintro (e | ⟨x, hx, e⟩)
    · have e2 : w1.heap.size = w1.heap.size + 1 := Option.some.inj e
      omega
    · rw [List.mem_singleton.1 hx] at e; cases e
/-- What build holds in its first loop: the tree of the first k paths, the ends of the first j. -/
structure LpA (w : World) (tb : Nat) (L : List Pth) (k j : Nat) (ev v : Value) (N : List Nd) (W : World) : Prop where
  bx : TrBx W tb v N (treeP (L.take k))
  own : ∀ g, TrOwn v N g → w.heap.size < g
  tbw : w.heap.size < tb
  below : Below w.heap.size w W
  res : W.heap[w.heap.size]? = some (.cells #[.slice none 0 0] 27 (0, 0))
  ends : RowIs W 1 ev (endsK L j).length (ints (natI (endsK L j)))
  eoff : ∀ g, ev.ownBlock = some g → w.heap.size < g ∧ g ≠ tb ∧ ¬ TrOwn v N g
theorem LpA.grow {w : World} {tb : Nat} {L : List Pth} {k j : Nat} {ev v : Value} {N : List Nd} {W W2 : World} {p : Pth} (h : LpA w tb L k j ev v N W) (hx : L[k]? = some p) (hg : Grew W tb v N (addP (treeP (L.take k)) p) W2) : ∃ v' N', LpA w tb L (k + 1) j ev v' N' W2 := by
  obtain ⟨v', N', hbx, ht, ho⟩ := hg
  have hr := heap_lt h.res
  refine ⟨v', N', by rw [tree_take hx]; exact hbx, fun g hg => ?_, h.tbw, h.below.trans (ht.below (fun i hi => ?_) h.below.size), (ht.block _ hr (fun e => ?_)).trans h.res, h.ends.touch ht (fun g hg e => ?_), fun g hg => ⟨(h.eoff g hg).1, (h.eoff g hg).2.1, fun e => ?_⟩⟩
  · rcases ho g hg with e | e
    · exact h.own g e
    · omega
  · rcases hi with rfl | e
    · exact Nat.le_of_lt h.tbw
    · exact Nat.le_of_lt (h.own i e)
  · rcases e with e | e
    · have := h.tbw; omega
    · have := h.own _ e; omega
  · rcases e with e | e
    · exact (h.eoff g hg).2.1 e
    · exact (h.eoff g hg).2.2 e
  · rcases ho g e with e | e
    · exact (h.eoff g hg).2.2 e
    · have := h.ends.lt g hg; omega
theorem LpA.push {w : World} {tb : Nat} {L : List Pth} {k j : Nat} {ev ev' v : Value} {N : List Nd} {W W2 : World} {p : Pth} (h : LpA w tb L k j ev v N W) (hx : L[j]? = some p) (hr : RowIs W2 1 ev' (natI (endsK L j) ++ [(idxP (treeP L) p : Int)]).length (ints (natI (endsK L j) ++ [(idxP (treeP L) p : Int)]))) (ht : Touch (fun k => ev.ownBlock = some k) W W2) (ho : ∀ g, ev'.ownBlock = some g → ev.ownBlock = some g ∨ W.heap.size ≤ g) : LpA w tb L k (j + 1) ev' v N W2 := by
  have hres := heap_lt h.res
  have hown := h.bx.tree.own_lt
  have htb := heap_lt h.bx.head
  refine ⟨⟨(ht.block _ htb (fun e => (h.eoff _ e).2.1 rfl)).trans h.bx.head, h.bx.tree.touch ht (fun g hg e => (h.eoff g e).2.2 hg), h.bx.off⟩, h.own, h.tbw, h.below.trans (ht.below (fun i hi => Nat.le_of_lt (h.eoff i hi).1) h.below.size), (ht.block _ hres (fun e => by have := (h.eoff _ e).1; omega)).trans h.res, ?_, fun g hg => ?_⟩
  · rw [endsK_snoc hx, natI_snoc]
    have e : (endsK L j ++ [idxP (treeP L) p]).length = (natI (endsK L j) ++ [(idxP (treeP L) p : Int)]).length := by rw [List.length_append, List.length_append, natI_len]; rfl
    rw [e]
    exact hr
  · rcases ho g hg with e | e
    · exact h.eoff g e
    · exact ⟨by omega, by omega, fun e2 => by have := hown g e2; omega⟩
end Go.Proofs.YtpploljennbpdaaDoor
