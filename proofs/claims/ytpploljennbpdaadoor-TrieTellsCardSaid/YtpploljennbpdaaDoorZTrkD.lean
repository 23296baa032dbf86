/- trie, the document's own Build: its codes; what it holds. -/
import Derived.Test.YtpploljennbpdaaDoorZTrkC
set_option linter.unusedSimpArgs false
set_option linter.unusedVariables false
set_option linter.unnecessarySimpa false
namespace Go.Proofs.YtpploljennbpdaaDoor
open Go.RowKit Go.Shelf

theorem rb_empty : bcode [] = 2 := by
  unfold bcode
  rw [if_neg (by unfold checkC; rw [if_pos rfl]; decide)]
  unfold checkC
  rw [if_pos rfl]
theorem rb_2 {L : List Pth} (h0 : L ≠ []) (h : L.all filledB = false) : bcode L = 2 := by
  have hc : checkC L = 2 := by unfold checkC; rw [if_neg h0, if_pos h]
  unfold bcode
  rw [if_neg (by rw [hc]; decide), hc]
theorem rb_7 {L : List Pth} (h0 : L ≠ []) (h1 : L.all filledB = true) (h : 8 < L.length ∨ L.all shortB = false) : bcode L = 7 := by
  have hc : checkC L = 7 := by
    unfold checkC
    rw [if_neg h0, if_neg (by rw [h1]; simp)]
    by_cases h8 : 8 < L.length
    · rw [if_pos h8]
    · rw [if_neg h8, if_pos (h.resolve_left h8)]
  unfold bcode
  rw [if_neg (by rw [hc]; decide), hc]
theorem rb_42 {L : List Pth} (h0 : L ≠ []) (h1 : L.all filledB = true) (h2 : ¬ 8 < L.length) (h3 : L.all shortB = true) (h : L.all simpleB = false ∨ ¬ goodP L) : bcode L = 42 := by
  unfold bcode
  by_cases hs : L.all simpleB = false
  · have hc : checkC L = 42 := by unfold checkC; rw [if_neg h0, if_neg (by rw [h1]; simp), if_neg h2, if_neg (by rw [h3]; simp), if_pos hs]
    rw [if_neg (by rw [hc]; decide), hc]
  · have hc : checkC L = 0 := by unfold checkC; rw [if_neg h0, if_neg (by rw [h1]; simp), if_neg h2, if_neg (by rw [h3]; simp), if_neg hs]
    rw [if_pos hc, if_neg (h.resolve_left hs)]
theorem rb_0 {L : List Pth} (h0 : L ≠ []) (h1 : L.all filledB = true) (h2 : ¬ 8 < L.length) (h3 : L.all shortB = true) (h4 : L.all simpleB = true) (h : goodP L) : bcode L = 0 := by
  unfold bcode
  have hc : checkC L = 0 := by unfold checkC; rw [if_neg h0, if_neg (by rw [h1]; simp), if_neg h2, if_neg (by rw [h3]; simp), if_neg (by rw [h4]; simp)]
  rw [if_pos hc, if_pos h]
theorem all_filled {L : List Pth} (h : L.all filledB = true) : ∀ p ∈ L, p ≠ [] := fun p hp => (of_decide_eq_true (List.all_eq_true.1 h p hp)).1
theorem all_short {L : List Pth} (h : L.all shortB = true) : ∀ p ∈ L, p.length ≤ 8 := fun p hp => of_decide_eq_true (List.all_eq_true.1 h p hp)
/-- What the document's Build answers. -/
def RBldP (L : List Pth) (w : World) (e : Ending) (w' : World) : Prop := Below w.heap.size w w' ∧ ((bcode L ≠ 0 ∧ e = .returned (.tuple #[.agg #[.slice none 0 0], .int .i64 (bcode L)])) ∨ (bcode L = 0 ∧ ∃ v, e = .returned (.tuple #[.agg #[v], .int .i64 0]) ∧ RTr w' v (treeP L)))
theorem RBldP.bad {L : List Pth} {w w' : World} {c : Int} (h : bcode L = c) (h0 : c ≠ 0) (hb : Below w.heap.size w w') : RBldP L w (.returned (.tuple #[.agg #[.slice none 0 0], .int .i64 c])) w' := by
  subst h
  exact ⟨hb, .inl ⟨h0, rfl⟩⟩
/-- The tree while it is made: its box, its row; the beginnings lie among what was given. -/
structure RGrow (w : World) (tb : Nat) (rv : Value) (vs : List Value) (P : List Pth) (W : World) : Prop where
  head : W.heap[tb]? = some (.cells #[rv] 32 (0, 0))
  row : RowIs W 1 rv vs.length vs
  own : ∀ g, rv.ownBlock = some g → w.heap.size < g ∧ g ≠ tb
  tbw : w.heap.size < tb
  len : vs.length = P.length
  each : ∀ (i : Nat) (u : Value) (p : Pth), vs[i]? = some u → P[i]? = some p → SIs w u p
  below : Below w.heap.size w W
  res : W.heap[w.heap.size]? = some (.cells #[.slice none 0 0] 32 (0, 0))
theorem RGrow.on {w W W' : World} {tb : Nat} {rv : Value} {vs : List Value} {P : List Pth} (h : RGrow w tb rv vs P W) (hb : Below W.heap.size W W') : RGrow w tb rv vs P W' :=
  ⟨(hb.block _ (heap_lt h.head)).trans h.head, h.row.below hb, h.own, h.tbw, h.len, h.each, h.below.trans (hb.mono h.below.size), (hb.block _ (heap_lt h.res)).trans h.res⟩
theorem rtr_of {w W : World} {rv : Value} {vs : List Value} {P : List Pth} (hrow : RowIs W 1 rv vs.length vs) (hlen : vs.length = P.length) (heach : ∀ (i : Nat) (u : Value) (p : Pth), vs[i]? = some u → P[i]? = some p → SIs w u p) (hb : Below w.heap.size w W) (hT : TreeP P) (hP : P.length ≤ 900) : RTr W rv P := by
  refine ⟨?_, hT, hP⟩
  obtain ⟨A, cap, rfl, h1, h2, _, hA, hc⟩ := hrow.form
  rw [hlen]
  refine ⟨A, cap, rfl, by rw [← hlen]; exact h1, h2, fun i p hp => ?_⟩
  have hl : i < vs.length := by rw [hlen]; exact (List.getElem?_eq_some_iff.1 hp).1
  obtain ⟨g, rfl, hk⟩ := hc i _ (List.getElem?_eq_getElem hl)
  exact ⟨⟨g, 0, none⟩, _, rfl, heap_lt' hk, by rw [add0]; exact hk, (heach i _ p (List.getElem?_eq_getElem hl) hp).below hb⟩
theorem RGrow.is {w W : World} {tb : Nat} {rv : Value} {vs : List Value} {P : List Pth} (h : RGrow w tb rv vs P W) (hT : TreeP P) (hP : P.length ≤ 900) : RTr W rv P := rtr_of h.row h.len h.each h.below hT hP
theorem RGrow.fin {w W : World} {tb : Nat} {rv u : Value} {vs : List Value} {P : List Pth} (h : RGrow w tb rv vs P W) (hT : TreeP P) (hP : P.length ≤ 900) : RTr (W.setCell ⟨w.heap.size, 0, none⟩ u) rv P := by
  obtain ⟨hb, ht⟩ := told_below h.res h.below u
  exact rtr_of (h.row.touch ht (fun g hg e => by have := (h.own g hg).1; omega)) h.len h.each hb hT hP
/-- A beginning more. -/
theorem RGrow.push {w W W2 : World} {tb : Nat} {rv u v' : Value} {vs : List Value} {P : List Pth} {q : Pth} (h : RGrow w tb rv vs P W) (hu : SIs w u q) (hr : RowIs W2 1 v' (vs ++ [u]).length (vs ++ [u])) (ht : Touch (fun k => rv.ownBlock = some k) W W2) (ho : ∀ k, v'.ownBlock = some k → rv.ownBlock = some k ∨ W.heap.size ≤ k) : RGrow w tb v' (vs ++ [u]) (P ++ [q]) (W2.setCell ⟨tb, 0, none⟩ v') := by
  have htb := heap_lt h.head
  have hh2 := (ht.block _ htb (fun e => (h.own _ e).2 rfl)).trans h.head
  have hres2 := (ht.block _ (heap_lt h.res) (fun e => by have := (h.own _ e).1; omega)).trans h.res
  have hs : Touch (fun k => k = tb) W2 (W2.setCell ⟨tb, 0, none⟩ v') := (Touch.refl (fun k => k = tb) W2).setCell ⟨tb, 0, none⟩ (fun _ => rfl) v'
  have ho2 : ∀ g, v'.ownBlock = some g → w.heap.size < g ∧ g ≠ tb := fun g hg => by
    rcases ho g hg with e | e
    · exact h.own g e
    · have := heap_lt h.res; exact ⟨by omega, by omega⟩
  refine ⟨told_cell hh2 v', hr.touch hs (fun g hg e => (ho2 g hg).2 e), ho2, h.tbw, by rw [List.length_append, List.length_append, h.len]; rfl, fun i x p hx hp => ?_, (h.below.trans (ht.below (fun i hi => Nat.le_of_lt (h.own i hi).1) h.below.size)).trans (hs.below (fun i hi => by have := h.tbw; omega) (Nat.le_trans h.below.size ht.size)), (hs.block _ (heap_lt hres2) (fun e => by have := h.tbw; omega)).trans hres2⟩
  rcases snoc_split hx with ⟨h1, h2⟩ | ⟨rfl, rfl⟩
  · rcases snoc_split hp with ⟨h3, h4⟩ | ⟨h3, h4⟩
    · exact h.each i x p h2 h4
    · have := h.len; omega
  · rcases snoc_split hp with ⟨h3, h4⟩ | ⟨h3, rfl⟩
    · have := h.len; omega
    · exact hu
theorem sis_none (w : World) (a : Addr) (c : Nat) (h : c ≤ maxLen) : SIs w (.slice (some a) 0 c) [] := ⟨some a, c, rfl, Nat.zero_le _, h, fun i x hx => by simp at hx⟩
/-- Where the tree begins. -/
theorem rgrow_start {w W : World} (hb : Below w.heap.size w W) (hres : W.heap[w.heap.size]? = some (.cells #[.slice none 0 0] 32 (0, 0))) :
    ∃ W3 : World, W3 = ((W.alloc (.cells #[] 3)).alloc (.cells #[.slice (some ⟨W.heap.size, 0, none⟩) 0 0] 24)).alloc (.cells #[.slice (some ⟨W.heap.size + 1, 0, none⟩) 1 1] 32) ∧ RGrow w (W.heap.size + 1 + 1) (.slice (some ⟨W.heap.size + 1, 0, none⟩) 1 1) [.slice (some ⟨W.heap.size, 0, none⟩) 0 0] [[]] W3 := by
  have old : ∀ (a : World) (o : Obj) (j : Nat), j < a.heap.size → (a.alloc o).heap[j]? = a.heap[j]? := fun a o j hj => Below.heap_alloc a o j hj
  have hw := heap_lt hres
  refine ⟨_, rfl, ?_⟩
  generalize hw1 : W.alloc (.cells #[] 3) = w1
  have s1 : w1.heap.size = W.heap.size + 1 := by rw [← hw1, asz]
  have r1 : w1.heap[w.heap.size]? = some (.cells #[.slice none 0 0] 32 (0, 0)) := by rw [← hw1, old _ _ _ hw]; exact hres
  have b1 : Below W.heap.size W w1 := by rw [← hw1]; exact below_new _
  generalize hw2 : w1.alloc (.cells #[.slice (some ⟨W.heap.size, 0, none⟩) 0 0] 24) = w2
  have s2 : w2.heap.size = W.heap.size + 1 + 1 := by rw [← hw2, asz, s1]
  have r2 : w2.heap[w.heap.size]? = some (.cells #[.slice none 0 0] 32 (0, 0)) := by rw [← hw2, old _ _ _ (by omega)]; exact r1
  have e2 : w2.heap[W.heap.size + 1]? = some (.cells #[.slice (some ⟨W.heap.size, 0, none⟩) 0 0] 24 (0, 0)) := by rw [← hw2, ← s1]; exact alloc_at w1 _
  have b2 : Below W.heap.size W w2 := b1.trans (by rw [← hw2]; exact (below_new _).mono b1.size)
  have e3 := alloc_at w2 (.cells #[.slice (some ⟨W.heap.size + 1, 0, none⟩) 1 1] 32)
  rw [s2] at e3
  have e23 := (old w2 (.cells #[.slice (some ⟨W.heap.size + 1, 0, none⟩) 1 1] 32) _ (heap_lt e2)).trans e2
  have r3 := (old w2 (.cells #[.slice (some ⟨W.heap.size + 1, 0, none⟩) 1 1] 32) _ (heap_lt r2)).trans r2
  refine ⟨e3, ?_, fun g hg => ?_, by omega, rfl, fun i u p hu hp => ?_, hb.trans ((b2.trans ((below_new _).mono b2.size)).mono hb.size), r3⟩
  · refine .inr ⟨_, 1, rfl, rfl, Nat.le_refl _, heap_lt e23, Nat.le_refl _, by decide, fun j b hj => ?_, fun j hj => ?_⟩
    · rw [cell_of_row _ _ _ _ _ _ e23]
      simpa using hj
    · obtain rfl : j = 0 := by omega
      exact ⟨by rw [cell_of_row _ _ _ _ _ _ e23]; rfl, free0 e23 0⟩
  · have e : W.heap.size + 1 = g := Option.some.inj hg
    omega
  · cases i with
    | zero =>
      cases hu
      cases hp
      exact sis_none _ _ _ (by decide)
    | succ i => simp at hu
end Go.Proofs.YtpploljennbpdaaDoor
