/- trie: what the program's answers are at numbers of nodes. -/
import Derived.Test.YtpploljennbpdaaDoorZTrjD
set_option linter.unusedSimpArgs false
set_option linter.unusedVariables false
set_option linter.unnecessarySimpa false
namespace Go.Proofs.YtpploljennbpdaaDoor
open Go.RowKit Go.Shelf

theorem at_lt {P : List Pth} {n : Nat} {p : Pth} (h : P[n]? = some p) : n < P.length := (List.getElem?_eq_some_iff.1 h).1
theorem in_nat {P : List Pth} {n : Nat} {p : Pth} (h : P[n]? = some p) : 0 ≤ (n : Int) ∧ (n : Int) < (P.length : Int) := by have := at_lt h; omega
theorem path_nat {P : List Pth} {n : Nat} {p : Pth} (h : P[n]? = some p) : pathI P (n : Int) = p := by
  unfold pathI
  rw [if_pos (in_nat h), Int.toNat_natCast, h]
  rfl
theorem above_nat {P : List Pth} {n : Nat} {p : Pth} (h : P[n]? = some p) : aboveI P (n : Int) = aboveP P n := by
  unfold aboveI
  rw [if_pos (in_nat h), Int.toNat_natCast]
theorem belowI_nat {P : List Pth} {n : Nat} {p : Pth} (h : P[n]? = some p) : belowI P (n : Int) = preP P n := by
  unfold belowI
  rw [if_pos (in_nat h), Int.toNat_natCast]
theorem meet_nat {P : List Pth} {a b : Nat} {p q : Pth} (ha : P[a]? = some p) (hb : P[b]? = some q) : meetI P (a : Int) (b : Int) = meetP P a b := by
  unfold meetI meetP
  rw [above_nat ha, above_nat hb]
theorem mem_natI {O : List Nat} {a : Nat} : (a : Int) ∈ natI O ↔ a ∈ O := by
  unfold natI
  rw [List.mem_map]
  constructor
  · rintro ⟨x, hx, e⟩
    have : x = a := by omega
    exact this ▸ hx
  · exact fun h => ⟨a, h, rfl⟩
theorem idxOf_nat : ∀ (O : List Nat) (a : Nat), (natI O).idxOf (a : Int) = O.idxOf a
  | [], a => rfl
  | x :: O, a => by
    have ih := idxOf_nat O a
    show ((x : Int) :: natI O).idxOf (a : Int) = (x :: O).idxOf a
    rw [List.idxOf_cons, List.idxOf_cons, ih]
    by_cases h : x = a
    · subst h; simp
    · have h2 : ((x : Int) == (a : Int)) = false := by rw [beq_eq_false_iff_ne]; omega
      have h3 : (x == a) = false := by rw [beq_eq_false_iff_ne]; exact h
      rw [h2, h3]
theorem idxI_nat {O : List Nat} {a : Nat} (h : a ∈ O) : idxI (natI O) (a : Int) = (O.idxOf a : Int) := by
  unfold idxI
  rw [if_pos (mem_natI.2 h), idxOf_nat]
theorem mem_root {P : List Pth} (hT : TreeP P) {a : Nat} {p : Pth} (ha : P[a]? = some p) : a ∈ preP P 0 := (mem_pre hT 0 [] hT.root a).2 ⟨p, ha, List.nil_prefix⟩
theorem pref_nat {P : List Pth} (hT : TreeP P) {a b : Nat} {p q : Pth} (ha : P[a]? = some p) (hb : P[b]? = some q) : prefI P (a : Int) (b : Int) = prefP P a b := by
  unfold prefI prefP inI
  rw [decide_eq_true (in_nat ha), decide_eq_true (in_nat hb), meet_nat ha hb, show (0 : Int) = ((0 : Nat) : Int) from rfl, belowI_nat hT.root, idxI_nat (mem_root hT ha), idxI_nat (mem_root hT hb)]
  have h1 := at_lt ha
  have h2 := at_lt hb
  by_cases hm : meetP P a b = (a : Int)
  · simp [hm]
  · by_cases hi : (preP P 0).idxOf a < (preP P 0).idxOf b
    · simp [h1, h2, hm, hi]
    · simp [h1, h2, hm, hi]
/-- Where Build tells a tree. -/
theorem bcode_good {L : List Pth} (h : bcode L = 0) : L ≠ [] ∧ L.length ≤ 8 ∧ (∀ p ∈ L, p ≠ []) ∧ (∀ p ∈ L, p.length ≤ 8) ∧ goodP L := by
  unfold bcode at h
  split at h
  · rename_i hc
    obtain ⟨h1, h2, h3, h4, h5⟩ := check_good hc
    split at h
    · rename_i hg
      exact ⟨h1, h2, fun p hp => (h3 p hp).1, h4, hg⟩
    · cases h
  · rename_i hc
    exact absurd h hc
theorem leaf_at {L : List Pth} (h : bcode L = 0) : (leavesP (treeP L)).length = L.length ∧ ∀ (i a : Nat), (leavesP (treeP L))[i]? = some a → ∃ p, L[i]? = some p ∧ (treeP L)[a]? = some p := by
  obtain ⟨h1, h2, h3, h4, h5⟩ := bcode_good h
  obtain ⟨g1, g2, g3⟩ := (good_iff h4 h3 h1).1 h5
  refine ⟨g2, fun i a hi => ?_⟩
  have hil : i < L.length := by have := (List.getElem?_eq_some_iff.1 hi).1; omega
  have ta := g3 i a hi
  exact ⟨L[i], List.getElem?_eq_getElem hil, by rw [ta]; exact List.getElem?_eq_getElem hil⟩
/-- What the law asks of two leaves. -/
theorem two_leaves {L : List Pth} (h : bcode L = 0) {i k a b : Nat} (hik : i ≠ k) (hi : (leavesP (treeP L))[i]? = some a) (hk : (leavesP (treeP L))[k]? = some b) :
    ∃ (p q r : Pth) (m : Nat) (x y : Int), L[i]? = some p ∧ L[k]? = some q ∧ (treeP L)[a]? = some p ∧ (treeP L)[b]? = some q ∧ meetI (treeP L) a b = (m : Int) ∧ pathI (treeP L) (m : Int) = r ∧ p[r.length]? = some x ∧ q[r.length]? = some y ∧ x ≠ y ∧ beginsB (p.take r.length) q = true ∧ r.length < p.length ∧ r.length < q.length ∧ prefI (treeP L) a b = decide (i < k) := by
  obtain ⟨h1, h2, h3, h4, h5⟩ := bcode_good h
  obtain ⟨p, q, r, m, e1, e2, e3, e4, e5, e6, e7, e8, e9, e10, e11, e12⟩ := good_pair h4 h3 h1 h5 hik hi hk
  have x1 := List.getElem?_eq_getElem e9
  have y1 := List.getElem?_eq_getElem e10
  refine ⟨p, q, r, m, _, _, e1, e2, e3, e4, by rw [meet_nat e3 e4]; exact e5, path_nat e6, x1, y1, fun e => e11 (by rw [x1, y1, e]), ?_, e9, e10, by rw [pref_nat (tree_ok L h4) e3 e4]; exact e12⟩
  unfold beginsB
  refine decide_eq_true ?_
  rw [← List.prefix_iff_eq_take.1 e7]
  exact e8
end Go.Proofs.YtpploljennbpdaaDoor
