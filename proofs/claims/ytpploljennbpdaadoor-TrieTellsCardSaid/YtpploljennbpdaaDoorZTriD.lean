/- trie in memory: nodes; whether there is a node, whether it is a leaf. -/
import Derived.Test.YtpploljennbpdaaDoorProg
import Derived.Test.YtpploljennbpdaaDoorZTriC
import Derived.Test.YtpploljennbpdaaDoorZWaiA
import Derived.Test.YtpploljennbpdaaDoorZTak
import Derived.RangeFuncNested
import Derived.RangeFuncBound
import Derived.RangeFuncCalls
import Derived.RangeFuncLeaves
import Derived.RangeFuncFrom
import Derived.RangeFuncWrites
import Derived.Shelf.Abstract
import Derived.Shelf.RegionOpen
import Derived.WalkKit
import Derived.OwnWalkIn
import Derived.TacticsInMore
import Derived.LoopNIn
import Derived.LoopIn
set_option linter.unusedSimpArgs false
set_option linter.unusedVariables false
set_option linter.unnecessarySimpa false
namespace Go.Proofs.YtpploljennbpdaaDoor
open Go.RowKit

/-- A slice of whole numbers, wherever it lies. -/
def SIs (w : World) (v : Value) (l : List Int) : Prop := ∃ A cap, v = .slice A l.length cap ∧ l.length ≤ cap ∧ cap ≤ maxLen ∧ ∀ (i : Nat) (x : Int), l[i]? = some x → ∃ a : Addr, A = some a ∧ a.block < w.heap.size ∧ w.cell? (a.add i) = some (.int .i64 x)
theorem SIs.below {w w' : World} {v : Value} {l : List Int} (h : SIs w v l) (hb : Below w.heap.size w w') : SIs w' v l := by
  obtain ⟨A, cap, e, h1, h2, h3⟩ := h
  refine ⟨A, cap, e, h1, h2, fun i x hx => ?_⟩
  obtain ⟨a, ea, hl, hc⟩ := h3 i x hx
  exact ⟨a, ea, Nat.lt_of_lt_of_le hl hb.size, (hb.cell (p := a.add i) (by rw [add_block]; exact hl)).trans hc⟩
theorem heap_lt' {w : World} {g j : Nat} {u : Value} (h : w.cell? ⟨g, j, none⟩ = some u) : g < w.heap.size := by
  unfold World.cell? at h
  by_cases hl : g < w.heap.size
  · exact hl
  · simp [Array.getElem?_eq_none (show w.heap.size ≤ g by omega)] at h
theorem RowIs.sis {w : World} {v : Value} {l : List Int} (h : RowIs w 1 v l.length (ints l)) : SIs w v l := by
  obtain ⟨A, cap, rfl, h1, h2, _, hA, hc⟩ := h.form
  refine ⟨A, cap, rfl, h1, h2, fun i x hx => ?_⟩
  obtain ⟨g, rfl, hk⟩ := hc i (.int .i64 x) (by unfold ints; rw [List.getElem?_map, hx]; rfl)
  exact ⟨⟨g, 0, none⟩, rfl, heap_lt' hk, by rw [add0]; exact hk⟩
/-- Numbers of nodes, as whole numbers. -/
def natI (l : List Nat) : List Int := l.map fun (n : Nat) => (n : Int)
theorem natI_len (l : List Nat) : (natI l).length = l.length := by unfold natI; rw [List.length_map]
theorem natI_snoc (l : List Nat) (n : Nat) : natI (l ++ [n]) = natI l ++ [(n : Int)] := by unfold natI; rw [List.map_append]; rfl
theorem natI_at {l : List Nat} {i n : Nat} (h : l[i]? = some n) : (ints (natI l))[i]? = some (.int .i64 (n : Int)) := by unfold ints natI; rw [List.getElem?_map, List.getElem?_map, h]; rfl
/-- A node in memory: its last element, the node ahead, the kids' slice. -/
structure Nd where
  s : Int
  u : Int
  k : Value
def encN (x : Nd) : List Value := [.int .i64 x.s, .int .i64 x.u, x.k]
def ndC (N : List Nd) : List Value := N.flatMap encN
theorem ndC_len (N : List Nd) : (ndC N).length = N.length * 3 := by
  unfold ndC
  induction N with
  | nil => rfl
  | cons x N ih => rw [List.flatMap_cons, List.length_append, ih, List.length_cons]; show 3 + _ = _; omega
theorem ndC_snoc (N : List Nd) (x : Nd) : ndC (N ++ [x]) = ndC N ++ encN x := by unfold ndC; rw [List.flatMap_append]; simp
theorem ndC_at : ∀ {N : List Nd} {i : Nat} {x : Nd}, N[i]? = some x → (ndC N)[i * 3]? = some (.int .i64 x.s) ∧ (ndC N)[i * 3 + 1]? = some (.int .i64 x.u) ∧ (ndC N)[i * 3 + 2]? = some x.k
  | [], _, _, h => by cases h
  | y :: N, 0, x, h => by cases h; exact ⟨rfl, rfl, rfl⟩
  | y :: N, i + 1, x, h => by
    obtain ⟨h1, h2, h3⟩ := ndC_at (N := N) (i := i) (x := x) h
    have e : ndC (y :: N) = encN y ++ ndC N := rfl
    rw [e]
    have hl : (encN y).length = 3 := rfl
    refine ⟨?_, ?_, ?_⟩
    · rw [List.getElem?_append_right (by omega), ← h1]; congr 1; omega
    · rw [List.getElem?_append_right (by omega), ← h2]; congr 1; omega
    · rw [List.getElem?_append_right (by omega), ← h3]; congr 1; omega
theorem ndC_set : ∀ {N : List Nd} {i : Nat} {x : Nd} (k : Value), N[i]? = some x → (ndC N).set (i * 3 + 2) k = ndC (N.set i { x with k := k })
  | [], _, _, _, h => by cases h
  | y :: N, 0, x, k, h => by cases h; rfl
  | y :: N, i + 1, x, k, h => by
    have ih := ndC_set (N := N) (i := i) (x := x) k h
    show (encN y ++ ndC N).set _ k = encN y ++ ndC (N.set i _)
    have hl : (encN y).length = 3 := rfl
    rw [List.set_append_right _ _ (by omega), ← ih]
    congr 2
    omega
/-- The last element of a node. -/
def subP (P : List Pth) (n : Nat) : Int := match P[n]? with | some p => p.getLast?.getD (-1) | none => -1
/-- A tree in memory. -/
structure TrAt (w : World) (v : Value) (N : List Nd) (P : List Pth) : Prop where
  tree : TreeP P
  row : RowIs w 3 v P.length (ndC N)
  len : N.length = P.length
  nums : ∀ (i : Nat) (x : Nd), N[i]? = some x → x.s = subP P i ∧ x.u = upP P i
  kid : ∀ (i : Nat) (x : Nd), N[i]? = some x → RowIs w 1 x.k (kidsP P i).length (ints (natI (kidsP P i)))
  off : ∀ (i : Nat) (x : Nd) (g : Nat), N[i]? = some x → x.k.ownBlock = some g → v.ownBlock ≠ some g
  apart : ∀ (i j : Nat) (x y : Nd) (g : Nat), N[i]? = some x → N[j]? = some y → x.k.ownBlock = some g → y.k.ownBlock = some g → i = j
/-- The blocks of a tree. -/
def TrOwn (v : Value) (N : List Nd) (g : Nat) : Prop := v.ownBlock = some g ∨ ∃ x ∈ N, x.k.ownBlock = some g
theorem TrAt.touch {S : Nat → Prop} {w w' : World} {v : Value} {N : List Nd} {P : List Pth} (h : TrAt w v N P) (hb : Touch S w w') (hS : ∀ g, TrOwn v N g → ¬ S g) : TrAt w' v N P :=
  ⟨h.tree, h.row.touch hb (fun g hg => hS g (.inl hg)), h.len, h.nums, fun i x hx => (h.kid i x hx).touch hb (fun g hg => hS g (.inr ⟨x, List.mem_of_getElem? hx, hg⟩)), h.off, h.apart⟩
theorem TrAt.below {w w' : World} {v : Value} {N : List Nd} {P : List Pth} (h : TrAt w v N P) (hb : Below w.heap.size w w') : TrAt w' v N P :=
  h.touch (S := fun _ => False) (.of_below hb) (fun _ _ e => e)
theorem TrAt.own_lt {w : World} {v : Value} {N : List Nd} {P : List Pth} (h : TrAt w v N P) : ∀ g, TrOwn v N g → g < w.heap.size := fun g hg => by
  rcases hg with hg | ⟨x, hx, hg⟩
  · exact h.row.lt g hg
  · obtain ⟨i, hi⟩ := List.getElem?_of_mem hx
    exact (h.kid i x hi).lt g hg
theorem TrAt.pos {w : World} {v : Value} {N : List Nd} {P : List Pth} (h : TrAt w v N P) : 0 < P.length := (List.getElem?_eq_some_iff.1 h.tree.root).1
/-- The cells of a node. -/
theorem TrAt.cells {w : World} {A : Option Addr} {n cap : Nat} {N : List Nd} {P : List Pth} (h : TrAt w (.slice A n cap) N P) {i : Nat} (hi : i < P.length) :
    ∃ (g : Nat) (x : Nd), A = some ⟨g, 0, none⟩ ∧ N[i]? = some x ∧ x.s = subP P i ∧ x.u = upP P i ∧ w.cell? ⟨g, i * 3, none⟩ = some (.int .i64 (subP P i)) ∧ w.cell? ⟨g, i * 3 + 1, none⟩ = some (.int .i64 (upP P i)) ∧ w.cell? ⟨g, i * 3 + 2, none⟩ = some x.k ∧ RowIs w 1 x.k (kidsP P i).length (ints (natI (kidsP P i))) := by
  have hx : N[i]? = some (N[i]'(by rw [h.len]; exact hi)) := List.getElem?_eq_getElem _
  generalize N[i]'(by rw [h.len]; exact hi) = x at hx
  obtain ⟨c0, c1, c2⟩ := ndC_at hx
  obtain ⟨_, _, e', _, _, _, _, hc⟩ := h.row.form
  injection e' with e1 e2 e3
  subst e1 e2 e3
  obtain ⟨g, rfl, k0⟩ := hc _ _ c0
  obtain ⟨g1, eg1, k1⟩ := hc _ _ c1
  injection eg1 with eg1
  injection eg1 with eg1
  subst eg1
  obtain ⟨g2, eg2, k2⟩ := hc _ _ c2
  injection eg2 with eg2
  injection eg2 with eg2
  subst eg2
  obtain ⟨n1, n2⟩ := h.nums i x hx
  exact ⟨g, x, rfl, hx, n1, n2, by rw [← n1]; exact k0, by rw [← n2]; exact k1, k2, h.kid i x hx⟩
theorem TrAt.form {w : World} {v : Value} {N : List Nd} {P : List Pth} (h : TrAt w v N P) : ∃ g cap, v = .slice (some ⟨g, 0, none⟩) P.length cap ∧ P.length ≤ cap ∧ cap ≤ maxLen ∧ v.ownBlock = some g := by
  obtain ⟨A, cap, rfl, h1, h2, _, hA, _⟩ := h.row.form
  obtain ⟨g, x, rfl, _⟩ := h.cells h.pos
  obtain ⟨g2, e2, ho⟩ := hA _ rfl
  injection e2 with e2
  subst e2
  exact ⟨g, cap, rfl, h1, h2, ho⟩
set_option maxRecDepth 100000 in
set_option maxHeartbeats 2000000 in
theorem has_any {w : World} {A : Option Addr} {n cap : Nat} (m : Int) (hn : n ≤ 1000) : Calls Tryd.prog 36 #[.agg #[.slice A n cap], .int .i64 m] w fun e w' => e = .returned (.bool (decide (0 ≤ m ∧ m < (n : Int)))) ∧ w' = w.alloc (.cells #[.slice A n cap] 27) := by
  by_cases h0 : 0 ≤ m
  · obtain ⟨q, hq⟩ : ∃ q : Bool, decide (m < (n : Int)) = q := ⟨_, rfl⟩
    have HQ : Hid (decide (0 ≤ m ∧ m < (n : Int)) = q) := Lib.hid (by rw [← hq]; simp [h0])
    have h1 : decide (0 ≤ m) = true := decide_eq_true h0
    go_enter Tryd.func36, Tryd.ntmps36
    go_wp2_with fail
    refine bodyPost_ret (v := .bool q) (by simp [results, Tryd.results36, go_sem, hq]) rfl ⟨by rw [HQ.out], rfl⟩
  · have HQ : Hid (decide (0 ≤ m ∧ m < (n : Int)) = false) := Lib.hid (by simp [h0])
    have h1 : decide (0 ≤ m) = false := decide_eq_false h0
    go_enter Tryd.func36, Tryd.ntmps36
    go_wp2_with fail
    refine bodyPost_ret (v := .bool false) (by simp [results, Tryd.results36, go_sem]) rfl ⟨by first | rfl | rw [HQ.out], rfl⟩
/-- Is there such a node, without kids? -/
def leafB (P : List Pth) (m : Int) : Bool := decide (0 ≤ m ∧ m < (P.length : Int)) && (kidsP P m.toNat).isEmpty
theorem leafB_out {P : List Pth} {m : Int} (h : decide (0 ≤ m ∧ m < (P.length : Int)) = false) : leafB P m = false := by unfold leafB; rw [h]; rfl
theorem leafB_in {P : List Pth} {i : Nat} (h : i < P.length) : leafB P (i : Int) = (kidsP P i).isEmpty := by
  unfold leafB
  rw [decide_eq_true (show (0 : Int) ≤ (i : Int) ∧ (i : Int) < (P.length : Int) from ⟨by omega, by omega⟩), Bool.true_and, Int.toNat_natCast]
set_option maxRecDepth 100000 in
set_option maxHeartbeats 2000000 in
theorem Leaf_any {w : World} {v : Value} {N : List Nd} {P : List Pth} (m : Int) (h : TrAt w v N P) (hn : P.length ≤ 1000) : Calls Tryd.prog 18 #[.agg #[v], .int .i64 m] w fun e w' => e = .returned (.bool (leafB P m)) ∧ Below w.heap.size w w' := by
  obtain ⟨g, cap, rfl, h1, h2, ho⟩ := h.form
  unfold maxLen at h2
  have hbn := below_new (w := w) (.cells #[.slice (some ⟨g, 0, none⟩) P.length cap] 27)
  have hbn2 := below_new (w := w.alloc (.cells #[.slice (some ⟨g, 0, none⟩) P.length cap] 27)) (.cells #[.slice (some ⟨g, 0, none⟩) P.length cap] 27)
  have hbb := hbn.trans (hbn2.mono hbn.size)
  have HB := Lib.hid hbb
  have HA := Lib.hid (fun W => has_any (w := W) (A := some ⟨g, 0, none⟩) (n := P.length) (cap := cap) m hn)
  have hnI : (P.length : Int) ≤ 1000 := by omega
  by_cases hm : 0 ≤ m ∧ m < (P.length : Int)
  · obtain ⟨i, rfl⟩ : ∃ i : Nat, m = (i : Int) := ⟨m.toNat, by omega⟩
    have hi : i < P.length := by omega
    obtain ⟨g', x, e', hx, _, _, _, _, k2, hk⟩ := (h.below hbb).cells hi
    injection e' with e'
    injection e' with e'
    subst e'
    obtain ⟨ka, kc, hkv, hk1, hk2, _⟩ := hk.form
    rw [hkv] at k2
    unfold maxLen at hk2
    obtain ⟨b, hb⟩ : ∃ b : Bool, (kidsP P i).isEmpty = b := ⟨_, rfl⟩
    have HL : Hid (leafB P (i : Int) = b) := Lib.hid (by rw [leafB_in hi, hb])
    have hd : decide (0 ≤ (i : Int) ∧ (i : Int) < (P.length : Int)) = true := decide_eq_true hm
    have hkb : (((kidsP P i).length : Int) == 0) = b := by
      rw [← hb]
      cases kidsP P i <;> simp
      omega
    generalize (kidsP P i).length = kl at *
    have hiI : (i : Int) < (P.length : Int) := hm.2
    rw [hd] at HA
    clear hm h hk hkv hb hx hbb hbn hbn2 hd hn
    go_enter Tryd.func18, Tryd.ntmps18
    go_wp2_with fail
    refine (HA.out _).mono ?_
    rintro e w1 ⟨rfl, rfl⟩
    go_wp2_with fail
    refine bodyPost_ret (v := .bool b) (by simp [results, Tryd.results18, go_sem]) rfl ⟨by rw [HL.out], HB.out⟩
  · have hd : decide (0 ≤ m ∧ m < (P.length : Int)) = false := decide_eq_false hm
    have HL := Lib.hid (leafB_out hd)
    rw [hd] at HA
    clear hm h hbb hbn hbn2 hd hn
    go_enter Tryd.func18, Tryd.ntmps18
    go_wp2_with fail
    refine (HA.out _).mono ?_
    rintro e w1 ⟨rfl, rfl⟩
    go_wp2_with fail
    refine bodyPost_ret (v := .bool false) (by simp [results, Tryd.results18, go_sem]) rfl ⟨by rw [HL.out], HB.out⟩
end Go.Proofs.YtpploljennbpdaaDoor
