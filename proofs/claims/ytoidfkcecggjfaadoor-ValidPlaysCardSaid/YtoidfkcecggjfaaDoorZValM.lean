/- What is OK at a time and later, in plain words; the rows of the law's texts. -/
import Derived.Test.YtoidfkcecggjfaaDoorZValK
import Derived.Test.YtoidfkcecggjfaaDoorZValL
set_option linter.unusedSimpArgs false
set_option linter.unusedVariables false
set_option linter.unnecessarySimpa false
namespace Go.Proofs.YtoidfkcecggjfaaDoor
open Go.RowKit Go.Shelf

/-- Nothing was wrong with since: the number stands, and nothing behind it meets what was read. -/
theorem check_ok {C : List (List K)} {s : Nat} {R : List K} (hs : s ≤ C.length) : checkR 0 C s R = if hitP (C.drop s) R = none then 0 else 23 := by
  have h1 : ¬ ((s : Int) < 0 ∨ ((0 : Nat) : Int) + (C.length : Int) < (s : Int)) := by omega
  have h2 : ¬ (s : Int) < ((0 : Nat) : Int) := by omega
  unfold checkR firstR
  rw [if_neg h1, if_neg h2]
  simp only [Int.toNat_natCast, Nat.sub_zero]
  cases hitP (C.drop s) R with
  | none => rfl
  | some i =>
    have h3 : 0 < (s : Int) + (i : Int) + 1 := by omega
    simp [h3]
theorem hit_none {C : List (List K)} {R : List K} : hitP C R = none ↔ ∀ ks ∈ C, meets ks R = false := by
  unfold hitP
  rw [List.findIdx?_eq_none_iff]
theorem later_ok {C D : List (List K)} {s : Nat} {R : List K} (hs : s ≤ C.length) :
    (checkR 0 (C ++ D) s R = 0) ↔ (checkR 0 C s R = 0 ∧ checkR 0 (C ++ D) (C.length : Nat) R = 0) := by
  rw [check_ok (by rw [List.length_append]; omega), check_ok hs, check_ok (by rw [List.length_append]; omega), List.drop_append_of_le_length hs, List.drop_append_of_le_length (Nat.le_refl _), List.drop_length]
  have e1 : hitP (C.drop s ++ D) R = none ↔ hitP (C.drop s) R = none ∧ hitP ([] ++ D) R = none := by
    rw [hit_none, hit_none, hit_none]
    simp only [List.nil_append, List.mem_append]
    exact ⟨fun h => ⟨fun k hk => h k (.inl hk), fun k hk => h k (.inr hk)⟩, fun ⟨h1, h2⟩ k hk => hk.elim (h1 k) (h2 k)⟩
  by_cases a : hitP (C.drop s) R = none <;> by_cases b : hitP ([] ++ D) R = none
  · rw [if_pos (e1.2 ⟨a, b⟩), if_pos a, if_pos b]; simp
  · rw [if_neg (fun h => b (e1.1 h).2), if_pos a, if_neg b]; simp
  · rw [if_neg (fun h => a (e1.1 h).1), if_neg a, if_pos b]; simp
  · rw [if_neg (fun h => a (e1.1 h).1), if_neg a, if_neg b]; simp
theorem check_two {C : List (List K)} {s : Nat} {R : List K} (hs : s ≤ C.length) : checkR 0 C s R = 0 ∨ checkR 0 C s R = 23 := by
  rw [check_ok hs]
  split
  · exact .inl rfl
  · exact .inr rfl
theorem later_cases {C D : List (List K)} {s N : Nat} {R : List K} (hN : C.length = N) (hs : s ≤ N) : ∃ x y z : Int, checkR 0 C s R = x ∧ checkR 0 (C ++ D) (N : Nat) R = y ∧ checkR 0 (C ++ D) s R = z ∧ ((x = 0 ∧ y = 0 ∧ z = 0) ∨ (x = 0 ∧ y = 23 ∧ z = 23) ∨ (x = 23 ∧ y = 0 ∧ z = 23) ∨ (x = 23 ∧ y = 23 ∧ z = 23)) := by
  subst hN
  have h := later_ok (D := D) (R := R) hs
  refine ⟨_, _, _, rfl, rfl, rfl, ?_⟩
  rcases check_two (R := R) hs with a | a <;> rcases check_two (C := C ++ D) (s := C.length) (R := R) (by rw [List.length_append]; omega) with b | b <;> rcases check_two (C := C ++ D) (s := s) (R := R) (by rw [List.length_append]; omega) with c | c <;> simp [a, b, c] at h ⊢
theorem tmod_cases (c : Int) (N : Nat) (hN : 0 < N) : ∃ m : Nat, m < N ∧ (c.tmod N = (m : Int) ∨ (0 < m ∧ c.tmod N = -(m : Int))) := by
  have h2 : (c.tmod N).natAbs < N := by
    rw [Int.natAbs_tmod]
    exact Nat.mod_lt _ (by simpa using hN)
  rcases Int.lt_or_le (c.tmod N) 0 with h | h
  · exact ⟨(c.tmod N).natAbs, h2, .inr ⟨by omega, by omega⟩⟩
  · exact ⟨(c.tmod N).natAbs, h2, .inl (by omega)⟩
theorem cut_cases (c : Int) (n : Nat) : ∃ i : Nat, i ≤ n ∧ (c.tmod ((n : Int) + 1) = (i : Int) ∨ (0 < i ∧ c.tmod ((n : Int) + 1) = -(i : Int))) := by
  obtain ⟨m, hm, h⟩ := tmod_cases c (n + 1) (by omega)
  exact ⟨m, by omega, by simpa using h⟩
theorem Run.now0 {w0 w : World} {h : Nat} {C : List (List K)} {bx : List (Nat × Obj)} (hr : Run w0 w h 0 C bx) {N : Nat} (hN : C.length = N) :
    Calls Tryd.prog 8 #[.pointer (some ⟨h, 0, none⟩)] w fun e w' => e = .returned (.int .i64 N) ∧ Run w0 w' h 0 C bx := by
  subst hN
  exact hr.now.mono fun e w' h => ⟨by rw [h.1]; simp, h.2.1⟩
/-- What the first k rows add. -/
def addsP (LL : List (List K)) (k : Nat) : List (List K) := (LL.take (min k 10)).map fun ks => rises (someP ks)
theorem adds_len (LL : List (List K)) (k : Nat) : (addsP LL k).length ≤ 10 := by
  unfold addsP
  rw [List.length_map, List.length_take]
  omega
theorem adds_in {LL : List (List K)} {k : Nat} {ks : List K} (h : LL[k]? = some ks) (hk : k < 10) : addsP LL (k + 1) = addsP LL k ++ [rises (someP ks)] := by
  unfold addsP
  rw [Nat.min_eq_left (by omega : k + 1 ≤ 10), Nat.min_eq_left (by omega : k ≤ 10), List.take_add_one, h]
  simp
theorem adds_out {LL : List (List K)} {k : Nat} (hk : ¬ k < 10) : addsP LL (k + 1) = addsP LL k := by
  unfold addsP
  rw [Nat.min_eq_right (by omega : 10 ≤ k + 1), Nat.min_eq_right (by omega : 10 ≤ k)]
/-- A slice of such slices that was given. -/
def TxtsIs (w : World) (v : Value) (LL : List (List K)) : Prop := ∃ A cap, v = .slice A LL.length cap ∧ LL.length ≤ cap ∧ cap ≤ maxLen ∧ ∀ i ks, LL[i]? = some ks → ∃ (a : Addr) (u : Value), A = some a ∧ a.block < w.heap.size ∧ w.cell? (a.add i) = some u ∧ TxtIs w u ks
theorem TxtsIs.below {w w' : World} {v : Value} {LL : List (List K)} (h : TxtsIs w v LL) (hb : Below w.heap.size w w') : TxtsIs w' v LL := by
  obtain ⟨A, cap, rfl, h1, h2, h3⟩ := h
  refine ⟨A, cap, rfl, h1, h2, fun i ks hi => ?_⟩
  obtain ⟨a, u, rfl, hlt, hc, ht⟩ := h3 i ks hi
  have hs := hb.size
  exact ⟨a, u, rfl, by omega, (hb.cell (p := a.add i) (by rw [add_block]; exact hlt)).trans hc, ht.below hb⟩
/-- A row of one's own in new blocks: a box of the history. -/
theorem Run.row {w0 w w' : World} {h F : Nat} {C : List (List K)} {bx : List (Nat × Obj)} {v : Value} {l : List K} (hr : Run w0 w h F C bx) (hb : Below w.heap.size w w') (hrow : RowIs w' 1 v l.length (strs l)) (ho : ∀ b, v.ownBlock = some b → w.heap.size ≤ b) :
    ∃ bx', Run w0 w' h F C bx' ∧ ∀ W : World, (∀ p ∈ bx', W.heap[p.1]? = some p.2) → RowIs W 1 v l.length (strs l) := by
  have h2 := hr.keep hb
  rcases hrow with ⟨rfl, h3, h4⟩ | ⟨g, cap, rfl, h3, h4, hc⟩
  · exact ⟨bx, h2, fun W _ => .inl ⟨rfl, h3, h4⟩⟩
  · obtain ⟨o, hg⟩ : ∃ o, w'.heap[g]? = some o := ⟨_, Array.getElem?_eq_getElem hc.lt⟩
    have hge : w.heap.size ≤ g := ho g rfl
    obtain ⟨v0, vs, a, b, c, d⟩ := hr.hist
    have hl := heap_lt a.head
    have hs := hr.below.size
    obtain ⟨v1, vs1, a1, b1, c1, d1⟩ := h2.hist
    refine ⟨(g, o) :: bx, ⟨h2.g0, ⟨v0, vs, a.below hb, b, c, fun p hp => ?_⟩, h2.hb, h2.below, fun p hp => ?_⟩, fun W hW => ?_⟩
    · rcases List.mem_cons.1 hp with rfl | hp
      · exact fun e => by have := RowIs.lt a.row _ e; omega
      · exact d p hp
    · rcases List.mem_cons.1 hp with rfl | hp
      · exact ⟨hg, by show g ≠ h; omega, by show w0.heap.size ≤ g; omega⟩
      · exact h2.box p hp
    · have hW' := hW (g, o) (List.mem_cons_self)
      have hk : W.heap[g]? = w'.heap[g]? := by rw [hg]; exact hW'
      exact .inr ⟨g, cap, rfl, h3, h4, heap_lt hW', hc.le, hc.max, fun j b hj => by rw [World.cell?_of_block (a := ⟨g, j, none⟩) hk]; exact hc.holds j b hj, fun j hj => by rw [World.cell?_of_block (a := ⟨g, j, none⟩) hk, World.frozen?_of_block (a := ⟨g, j, none⟩) hk]; exact hc.there j hj⟩
end Go.Proofs.YtoidfkcecggjfaaDoor
