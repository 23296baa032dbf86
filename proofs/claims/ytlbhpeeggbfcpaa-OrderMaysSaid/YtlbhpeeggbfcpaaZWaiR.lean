/- A heap of numbers in plain words: swaps on the way up and on the way down; the least one stands first. -/
import Derived.Test.YtlbhpeeggbfcpaaZBasA
set_option linter.unusedSimpArgs false
set_option linter.unusedVariables false
set_option linter.unnecessarySimpa false
namespace Go.Proofs.Ytlbhpeeggbfcpaa

/-- The number at a place. -/
def gv (l : List Int) (k : Nat) : Int := (l[k]?).getD 0
theorem gv_some {l : List Int} {k : Nat} {x : Int} (h : l[k]? = some x) : gv l k = x := by unfold gv; rw [h]; rfl
theorem gv_set {l : List Int} {i : Nat} {x : Int} (h : i < l.length) (k : Nat) : gv (l.set i x) k = if k = i then x else gv l k := by
  unfold gv
  by_cases hk : k = i
  · rw [if_pos hk, hk, List.getElem?_set_self h]; rfl
  · rw [if_neg hk, List.getElem?_set_ne (Ne.symm hk)]
theorem gv_swap {l : List Int} {i j : Nat} {x y : Int} (hi : i < l.length) (hj : j < l.length) (k : Nat) : gv ((l.set i y).set j x) k = if k = j then x else if k = i then y else gv l k := by
  rw [gv_set (by rw [List.length_set]; exact hj), gv_set hi]
theorem perm_swap {l : List Int} {i j : Nat} {x y : Int} (hi : l[i]? = some x) (hj : l[j]? = some y) (hne : i ≠ j) : ((l.set i y).set j x).Perm l := by
  have hil := (List.getElem?_eq_some_iff.1 hi).1
  have hjl := (List.getElem?_eq_some_iff.1 hj).1
  rw [List.perm_iff_count]
  intro a
  rw [List.count_set (by rw [List.length_set]; exact hjl), List.count_set hil]
  have e1 : (l.set i y)[j]'(by rw [List.length_set]; exact hjl) = y := by
    rw [List.getElem_set_ne hne]
    exact (List.getElem?_eq_some_iff.1 hj).2
  have e2 : l[i] = x := (List.getElem?_eq_some_iff.1 hi).2
  rw [e1, e2]
  have h1 : (if (x == a) = true then 1 else 0) ≤ l.count a := by
    split
    · next h =>
      have : x = a := by simpa using h
      rw [← this]
      exact List.one_le_count_iff.2 (List.mem_of_getElem? hi)
    · omega
  generalize (if (x == a) = true then 1 else 0) = c at *
  generalize (if (y == a) = true then 1 else 0) = d at *
  omega
/-- The order of a heap, among the first n. -/
def HO (l : List Int) (n : Nat) : Prop := ∀ k, 0 < k → k < n → gv l ((k - 1) / 2) ≤ gv l k
theorem HO.least {l : List Int} {n : Nat} (h : HO l n) : ∀ k, k < n → gv l 0 ≤ gv l k := by
  intro k
  induction k using Nat.strongRecOn with
  | _ k ih =>
    intro hk
    by_cases h0 : k = 0
    · rw [h0]; exact Int.le_refl _
    · exact Int.le_trans (ih ((k - 1) / 2) (by omega) (by omega)) (h k (by omega) hk)
/-- On the way up: in order but at one place. -/
structure UpR (L : List Int) (l : List Int) (j : Nat) : Prop where
  perm : l.Perm L
  rest : ∀ k, 0 < k → k < l.length → k ≠ j → gv l ((k - 1) / 2) ≤ gv l k
  over : ∀ k, 0 < k → k < l.length → (k - 1) / 2 = j → 0 < j → gv l ((j - 1) / 2) ≤ gv l k
theorem UpR.start {l : List Int} {x : Int} (h : HO l l.length) : UpR (l ++ [x]) (l ++ [x]) l.length := by
  have hg : ∀ k, k < l.length → gv (l ++ [x]) k = gv l k := fun k hk => by unfold gv; rw [List.getElem?_append_left hk]
  refine ⟨List.Perm.refl _, fun k h0 hk hne => ?_, fun k h0 hk he _ => ?_⟩
  · rw [List.length_append, List.length_singleton] at hk
    rw [hg k (by omega), hg _ (by omega)]
    exact h k h0 (by omega)
  · rw [List.length_append, List.length_singleton] at hk
    omega
theorem UpR.step {L : List Int} (l : List Int) (j : Nat) (x y : Int) (h : UpR L l j) (h0 : 0 < j) (hx : l[j]? = some x) (hy : l[(j - 1) / 2]? = some y) (hlt : x < y) : UpR L ((l.set ((j - 1) / 2) x).set j y) ((j - 1) / 2) := by
  have hjl := (List.getElem?_eq_some_iff.1 hx).1
  have hpl := (List.getElem?_eq_some_iff.1 hy).1
  have gx := gv_some hx
  have gy := gv_some hy
  have hs : ∀ k, gv ((l.set ((j - 1) / 2) x).set j y) k = if k = j then y else if k = (j - 1) / 2 then x else gv l k := fun k => gv_swap hpl hjl k
  refine ⟨(perm_swap hy hx (by omega)).trans h.perm, fun k hk0 hk hne => ?_, fun k hk0 hk he hp0 => ?_⟩
  · rw [List.length_set, List.length_set] at hk
    rw [hs, hs]
    by_cases e1 : k = j
    · rw [if_pos e1, e1, if_neg (by omega), if_pos rfl]; omega
    · rw [if_neg e1, if_neg hne]
      by_cases e2 : (k - 1) / 2 = j
      · rw [if_pos e2, ← gy]
        exact h.over k hk0 hk e2 h0
      · rw [if_neg e2]
        have hr := h.rest k hk0 hk e1
        by_cases e3 : (k - 1) / 2 = (j - 1) / 2
        · rw [if_pos e3]
          rw [e3, gy] at hr
          omega
        · rw [if_neg e3]
          exact hr
  · rw [List.length_set, List.length_set] at hk
    rw [hs, hs, if_neg (by omega), if_neg (by omega)]
    have hpp := h.rest ((j - 1) / 2) hp0 hpl (by omega)
    by_cases e1 : k = j
    · rw [if_pos e1, ← gy]
      exact hpp
    · rw [if_neg e1, if_neg (by omega)]
      have := h.rest k hk0 hk e1
      rw [he] at this
      exact Int.le_trans hpp this
theorem UpR.done {L l : List Int} {j : Nat} (h : UpR L l j) (hj : j = 0 ∨ ∃ x y, l[j]? = some x ∧ l[(j - 1) / 2]? = some y ∧ ¬ x < y) : HO l l.length := by
  intro k h0 hk
  by_cases e : k = j
  · rcases hj with e0 | ⟨x, y, hx, hy, hn⟩
    · omega
    · rw [e, gv_some hx, gv_some hy]; omega
  · exact h.rest k h0 hk e
/-- On the way down: in order among the first n, but at one place. -/
structure DownR (L : List Int) (n : Nat) (l : List Int) (i : Nat) : Prop where
  perm : l.Perm L
  same : ∀ k, n ≤ k → l[k]? = L[k]?
  rest : ∀ k, 0 < k → k < n → (k - 1) / 2 ≠ i → gv l ((k - 1) / 2) ≤ gv l k
  over : ∀ k, 0 < k → k < n → (k - 1) / 2 = i → 0 < i → gv l ((i - 1) / 2) ≤ gv l k
theorem DownR.step {L : List Int} {n : Nat} (l : List Int) (i j : Nat) (x y : Int) (h : DownR L n l i) (hx : l[i]? = some x) (hle : (l[j]? = some y ∧ (j = 2 * i + 1 ∨ j = 2 * i + 2) ∧ j < n ∧ ∀ k z, (k = 2 * i + 1 ∨ k = 2 * i + 2) → k < n → l[k]? = some z → y ≤ z)) (hn : n ≤ l.length) (hlt : y < x) : DownR L n ((l.set i y).set j x) j := by
  obtain ⟨hy, hc, hjn, hm⟩ := hle
  have hjl := (List.getElem?_eq_some_iff.1 hy).1
  have hil := (List.getElem?_eq_some_iff.1 hx).1
  have gx := gv_some hx
  have gy := gv_some hy
  have hs : ∀ k, gv ((l.set i y).set j x) k = if k = j then x else if k = i then y else gv l k := fun k => gv_swap hil hjl k
  refine ⟨(perm_swap hx hy (by omega)).trans h.perm, fun k hk => ?_, fun k hk0 hk hne => ?_, fun k hk0 hk he hp0 => ?_⟩
  · rw [List.getElem?_set_ne (by omega), List.getElem?_set_ne (by omega)]
    exact h.same k hk
  · rw [hs, hs]
    by_cases e1 : k = j
    · rw [if_pos e1, if_neg hne, if_pos (by omega)]; omega
    · rw [if_neg e1, if_neg hne]
      by_cases e2 : (k - 1) / 2 = i
      · rw [if_pos e2]
        rw [if_neg (by omega)]
        refine hm k (gv l k) (by omega) hk ?_
        unfold gv
        rw [List.getElem?_eq_getElem (by omega)]
        rfl
      · rw [if_neg e2]
        have hr := h.rest k hk0 hk e2
        by_cases e3 : k = i
        · rw [if_pos e3]
          rw [← gy]
          rw [e3] at hk0 ⊢
          exact h.over j (by omega) hjn (by omega) hk0
        · rw [if_neg e3]
          exact hr
  · rw [hs, hs]
    rw [if_neg (by omega), if_pos (by omega), if_neg (by omega), if_neg (by omega), ← gy]
    have := h.rest k hk0 hk (by omega)
    rw [he] at this
    exact this
theorem DownR.done {L l : List Int} {n i : Nat} (h : DownR L n l i) (hj : n ≤ 2 * i + 1 ∨ ∃ x, l[i]? = some x ∧ ∃ j y, (l[j]? = some y ∧ (j = 2 * i + 1 ∨ j = 2 * i + 2) ∧ j < n ∧ ∀ k z, (k = 2 * i + 1 ∨ k = 2 * i + 2) → k < n → l[k]? = some z → y ≤ z) ∧ x ≤ y) (hn : n ≤ l.length) : HO l n := by
  intro k h0 hk
  by_cases e : (k - 1) / 2 = i
  · rcases hj with e0 | ⟨x, hx, j, y, ⟨hy, hc, hjn, hm⟩, hn2⟩
    · omega
    · rw [e, gv_some hx]
      refine Int.le_trans hn2 (hm k (gv l k) (by omega) hk ?_)
      unfold gv
      rw [List.getElem?_eq_getElem (by omega)]
      rfl
  · exact h.rest k h0 hk e
/-- The first and the last swapped: all but the first is in order. -/
theorem DownR.start {l : List Int} {x y : Int} {n : Nat} (h : HO l l.length) (hn : l.length = n + 1) (hx : l[0]? = some x) (hy : l[n]? = some y) : DownR ((l.set 0 y).set n x) n ((l.set 0 y).set n x) 0 := by
  have hs : ∀ k, gv ((l.set 0 y).set n x) k = if k = n then x else if k = 0 then y else gv l k := fun k => gv_swap (by omega) (by omega) k
  refine ⟨List.Perm.refl _, fun _ _ => rfl, fun k h0 hk hne => ?_, fun k h0 hk he hp => by omega⟩
  rw [hs, hs, if_neg (by omega), if_neg (by omega), if_neg (by omega), if_neg (by omega)]
  exact h k h0 (by omega)
theorem perm_swap0 {l : List Int} {x y : Int} {n : Nat} (hx : l[0]? = some x) (hy : l[n]? = some y) : ((l.set 0 y).set n x).Perm l := by
  by_cases h : n = 0
  · subst h
    rw [hx] at hy
    obtain rfl := Option.some.inj hy
    rw [List.set_set]
    cases l with
    | nil => cases hx
    | cons a l =>
      have : a = x := by simpa using hx
      rw [this]
      exact List.Perm.refl _
  · exact perm_swap hx hy (Ne.symm h)
end Go.Proofs.Ytlbhpeeggbfcpaa
