/- What a walk along a graph leaves: all to which it leads, each once. Plain words. -/
import Derived.Test.YtlbhpeeggbfcpaaZWaiE
set_option linter.unusedSimpArgs false
set_option linter.unusedVariables false
set_option linter.unnecessarySimpa false
namespace Go.Proofs.Ytlbhpeeggbfcpaa

theorem hasN_putN (N : Nu) (x y z : Int) : hasN (putN N x y) z = (z == x || hasN N z) := by
  unfold putN
  by_cases h : hasN N x = true
  · rw [if_pos h]
    unfold hasN at h ⊢
    rw [List.any_map]
    have e : (N.any ((fun e => e.1 == z) ∘ fun e => if e.1 = x then (e.1, y) else e)) = N.any fun e => e.1 == z := by
      congr 1
      funext e
      simp only [Function.comp]
      split <;> rfl
    rw [e]
    by_cases hz : z = x
    · rw [hz, h]; simp
    · have : (z == x) = false := by simpa using hz
      rw [this, Bool.false_or]
  · rw [if_neg h]
    unfold hasN
    rw [List.any_append, List.any_cons, List.any_nil, Bool.or_false]
    have : (x == z) = (z == x) := by
      by_cases hz : z = x
      · simp [hz]
      · have h1 : (z == x) = false := by simpa using hz
        have h2 : (x == z) = false := by simpa using fun e : x = z => hz e.symm
        rw [h1, h2]
    rw [this, Bool.or_comm]
theorem hasN_meet (N : Nu) (p : List Int) (x z : Int) : hasN (meetP N p x).1 z = (z == x || hasN N z) := by
  unfold meetP
  split
  · next h =>
    by_cases hz : z = x
    · show hasN N z = _
      rw [hz, h]; simp
    · have : (z == x) = false := by simpa using hz
      rw [this, Bool.false_or]
  · exact hasN_putN _ _ _ _
/-- What holds from step to step. -/
structure DfsI (G : Gr) (P : Int → Prop) (s : Wk) : Prop where
  keys : ∀ y, hasN s.1 y = true ↔ y ∈ s.2.1 ∨ y ∈ s.2.2
  one : (s.2.1 ++ s.2.2).Nodup
  met : ∀ (y : Int) (j : Nat) (z : Int), (j : Int) < getN s.1 y → (at_ G y)[j]? = some z → hasN s.1 z = true
  done : ∀ y ∈ s.2.2, getN s.1 y = (at_ G y).length
  good : ∀ y, hasN s.1 y = true → P y
  inv : InvP G s.1
theorem DfsI.nil (G : Gr) (P : Int → Prop) : DfsI G P ([], [], []) where
  keys := fun y => by simp [hasN]
  one := List.nodup_nil
  met := fun y j z h => by
    have h : (j : Int) < 0 := h
    omega
  done := fun y h => by cases h
  good := fun y h => by simp [hasN] at h
  inv := fun x => by
    have : getN [] x = 0 := rfl
    show 0 ≤ getN [] x ∧ _
    rw [this]
    omega
/-- One is met, at the path's end. -/
theorem DfsI.meet {G : Gr} {P : Int → Prop} {N : Nu} {p l : List Int} (h : DfsI G P (N, p, l)) {x : Int} (hx : P x) : DfsI G P ((meetP N p x).1, (meetP N p x).2, l) := by
  have hg : ∀ y, getN (meetP N p x).1 y = getN N y := fun y => getN_meet _ _ _ _
  have hn : ∀ y, hasN (meetP N p x).1 y = (y == x || hasN N y) := fun y => hasN_meet _ _ _ _
  have hk := h.keys
  refine ⟨fun y => ?_, ?_, fun y j z hj hz => ?_, fun y hy => ?_, fun y hy => ?_, fun y => ?_⟩
  · show hasN (meetP N p x).1 y = true ↔ y ∈ (meetP N p x).2 ∨ y ∈ l
    rw [hn]
    have hky : hasN N y = true ↔ y ∈ p ∨ y ∈ l := hk y
    have hkx : hasN N x = true ↔ x ∈ p ∨ x ∈ l := hk x
    unfold meetP
    by_cases hh : hasN N x = true
    · rw [if_pos hh]
      show _ ↔ y ∈ p ∨ y ∈ l
      rw [← hky]
      by_cases hy : y = x
      · rw [hy, hh]; simp
      · have : (y == x) = false := by simpa using hy
        rw [this, Bool.false_or]
    · rw [if_neg hh]
      show _ ↔ y ∈ p ++ [x] ∨ y ∈ l
      rw [List.mem_append, List.mem_singleton, Bool.or_eq_true, hky, beq_iff_eq]
      constructor
      · rintro (h | h | h)
        · exact .inl (.inr h)
        · exact .inl (.inl h)
        · exact .inr h
      · rintro ((h | h) | h)
        · exact .inr (.inl h)
        · exact .inl h
        · exact .inr (.inr h)
  · show ((meetP N p x).2 ++ l).Nodup
    have ho : (p ++ l).Nodup := h.one
    unfold meetP
    by_cases hh : hasN N x = true
    · rw [if_pos hh]; exact ho
    · rw [if_neg hh]
      show ((p ++ [x]) ++ l).Nodup
      have hkx : ¬ (x ∈ p ∨ x ∈ l) := fun e => hh ((hk x).2 e)
      have hperm : ((p ++ [x]) ++ l).Perm (x :: (p ++ l)) := by
        rw [List.append_assoc]
        exact List.perm_middle
      rw [hperm.nodup_iff, List.nodup_cons, List.mem_append]
      exact ⟨hkx, ho⟩
  · show hasN (meetP N p x).1 z = true
    have hj' : (j : Int) < getN (meetP N p x).1 y := hj
    rw [hg] at hj'
    rw [hn, h.met y j z hj' hz]
    simp
  · show getN (meetP N p x).1 y = _
    rw [hg]
    exact h.done y hy
  · have hy' : hasN (meetP N p x).1 y = true := hy
    rw [hn, Bool.or_eq_true, beq_iff_eq] at hy'
    rcases hy' with e | e
    · rw [e]; exact hx
    · exact h.good y e
  · show 0 ≤ getN (meetP N p x).1 y ∧ getN (meetP N p x).1 y ≤ _
    rw [hg]
    exact h.inv y
/-- A step. -/
theorem DfsI.step {G : Gr} {P : Int → Prop} (hP : ∀ y z, P y → z ∈ at_ G y → P z) {s : Wk} (h : DfsI G P s) : DfsI G P (stepP G s) := by
  obtain ⟨N, p, l⟩ := s
  cases hl : p.getLast? with
  | none =>
    have : stepP G (N, p, l) = (N, p, l) := by unfold stepP; simp only [hl]
    rw [this]
    exact h
  | some a =>
    have hp : p ≠ [] := fun e => by rw [e] at hl; cases hl
    obtain ⟨q, rfl⟩ : ∃ q, p = q ++ [a] := by
      refine ⟨p.dropLast, ?_⟩
      have e := List.getLast?_eq_some_getLast hp
      rw [hl] at e
      have e := Option.some.inj e
      rw [e]
      exact (List.dropLast_concat_getLast hp).symm
    have hka : hasN N a = true := (h.keys a).2 (.inl (by simp))
    unfold stepP
    simp only [hl]
    by_cases hend : getN N a = (at_ G a).length
    · rw [if_pos hend, List.dropLast_concat]
      refine ⟨fun y => ?_, ?_, h.met, fun y hy => ?_, h.good, h.inv⟩
      · show hasN N y = true ↔ y ∈ q ∨ y ∈ l ++ [a]
        have := h.keys y
        replace this : hasN N y = true ↔ y ∈ q ++ [a] ∨ y ∈ l := this
        rw [this, List.mem_append, List.mem_append]
        constructor
        · rintro ((h | h) | h)
          · exact .inl h
          · exact .inr (.inr h)
          · exact .inr (.inl h)
        · rintro (h | h | h)
          · exact .inl (.inl h)
          · exact .inr h
          · exact .inl (.inr h)
      · show (q ++ (l ++ [a])).Nodup
        have ho : ((q ++ [a]) ++ l).Nodup := h.one
        have hperm : (q ++ (l ++ [a])).Perm ((q ++ [a]) ++ l) := by
          rw [List.append_assoc]
          exact List.Perm.append_left q List.perm_append_comm
        rw [hperm.nodup_iff]
        exact ho
      · have hy' : y ∈ l ++ [a] := hy
        rcases List.mem_append.1 hy' with e | e
        · exact h.done y e
        · rw [List.mem_singleton] at e
          rw [e]
          exact hend
    · rw [if_neg hend]
      have hi := h.inv a
      replace hi : 0 ≤ getN N a ∧ getN N a ≤ (at_ G a).length := hi
      have hlt : (getN N a).toNat < (at_ G a).length := by omega
      have hz : (at_ G a).getD (getN N a).toNat 0 = (at_ G a)[(getN N a).toNat] := by
        rw [List.getD_eq_getElem?_getD, List.getElem?_eq_getElem hlt]; rfl
      rw [hz]
      have hzm := List.getElem_mem hlt
      have hzj : (at_ G a)[(getN N a).toNat]? = some (at_ G a)[(getN N a).toNat] := List.getElem?_eq_getElem hlt
      generalize (at_ G a)[(getN N a).toNat] = z at hzm hzj
      have hg : ∀ y, getN (meetP (putN N a (getN N a + 1)) (q ++ [a]) z).1 y = if y = a then getN N a + 1 else getN N y := fun y => by rw [getN_meet, getN_putN]
      have hn : ∀ y, hasN (meetP (putN N a (getN N a + 1)) (q ++ [a]) z).1 y = (y == z || hasN N y) := fun y => by
        rw [hasN_meet, hasN_putN]
        by_cases hy : y = a
        · rw [hy, hka]; simp
        · have : (y == a) = false := by simpa using hy
          rw [this, Bool.false_or]
      have hb : hasN (putN N a (getN N a + 1)) z = hasN N z := by
        rw [hasN_putN]
        by_cases hy : z = a
        · rw [hy, hka]; simp
        · have : (z == a) = false := by simpa using hy
          rw [this, Bool.false_or]
      have h2 := h.meet (x := z) (hP a z (h.good a hka) hzm)
      have hp2 : (meetP (putN N a (getN N a + 1)) (q ++ [a]) z).2 = (meetP N (q ++ [a]) z).2 := by
        unfold meetP
        rw [hb]
        split <;> rfl
      refine ⟨fun y => ?_, ?_, fun y j z' hj hz' => ?_, fun y hy => ?_, fun y hy => ?_, fun y => ?_⟩
      · show hasN (meetP (putN N a (getN N a + 1)) (q ++ [a]) z).1 y = true ↔ y ∈ (meetP (putN N a (getN N a + 1)) (q ++ [a]) z).2 ∨ y ∈ l
        rw [hn, hp2]
        have := h2.keys y
        replace this : hasN (meetP N (q ++ [a]) z).1 y = true ↔ y ∈ (meetP N (q ++ [a]) z).2 ∨ y ∈ l := this
        rw [hasN_meet] at this
        exact this
      · show ((meetP (putN N a (getN N a + 1)) (q ++ [a]) z).2 ++ l).Nodup
        rw [hp2]
        exact h2.one
      · show hasN (meetP (putN N a (getN N a + 1)) (q ++ [a]) z).1 z' = true
        have hj' : (j : Int) < getN (meetP (putN N a (getN N a + 1)) (q ++ [a]) z).1 y := hj
        rw [hg] at hj'
        rw [hn]
        by_cases hy : y = a
        · rw [if_pos hy] at hj'
          by_cases hje : (j : Int) < getN N a
          · rw [h.met y j z' (by rw [hy]; exact hje) hz']; simp
          · have hj2 : j = (getN N a).toNat := by omega
            rw [hy, hj2, hzj] at hz'
            have := Option.some.inj hz'
            rw [← this]
            simp
        · rw [if_neg hy] at hj'
          rw [h.met y j z' hj' hz']; simp
      · show getN (meetP (putN N a (getN N a + 1)) (q ++ [a]) z).1 y = _
        rw [hg]
        have hne : y ≠ a := fun e => by
          have ho : ((q ++ [a]) ++ l).Nodup := h.one
          rw [List.nodup_append] at ho
          exact ho.2.2 a (by simp) y hy e.symm
        rw [if_neg hne]
        exact h.done y hy
      · have hy' : hasN (meetP (putN N a (getN N a + 1)) (q ++ [a]) z).1 y = true := hy
        rw [hn, Bool.or_eq_true, beq_iff_eq] at hy'
        rcases hy' with e | e
        · rw [e]; exact hP a z (h.good a hka) hzm
        · exact h.good y e
      · show 0 ≤ getN (meetP (putN N a (getN N a + 1)) (q ++ [a]) z).1 y ∧ getN (meetP (putN N a (getN N a + 1)) (q ++ [a]) z).1 y ≤ _
        rw [hg]
        by_cases hy : y = a
        · rw [if_pos hy, hy]; omega
        · rw [if_neg hy]; exact h.inv y
theorem DfsI.steps {G : Gr} {P : Int → Prop} (hP : ∀ y z, P y → z ∈ at_ G y → P z) {s : Wk} (h : DfsI G P s) : ∀ n, DfsI G P (stepsP G n s)
  | 0 => h
  | n + 1 => (h.steps hP n).step hP
/-- Who was met stays met. -/
theorem step_keep {G : Gr} {s : Wk} {y : Int} (h : hasN s.1 y = true) : hasN (stepP G s).1 y = true := by
  unfold stepP
  split
  · exact h
  · next a ha =>
    split
    · exact h
    · show hasN (meetP _ _ _).1 y = true
      rw [hasN_meet, hasN_putN, h]
      simp
theorem steps_keep {G : Gr} {s : Wk} {y : Int} (h : hasN s.1 y = true) : ∀ n, hasN (stepsP G n s).1 y = true
  | 0 => h
  | n + 1 => step_keep (steps_keep h n)
theorem FromR.holds {G : Gr} {P : Int → Prop} (hP : ∀ y z, P y → z ∈ at_ G y → P z) {xs : List Int} {N : Nu} {l : List Int} (h : FromR G [] xs N l) (hx : ∀ x ∈ xs, P x) : DfsI G P (N, [], l) ∧ ∀ x ∈ xs, x ∈ l := by
  induction h with
  | nil => exact ⟨.nil G P, fun x hx => by cases hx⟩
  | snoc h1 h2 ih =>
    rename_i xs N N2 l l2 x i
    obtain ⟨h3, h4⟩ := ih (fun y hy => hx y (List.mem_append_left _ hy))
    have h5 := ((h3.meet (hx x (by simp))).steps hP i)
    rw [h2] at h5
    refine ⟨h5, fun y hy => ?_⟩
    have hmet : hasN (meetP N [] x).1 y = true := by
      rw [hasN_meet]
      rcases List.mem_append.1 hy with e | e
      · have h6 : hasN N y = true := (h3.keys y).2 (.inr (h4 y e))
        rw [h6]; simp
      · rw [List.mem_singleton] at e
        rw [e]; simp
    have h7 := steps_keep (G := G) (s := ((meetP N [] x).1, (meetP N [] x).2, l)) hmet i
    rw [h2] at h7
    rcases (h5.keys y).1 h7 with e | e
    · cases e
    · exact e
/-- What is left: each once, all the firsts, all to which one of it leads, and nothing else. -/
theorem FromR.left {G : Gr} {xs : List Int} {N : Nu} {l : List Int} (h : FromR G [] xs N l) : l.Nodup ∧ (∀ x ∈ xs, x ∈ l) ∧ (∀ y ∈ l, ∀ z ∈ at_ G y, z ∈ l) ∧ ∀ P : Int → Prop, (∀ y z, P y → z ∈ at_ G y → P z) → (∀ x ∈ xs, P x) → ∀ y ∈ l, P y := by
  obtain ⟨h1, h2⟩ := h.holds (P := fun _ => True) (fun _ _ _ _ => trivial) (fun _ _ => trivial)
  refine ⟨by simpa using h1.one, h2, fun y hy z hz => ?_, fun P hP hx y hy => ?_⟩
  · obtain ⟨j, hj⟩ := List.getElem?_of_mem hz
    have hjl := (List.getElem?_eq_some_iff.1 hj).1
    have hm := h1.met y j z (by
      have := h1.done y hy
      show (j : Int) < getN N y
      rw [this]
      omega) hj
    rcases (h1.keys z).1 hm with e | e
    · cases e
    · exact e
  · obtain ⟨h3, _⟩ := h.holds hP hx
    exact h3.good y ((h3.keys y).2 (.inr hy))
end Go.Proofs.Ytlbhpeeggbfcpaa
