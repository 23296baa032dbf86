/- The walk along a graph, in plain words: a step, what it leaves to be done. -/
import Derived.Test.YtlbhpeeggbfcpaaZWaiD
set_option linter.unusedSimpArgs false
set_option linter.unusedVariables false
set_option linter.unnecessarySimpa false
namespace Go.Proofs.Ytlbhpeeggbfcpaa

theorem nfind_hd (e : Int × Int) (N : Nu) (y : Int) : List.find? (fun z => z.1 == y) (e :: N) = if e.1 = y then some e else List.find? (fun z => z.1 == y) N := by
  rw [List.find?_cons]
  by_cases h : e.1 = y
  · simp [h]
  · have : (e.1 == y) = false := by simpa using h
    simp [h, this]
theorem getN_none {N : Nu} {x : Int} (h : hasN N x = false) : getN N x = 0 := by
  unfold getN
  rw [List.find?_eq_none.2 (fun y hy => by
    unfold hasN at h
    rw [List.any_eq_false] at h
    exact h y hy)]
  rfl
theorem getN_map (N : Nu) (x y z : Int) : getN (N.map fun e => if e.1 = x then (e.1, y) else e) z = if hasN N x = true ∧ z = x then y else getN N z := by
  unfold getN hasN
  induction N with
  | nil => simp
  | cons e N ih =>
    rw [List.map_cons, List.any_cons, nfind_hd, nfind_hd]
    by_cases h1 : e.1 = x
    · rw [if_pos h1]
      by_cases h2 : e.1 = z
      · rw [if_pos h2, if_pos h2]
        simp [h1, h2.symm.trans h1]
      · rw [if_neg h2, if_neg h2, ih]
        have : z ≠ x := fun h => h2 (h1.trans h.symm)
        simp [this]
    · rw [if_neg h1]
      have hx : (e.1 == x) = false := by simpa using h1
      by_cases h2 : e.1 = z
      · have : z ≠ x := fun h => h1 (h2.trans h)
        rw [if_pos h2, if_pos h2]
        simp [this]
      · rw [if_neg h2, if_neg h2, ih, hx, Bool.false_or]
theorem getN_snoc (N : Nu) (x y z : Int) (h : hasN N x = false) : getN (N ++ [(x, y)]) z = if z = x then y else getN N z := by
  by_cases hz : z = x
  · subst hz
    rw [if_pos rfl]
    unfold getN
    rw [List.find?_append, List.find?_eq_none.2 (fun a ha => by
      unfold hasN at h
      rw [List.any_eq_false] at h
      exact h a ha)]
    simp
  · rw [if_neg hz]
    unfold getN
    rw [List.find?_append, nfind_hd, if_neg (fun e : x = z => hz e.symm)]
    simp
theorem getN_putN (N : Nu) (x y z : Int) : getN (putN N x y) z = if z = x then y else getN N z := by
  unfold putN
  by_cases h : hasN N x = true
  · rw [if_pos h, getN_map]
    simp [h]
  · rw [if_neg h, getN_snoc _ _ _ _ (by simpa using h)]
theorem getN_meet (N : Nu) (p : List Int) (x z : Int) : getN (meetP N p x).1 z = getN N z := by
  unfold meetP
  split
  · rfl
  · next h =>
    show getN (putN N x 0) z = _
    rw [getN_putN]
    by_cases hz : z = x
    · rw [if_pos hz, hz, getN_none (by simpa using h)]
    · rw [if_neg hz]
abbrev Wk := Nu × List Int × List Int
/-- One step: the one at the path's end is left, or the next one is met. -/
def stepP (G : Gr) (s : Wk) : Wk := match s.2.1.getLast? with
  | none => s
  | some a => if getN s.1 a = (at_ G a).length then (s.1, s.2.1.dropLast, s.2.2 ++ [a]) else
      ((meetP (putN s.1 a (getN s.1 a + 1)) s.2.1 ((at_ G a).getD (getN s.1 a).toNat 0)).1, (meetP (putN s.1 a (getN s.1 a + 1)) s.2.1 ((at_ G a).getD (getN s.1 a).toNat 0)).2, s.2.2)
/-- So many steps. -/
def stepsP (G : Gr) : Nat → Wk → Wk
  | 0, s => s
  | n + 1, s => stepP G (stepsP G n s)
/-- Of none more of its edges were gone along than it has. -/
def InvP (G : Gr) (N : Nu) : Prop := ∀ x, 0 ≤ getN N x ∧ getN N x ≤ (at_ G x).length
def owed (G : Gr) (N : Nu) : Nat := (G.map fun e => e.2.length - (getN N e.1).toNat).sum
def mu (G : Gr) (s : Wk) : Nat := 2 * owed G s.1 + s.2.1.length
theorem sum_dec {c c' : Int → Nat} {a : Int} {n : Nat} : ∀ {G : Gr}, (G.map (·.1)).Nodup → n < (at_ G a).length → c a = n → c' a = n + 1 → (∀ z, z ≠ a → c' z = c z) → (G.map fun e => e.2.length - c' e.1).sum + 1 = (G.map fun e => e.2.length - c e.1).sum
  | [], _, h, _, _, _ => by simp [at_] at h
  | e :: G, hn, h, h1, h2, h3 => by
    rw [List.map_cons, List.nodup_cons] at hn
    simp only [List.map_cons, List.sum_cons]
    unfold at_ at h
    rw [find_hd] at h
    by_cases he : e.1 = a
    · rw [if_pos he] at h
      replace h : n < e.2.length := h
      have : (G.map fun e => e.2.length - c' e.1) = (G.map fun e => e.2.length - c e.1) := List.map_congr_left fun z hz => by
        rw [h3 z.1 (fun e' => hn.1 (List.mem_map.2 ⟨z, hz, e'.trans he.symm⟩))]
      rw [this, he, h1, h2]
      omega
    · rw [if_neg he] at h
      have := sum_dec hn.2 h h1 h2 h3
      rw [h3 _ he]
      omega
theorem step_mu {G : Gr} {s : Wk} (hG : (G.map (·.1)).Nodup) (hI : InvP G s.1) (hp : s.2.1 ≠ []) : InvP G (stepP G s).1 ∧ mu G (stepP G s) + 1 ≤ mu G s := by
  obtain ⟨N, p, l⟩ := s
  obtain ⟨a, ha⟩ : ∃ a, p.getLast? = some a := by
    cases h : p.getLast? with
    | none => exact absurd (List.getLast?_eq_none_iff.1 h) hp
    | some a => exact ⟨a, rfl⟩
  have hpl : 0 < p.length := List.length_pos_iff.2 hp
  unfold stepP
  simp only [ha]
  split
  · refine ⟨hI, ?_⟩
    show 2 * owed G N + p.dropLast.length + 1 ≤ 2 * owed G N + p.length
    rw [List.length_dropLast]
    omega
  · next hne =>
    have h1 := hI a
    replace h1 : 0 ≤ getN N a ∧ getN N a ≤ (at_ G a).length := h1
    replace hne : ¬ getN N a = (at_ G a).length := hne
    have hg : ∀ (q : List Int) (y z : Int), getN (meetP (putN N a (getN N a + 1)) q y).1 z = if z = a then getN N a + 1 else getN N z := fun q y z => by rw [getN_meet, getN_putN]
    have hdec : owed G (meetP (putN N a (getN N a + 1)) p ((at_ G a).getD (getN N a).toNat 0)).1 + 1 = owed G N := by
      unfold owed
      refine sum_dec (c := fun z => (getN N z).toNat) (c' := fun z => (getN (meetP (putN N a (getN N a + 1)) p ((at_ G a).getD (getN N a).toNat 0)).1 z).toNat) (a := a) (n := (getN N a).toNat) hG (by omega) rfl ?_ (fun z hz => ?_)
      · show (getN _ a).toNat = _
        rw [hg, if_pos rfl]
        omega
      · show (getN _ z).toNat = _
        rw [hg, if_neg hz]
    refine ⟨fun z => ?_, ?_⟩
    · show 0 ≤ getN (meetP (putN N a (getN N a + 1)) p ((at_ G a).getD (getN N a).toNat 0)).1 z ∧ _
      rw [hg]
      by_cases hz : z = a
      · subst hz
        rw [if_pos rfl]
        omega
      · rw [if_neg hz]
        exact hI z
    · show 2 * owed G (meetP (putN N a (getN N a + 1)) p ((at_ G a).getD (getN N a).toNat 0)).1 + (meetP (putN N a (getN N a + 1)) p ((at_ G a).getD (getN N a).toNat 0)).2.length + 1 ≤ 2 * owed G N + p.length
      have : (meetP (putN N a (getN N a + 1)) p ((at_ G a).getD (getN N a).toNat 0)).2.length ≤ p.length + 1 := by
        unfold meetP
        split
        · exact Nat.le_succ _
        · simp
      omega
/-- What is left behind so many firsts. -/
inductive FromR (G : Gr) (N0 : Nu) : List Int → Nu → List Int → Prop
  | nil : FromR G N0 [] N0 []
  | snoc {xs : List Int} {N N2 : Nu} {l l2 : List Int} {x : Int} {i : Nat} : FromR G N0 xs N l → stepsP G i ((meetP N [] x).1, (meetP N [] x).2, l) = (N2, [], l2) → FromR G N0 (xs ++ [x]) N2 l2
end Go.Proofs.Ytlbhpeeggbfcpaa
