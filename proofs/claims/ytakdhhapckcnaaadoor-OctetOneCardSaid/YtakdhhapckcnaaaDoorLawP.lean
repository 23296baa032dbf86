/- Plain facts on links and chains, and the function cut at any argument. -/
import Derived.Test.YtakdhhapckcnaaaDoorLnkE
set_option linter.unusedSimpArgs false
set_option linter.unusedVariables false
namespace Go.Proofs.YtakdhhapckcnaaaDoor
open Go.RowKit

theorem rchain_form (ls : List L6) : rchain ls = [] ∨ ∃ pre x, rchain ls = pre ++ [x] ∧ (∀ y ∈ pre, y.kind ≠ 0) ∧ x.kind = 0 ∧ x.e ≠ 0 ∧ ∀ y ∈ pre ++ [x], y ∈ ls := by
  induction ls with
  | nil => exact .inl rfl
  | cons a r ih =>
    rw [rchain]
    by_cases h0 : a.kind = 0
    · by_cases h1 : a.e = 0
      · simp [h0, h1]
      · exact .inr ⟨[], a, by simp [h0, h1], by simp, h0, h1, by simp⟩
    · rw [if_neg h0]
      rcases ih with h | ⟨pre, x, h, hp, hx, he, hm⟩
      · simp [h]
      · refine .inr ⟨a :: pre, x, ?_, ?_, hx, he, ?_⟩
        · rw [h]
          cases hq : pre ++ [x] with
          | nil => simp at hq
          | cons y c => simp [hq]
        · intro y hy
          rcases List.mem_cons.1 hy with rfl | hy
          · exact h0
          · exact hp y hy
        · intro y hy
          rcases List.mem_cons.1 hy with rfl | hy
          · exact List.mem_cons_self
          · exact List.mem_cons_of_mem _ (hm y hy)
theorem rchain_mem {ls : List L6} : ∀ y ∈ rchain ls, y ∈ ls := by
  rcases rchain_form ls with h | ⟨pre, x, h, _, _, _, hm⟩
  · rw [h]; intro y hy; cases hy
  · rw [h]; exact hm
theorem rchain_le (ls : List L6) : (rchain ls).length ≤ ls.length := by
  induction ls with
  | nil => exact Nat.le_refl _
  | cons a r ih =>
    rw [rchain]
    split
    · split <;> simp
    · cases h : rchain r with
      | nil => simp
      | cons y c => rw [h] at ih; simp at ih ⊢; omega
theorem hit_pre (q : Lk → Bool) (pre : List Lk) (r : List Lk) (h : ∀ k ∈ pre, q k = false) : hit q (pre ++ r) = hit q r := by
  induction pre with
  | nil => rfl
  | cons k p ih =>
    rw [List.cons_append, hit, h k List.mem_cons_self]
    exact ih (fun k' hk => h k' (List.mem_cons_of_mem _ hk))
theorem isNum_toLk (x : L6) : (toLk x).isNum = decide (x.kind = 0) := by
  unfold toLk
  by_cases h0 : x.kind = 0
  · simp [h0, Lk.isNum]
  · by_cases h1 : x.kind = 1
    · simp [h1, Lk.isNum]
    · by_cases h2 : x.kind = 2 <;> simp [h0, h1, h2, Lk.isNum]
theorem isPlc_toLk (x : L6) : (toLk x).isPlc = decide (x.kind = 1) := by
  unfold toLk
  by_cases h0 : x.kind = 0
  · simp [h0, Lk.isPlc]
  · by_cases h1 : x.kind = 1
    · simp [h1, Lk.isPlc]
    · by_cases h2 : x.kind = 2 <;> simp [h0, h1, h2, Lk.isPlc]
/-- the number that a chain ends with -/
theorem chain_num (ls : List L6) : rchain ls = [] ∨ ∃ e, e ≠ 0 ∧ hit Lk.isNum (chainOf ls) = [.num e] ∧ lastE (rchain ls) = e ∧ chainOf ls ≠ [] ∧ rchain ls ≠ [] := by
  rcases rchain_form ls with h | ⟨pre, x, h, hp, hx, he, _⟩
  · exact .inl h
  · refine .inr ⟨x.e, he, ?_, ?_, ?_, ?_⟩
    · unfold chainOf
      rw [h, List.map_append, hit_pre]
      · simp [hit, hx, toLk, Lk.isNum]
      · intro k hk
        obtain ⟨y, hy, rfl⟩ := List.mem_map.1 hk
        rw [isNum_toLk]; simpa using hp y hy
    · unfold lastE; rw [h]; simp
    · unfold chainOf; rw [h]; simp
    · rw [h]; simp
theorem chain_nil {ls : List L6} (h : rchain ls = []) : chainOf ls = [] := by unfold chainOf; rw [h]; rfl
theorem chain_code (ls : List L6) : codeOf (chainOf ls) = lastE (rchain ls) := by
  rcases chain_num ls with h | ⟨e, _, hh, hl, hne, _⟩
  · rw [chain_nil h, h]; rfl
  · rw [hl]
    cases hc : chainOf ls with
    | nil => exact absurd hc hne
    | cons k r => rw [hc] at hh; exact codeOf_num hh
theorem placeOf_map (c : List L6) : placeOf (c.map toLk) = placeL c := by
  induction c with
  | nil => rfl
  | cons x r ih =>
    unfold placeOf at ih ⊢
    rw [List.map_cons, hit, isPlc_toLk, placeL]
    by_cases h : x.kind = 1
    · simp [h, toLk]
    · simp only [h, decide_false, if_false]; exact ih
theorem chain_place (ls : List L6) : placeOf (chainOf ls) = placeL (rchain ls) := placeOf_map _
theorem limitOf_map (c : List L6) (hk : KindsOk c) : limitOf (c.map toLk) = limitL c := by
  induction c with
  | nil => rfl
  | cons x r ih =>
    have ih := ih (fun y hy => hk y (List.mem_cons_of_mem _ hy))
    have hx := hk x List.mem_cons_self
    unfold limitOf at ih ⊢
    rw [List.map_cons, hit, limitL]
    by_cases h0 : x.kind = 0
    · simp [h0, toLk, Lk.isBnd]; exact ih
    · by_cases h1 : x.kind = 1
      · simp [h1, toLk, Lk.isBnd]; exact ih
      · by_cases h2 : x.kind = 2
        · simp [h2, toLk, Lk.isBnd]; exact ih
        · have h3 : x.kind = 3 := by omega
          simp [h3, toLk, Lk.isBnd]
theorem chain_limit (ls : List L6) (hk : KindsOk ls) : limitOf (chainOf ls) = limitL (rchain ls) := limitOf_map _ (fun y hy => hk y (rchain_mem y hy))
theorem trailOf_map (c : List L6) : trailOf (c.map toLk) = trailL c := by
  induction c with
  | nil => rfl
  | cons x r ih =>
    have e : trailL (x :: r) = if x.kind = 2 then x.name :: trailL r else trailL r := by
      unfold trailL
      by_cases h : x.kind = 2 <;> simp [List.filter_cons, h]
    rw [e, List.map_cons]
    by_cases h0 : x.kind = 0
    · simp [h0, toLk, trailOf, ih]
    · by_cases h1 : x.kind = 1
      · simp [h1, toLk, trailOf, ih]
      · by_cases h2 : x.kind = 2 <;> simp [h0, h1, h2, toLk, trailOf, ih]
theorem chain_trail (ls : List L6) : trailOf (chainOf ls) = trailL (rchain ls) := trailOf_map _
theorem chain_length (ls : List L6) : (chainOf ls).length = (rchain ls).length := by unfold chainOf; simp
theorem chain_lt {ls : List L6} (h : ls.length ≤ 30) : (chainOf ls).length < 1000 := by have := rchain_le ls; rw [chain_length]; omega
theorem chain_ok (ls : List L6) : NumOk (chainOf ls) := by
  intro e he
  rcases rchain_form ls with h | ⟨pre, x, h, hp, hx, hxe, _⟩
  · rw [chain_nil h] at he; cases he
  · unfold chainOf at he
    rw [h] at he
    obtain ⟨y, hy, hye⟩ := List.mem_map.1 he
    have hk : y.kind = 0 := by
      have := isNum_toLk y
      rw [hye] at this
      simpa [Lk.isNum] using this.symm
    rcases List.mem_append.1 hy with hy | hy
    · exact absurd hk (hp y hy)
    · have : y = x := by simpa using hy
      subst this
      unfold toLk at hye
      rw [if_pos hk] at hye
      injection hye with hye
      rw [← hye]; exact hxe
def wantL (c : List L6) (n : Int) : Bool := match c with
  | [] => false
  | x :: r => lastE (x :: r) == n
theorem chain_isAt (ls : List L6) (n : Int) : isAt (chainOf ls) n = wantL (rchain ls) n := by
  rcases chain_num ls with h | ⟨e, _, hh, hl, _, hne⟩
  · rw [chain_nil h, h]; rfl
  · unfold isAt
    rw [hh]
    cases hc : rchain ls with
    | nil => exact absurd hc hne
    | cons x r => rw [hc] at hl; simp only [wantL, hl]
theorem chain_isOf (ls : List L6) (n : Int) : isOf (chainOf ls) n = wantL (rchain ls) n := by
  rcases chain_num ls with h | ⟨e, _, hh, hl, hne, hne'⟩
  · rw [chain_nil h, h]; rfl
  · cases hc : rchain ls with
    | nil => exact absurd hc hne'
    | cons x r =>
      cases hd : chainOf ls with
      | nil => exact absurd hd hne
      | cons k c =>
        have := chain_code ls
        rw [hc, hd] at this
        simp only [isOf, wantL, this]

/-- what the laws lay first: links that were cut, their error, their chain -/
theorem SlIs.len {w : World} {v : Value} {ls : List L6} (h : SlIs w v ls) : ∃ A cap, v = .slice A ls.length cap := by
  rcases h with ⟨rfl, rfl⟩ | ⟨a, cap, rfl, _⟩
  · exact ⟨_, _, rfl⟩
  · exact ⟨_, _, rfl⟩
theorem err_nil {w : World} {c : List Lk} {v : Value} (h : ErrIs w c v) : (c = [] ∧ v = .nilIface) ∨ (c ≠ [] ∧ ∃ t u, v = .iface t u) := by
  cases c with
  | nil => exact .inl ⟨rfl, h⟩
  | cons k r => exact .inr ⟨by simp, h.form1⟩

/-- A slice value that reads as links, as an argument may be: an empty one may have any address. -/
def SlIn (w : World) (v : Value) (ls : List L6) : Prop := (∃ A cap, v = .slice A 0 cap ∧ ls = []) ∨ SlIs w v ls
theorem SlIn.below {w w' : World} {B : Nat} {v : Value} {ls : List L6} (h : SlIn w v ls) (hb : Below B w w') (hB : w.heap.size ≤ B) : SlIn w' v ls := by
  rcases h with h | h
  · exact .inl h
  · exact .inr (h.below hb hB)
set_option maxRecDepth 100000 in
set_option maxHeartbeats 1000000 in
theorem cut_in {w : World} {v : Value} {ls : List L6} (h : SlIn w v ls) :
    Calls Tryd.prog 13 #[v] w fun e w' => ∃ v, e = .returned v ∧ SlIs w' v (cutL ls) ∧ Below w.heap.size w w' := by
  rcases h with ⟨A, cap, rfl, rfl⟩ | h
  · go_enter Tryd.func13, Tryd.ntmps13
    go_wp2
    refine wp_loop_rounds 1 ?_
    rw [rounds_succ]
    go_wp2
    go_ret
    exact ⟨_, rfl, .inl ⟨rfl, rfl⟩, Below.refl _ _⟩
  · exact cut_any h
end Go.Proofs.YtakdhhapckcnaaaDoor
