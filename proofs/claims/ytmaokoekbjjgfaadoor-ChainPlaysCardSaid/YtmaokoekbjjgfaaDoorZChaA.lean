/- The versions of one key, in plain words. -/
import Derived.Test.YtmaokoekbjjgfaaDoorZBasA
set_option linter.unusedSimpArgs false
set_option linter.unusedVariables false
set_option linter.unnecessarySimpa false
namespace Go.Proofs.YtmaokoekbjjgfaaDoor

structure Ver where
  at_ : Int
  n : Int
  there : Bool
  read : Int
  opn : Bool
/-- By rising times. -/
def Ris (L : List Ver) : Prop := L.Pairwise fun a b => a.at_ < b.at_
/-- How many have a time that is not above. -/
def cnt (L : List Ver) (t : Int) : Nat := L.countP fun v => decide (v.at_ ≤ t)
theorem cnt_le (L : List Ver) (t : Int) : cnt L t ≤ L.length := List.countP_le_length
theorem cnt_at {L : List Ver} {t : Int} (h : Ris L) : ∀ (i : Nat) (v : Ver), L[i]? = some v → (i < cnt L t ↔ v.at_ ≤ t) := by
  induction L with
  | nil => intro i v hi; simp at hi
  | cons a L ih =>
    intro i v hi
    have h1 : (∀ b ∈ L, a.at_ < b.at_) ∧ Ris L := List.pairwise_cons.1 h
    have ih := ih h1.2
    unfold cnt at ih ⊢
    rw [List.countP_cons]
    by_cases ha : a.at_ ≤ t
    · rw [if_pos (by simpa using ha)]
      cases i with
      | zero =>
        have : a = v := by simpa using hi
        subst this
        exact ⟨fun _ => ha, fun _ => by omega⟩
      | succ i =>
        have hi' : L[i]? = some v := by simpa using hi
        rw [← ih i v hi']
        omega
    · rw [if_neg (by simpa using ha)]
      have h0 : L.countP (fun v => decide (v.at_ ≤ t)) = 0 := by
        rw [List.countP_eq_zero]
        intro b hb
        have := h1.1 b hb
        simp
        omega
      rw [h0]
      constructor
      · intro e; omega
      · intro e
        cases i with
        | zero =>
          have : a = v := by simpa using hi
          subst this
          exact (ha e).elim
        | succ i =>
          have hi' : L[i]? = some v := by simpa using hi
          have := h1.1 v (List.mem_of_getElem? hi')
          omega
theorem cnt_range {L : List Ver} {t : Int} (p : Nat → Bool) (h : ∀ i v, L[i]? = some v → p i = decide (t < v.at_)) : (List.range L.length).countP (fun i => !p i) = cnt L t := by
  have key : ∀ k, k ≤ L.length → (List.range k).countP (fun i => !p i) = (L.take k).countP fun v => decide (v.at_ ≤ t) := by
    intro k
    induction k with
    | zero => intro _; simp
    | succ k ih =>
      intro hk
      have hx : L[k]? = some (L[k]'(by omega)) := List.getElem?_eq_getElem _
      rw [List.range_succ, List.countP_append, ih (by omega), List.take_succ_eq_append_getElem (by omega), List.countP_append, List.countP_singleton, List.countP_singleton, h k _ hx]
      congr 1
      by_cases e : t < (L[k]'(by omega)).at_
      · rw [decide_eq_true e, decide_eq_false (by omega)]; rfl
      · rw [decide_eq_false e, decide_eq_true (by omega)]; rfl
  have := key L.length (Nat.le_refl _)
  rwa [List.take_length] at this
/-- A time may be read, or written. -/
def okT (t : Int) : Bool := decide (1 ≤ t) && decide (t ≤ 1073741824)
/-- What holds nothing holds no number. -/
def numT (n : Int) (there : Bool) : Int := if there then n else 0
/-- What a time reads: the chain behind it, what it holds, and the error's number. -/
def readP (L : List Ver) (t : Int) : List Ver × Int × Bool × Int :=
  if okT t = false then (L, 0, false, 2)
  else if cnt L t = 0 then (L, 0, false, 22)
  else match L[cnt L t - 1]? with
    | none => (L, 0, false, 22)
    | some v => if v.at_ = t then (L, v.n, v.there, 0)
      else if v.opn then (L, 0, false, 20)
      else (L.set (cnt L t - 1) { v with read := max v.read t }, v.n, v.there, 0)
/-- A write: the chain behind it, and the error's number. -/
def writeP (L : List Ver) (t n : Int) (there : Bool) : List Ver × Int :=
  if okT t = false then (L, 2)
  else if cnt L t = 0 then (L, 22)
  else match L[cnt L t - 1]? with
    | none => (L, 22)
    | some v => if t < v.read ∨ (v.at_ = t ∧ v.opn = false) then (L, 22)
      else if v.at_ = t then (L.set (cnt L t - 1) { v with n := numT n there, there := there }, 0)
      else (L.take (cnt L t) ++ { at_ := t, n := numT n there, there := there, read := 0, opn := true } :: L.drop (cnt L t), 0)
/-- The place of the open version of just that time. -/
def openP (L : List Ver) (t : Int) : Option (Nat × Ver) :=
  if cnt L t = 0 then none
  else match L[cnt L t - 1]? with
    | none => none
    | some v => if v.at_ = t ∧ v.opn = true then some (cnt L t - 1, v) else none
def commitP (L : List Ver) (t : Int) : List Ver × Bool := match openP L t with
  | none => (L, false)
  | some (i, v) => (L.set i { v with opn := false }, true)
def abortP (L : List Ver) (t : Int) : List Ver × Bool := match openP L t with
  | none => (L, false)
  | some (i, _) => (L.eraseIdx i, true)
theorem Ris.set {L : List Ver} (h : Ris L) {i : Nat} {v u : Ver} (hi : L[i]? = some v) (hu : u.at_ = v.at_) : Ris (L.set i u) := by
  have hil := (List.getElem?_eq_some_iff.1 hi).1
  unfold Ris at h ⊢
  rw [List.pairwise_iff_getElem] at h ⊢
  intro a b ha hb hab
  rw [List.length_set] at ha hb
  have key : ∀ (k : Nat) (hk : k < L.length), ((L.set i u)[k]'(by rw [List.length_set]; exact hk)).at_ = L[k].at_ := fun k hk => by
    rw [List.getElem_set]
    split
    · next e =>
      subst e
      rw [hu, (List.getElem?_eq_some_iff.1 hi).2]
    · rfl
  rw [key a ha, key b hb]
  exact h a b ha hb hab
theorem Ris.put {L : List Ver} (h : Ris L) {t : Int} {u : Ver} (hu : u.at_ = t) (hno : ∀ v, L[cnt L t - 1]? = some v → v.at_ ≠ t) : Ris (L.take (cnt L t) ++ u :: L.drop (cnt L t)) := by
  have hsp := List.take_append_drop (cnt L t) L
  have h2 : Ris (L.take (cnt L t) ++ L.drop (cnt L t)) := by rw [hsp]; exact h
  unfold Ris at h2 ⊢
  rw [List.pairwise_append] at h2 ⊢
  obtain ⟨h3, h4, h5⟩ := h2
  have hlo : ∀ a ∈ L.take (cnt L t), a.at_ < t := fun a ha => by
    obtain ⟨j, hj⟩ := List.getElem?_of_mem ha
    have hjl := (List.getElem?_eq_some_iff.1 hj).1
    rw [List.length_take] at hjl
    rw [List.getElem?_take_of_lt (by omega)] at hj
    have h6 := (cnt_at (t := t) h j a hj).1 (by omega)
    have hcl := cnt_le L t
    have hv : L[cnt L t - 1]? = some (L[cnt L t - 1]'(by omega)) := List.getElem?_eq_getElem _
    have h7 := hno _ hv
    have h8 := (cnt_at (t := t) h _ _ hv).1 (by omega)
    by_cases e : j = cnt L t - 1
    · subst e
      rw [hj] at hv
      injection hv with hv
      rw [← hv] at h7 h8
      omega
    · have h9 := List.pairwise_iff_getElem.1 h j (cnt L t - 1) (by omega) (by omega) (by omega)
      rw [(List.getElem?_eq_some_iff.1 hj).2] at h9
      omega
  have hhi : ∀ b ∈ L.drop (cnt L t), t < b.at_ := fun b hb => by
    obtain ⟨j, hj⟩ := List.getElem?_of_mem hb
    rw [List.getElem?_drop] at hj
    by_cases e : b.at_ ≤ t
    · have := (cnt_at (t := t) h _ b hj).2 e
      omega
    · omega
  refine ⟨h3, List.pairwise_cons.2 ⟨fun b hb => by rw [hu]; exact hhi b hb, h4⟩, fun a ha b hb => ?_⟩
  rcases List.mem_cons.1 hb with rfl | e
  · rw [hu]; exact hlo a ha
  · exact h5 a ha b e
theorem Ris.erase {L : List Ver} (h : Ris L) (i : Nat) : Ris (L.eraseIdx i) := h.sublist (List.eraseIdx_sublist ..)
theorem readP_ris {L : List Ver} {t : Int} (h : Ris L) : Ris (readP L t).1 ∧ (readP L t).1.length = L.length := by
  unfold readP
  split
  · exact ⟨h, rfl⟩
  · split
    · exact ⟨h, rfl⟩
    · split
      · exact ⟨h, rfl⟩
      · next v hv =>
        split
        · exact ⟨h, rfl⟩
        · split
          · exact ⟨h, rfl⟩
          · exact ⟨h.set hv rfl, List.length_set⟩
theorem writeP_ris {L : List Ver} {t n : Int} {there : Bool} (h : Ris L) : Ris (writeP L t n there).1 ∧ (writeP L t n there).1.length ≤ L.length + 1 := by
  unfold writeP
  split
  · exact ⟨h, Nat.le_succ _⟩
  · split
    · exact ⟨h, Nat.le_succ _⟩
    · split
      · exact ⟨h, Nat.le_succ _⟩
      · next v hv =>
        split
        · exact ⟨h, Nat.le_succ _⟩
        · split
          · exact ⟨h.set hv rfl, by rw [List.length_set]; omega⟩
          · next hne =>
            refine ⟨h.put rfl (fun u hu => by rw [hv] at hu; injection hu with hu; rw [← hu]; exact hne), ?_⟩
            have := cnt_le L t
            show (L.take (cnt L t) ++ _ :: L.drop (cnt L t)).length ≤ _
            rw [List.length_append, List.length_cons, List.length_take, List.length_drop]
            omega
end Go.Proofs.YtmaokoekbjjgfaaDoor
