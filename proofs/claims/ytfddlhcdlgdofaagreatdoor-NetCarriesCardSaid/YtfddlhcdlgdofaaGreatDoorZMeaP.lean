/- Operations and messages in plain words: which may be, their bytes, and what is read of any bytes. -/
import Derived.Test.YtfddlhcdlgdofaaGreatDoorZOmpE
set_option linter.unusedSimpArgs false
set_option linter.unusedVariables false
set_option linter.unnecessarySimpa false
namespace Go.Proofs.YtfddlhcdlgdofaaGreatDoor
open Go.RowKit Go.Shelf Go.Lib

theorem natS_only {bs : List UInt8} {p n q : Nat} (h : natS bs (some p) = (n, some q)) : n ≤ 18446744073709551615 ∧ bs.drop p = natB n ++ bs.drop q ∧ p ≤ q := by
  unfold natS at h
  simp only at h
  split at h
  · cases h
  · rename_i n' sz hp
    obtain ⟨rfl, e⟩ : n' = n ∧ p + sz = q := by simpa using h
    obtain ⟨h1, h2, h3⟩ := natP_only hp
    refine ⟨h1, ?_, by omega⟩
    rw [← h2, ← e, ← List.drop_drop, List.take_append_drop]
theorem natS_back {bs : List UInt8} {p n : Nat} {l : List UInt8} (hn : n ≤ 18446744073709551615) (h : bs.drop p = natB n ++ l) : natS bs (some p) = (n, some (p + (natB n).length)) ∧ bs.drop (p + (natB n).length) = l := by
  refine ⟨?_, ?_⟩
  · unfold natS
    simp only [h, natP_natB n hn]
  · rw [← List.drop_drop, h, List.drop_left' rfl]
theorem strS_only {bs : List UInt8} {most p q : Nat} {s : ByteArray} (h : strS most bs (some p) = (s, some q)) : s.size ≤ most ∧ bs.drop p = strB s ++ bs.drop q ∧ p ≤ q := by
  unfold strS at h
  simp only at h
  split at h
  · cases h
  · rename_i s' k hp
    obtain ⟨rfl, e⟩ : s' = s ∧ p + k = q := by simpa using h
    obtain ⟨h1, _, h2, h3⟩ := strP_only hp
    refine ⟨h1, ?_, by omega⟩
    rw [← h2, ← e, ← List.drop_drop, List.take_append_drop]
theorem strS_back {bs : List UInt8} {most p : Nat} {s : ByteArray} {l : List UInt8} (hs : s.size ≤ most) (hm : most ≤ 1073741824) (h : bs.drop p = strB s ++ l) : strS most bs (some p) = (s, some (p + (strB s).length)) ∧ bs.drop (p + (strB s).length) = l := by
  refine ⟨?_, ?_⟩
  · unfold strS
    simp only [h, strP_strB hs hm]
  · rw [← List.drop_drop, h, List.drop_left' rfl]
theorem natS_none {bs : List UInt8} : natS bs none = (0, none) := rfl
theorem strS_none {most : Nat} {bs : List UInt8} : strS most bs none = (⟨#[]⟩, none) := rfl
theorem numN_le' {m : Int} (h0 : -9223372036854775808 ≤ m) (h1 : m ≤ 9223372036854775807) : numN m ≤ 18446744073709551615 := by unfold numN; split <;> omega
theorem numV_in {n : Nat} (h : n ≤ 18446744073709551615) : -9223372036854775808 ≤ numV n ∧ numV n ≤ 9223372036854775807 := by unfold numV; split <;> omega

/-! operations -/
structure OpV where
  k : Int
  s : ByteArray
  n : Int
  lo : Int
  deriving DecidableEq
def okc (c : UInt8) : Bool := decide ((97 ≤ c.toNat ∧ c.toNat ≤ 122) ∨ (48 ≤ c.toNat ∧ c.toNat ≤ 57) ∨ c.toNat = 46 ∨ c.toNat = 95)
def plainL (l : List UInt8) : Bool := l.all okc
def keyP (s : ByteArray) : Bool := decide (s.size ≠ 0) && (decide (s.size ≤ 16) && plainL s.data.toList)
def sysL : List UInt8 → Bool
  | c :: d :: r => decide (c.toNat = 126) && (decide (r.length ≤ 14) && plainL (d :: r))
  | _ => false
def sysP (s : ByteArray) : Bool := sysL s.data.toList
def kindO (o : OpV) : Bool := decide ((1 ≤ o.k ∧ o.k ≤ 6) ∧ (o.k = 5 ∨ o.lo = 0) ∧ ((o.k = 1 ∨ o.k = 3) → o.n = 0))
def mayO (o : OpV) : Bool := kindO o && (keyP o.s || sysP o.s)
def askO (o : OpV) : Bool := mayO o && keyP o.s
def checkO (l : List OpV) : Nat := if 8 < l.length then 7 else if l.all askO then 0 else 2
structure OpIn (o : OpV) : Prop where
  k : -9223372036854775808 ≤ o.k ∧ o.k ≤ 9223372036854775807
  n : -9223372036854775808 ≤ o.n ∧ o.n ≤ 9223372036854775807
  lo : -9223372036854775808 ≤ o.lo ∧ o.lo ≤ 9223372036854775807
theorem size_list (s : ByteArray) : s.data.toList.length = s.size := by simp
theorem sysP_le {s : ByteArray} (h : sysP s = true) : s.size ≤ 16 := by
  unfold sysP at h
  have := size_list s
  revert h
  cases hs : s.data.toList with
  | nil => intro h; cases h
  | cons c r =>
    cases r with
    | nil => intro h; cases h
    | cons d r =>
      intro h
      simp only [sysL, Bool.and_eq_true, decide_eq_true_eq] at h
      rw [hs] at this
      simp only [List.length_cons] at this
      omega
theorem mayO_key {o : OpV} (h : mayO o = true) : o.s.size ≤ 16 := by
  unfold mayO at h
  rcases Bool.or_eq_true _ _ ▸ (Bool.and_eq_true _ _ ▸ h).2 with h | h
  · unfold keyP at h
    simp only [Bool.and_eq_true, decide_eq_true_eq] at h
    exact h.2.1
  · exact sysP_le h
theorem mayO_kind {o : OpV} (h : mayO o = true) : 1 ≤ o.k ∧ o.k ≤ 6 := by
  unfold mayO kindO at h
  simp only [Bool.and_eq_true, decide_eq_true_eq] at h
  exact h.1.1
def opB (o : OpV) : List UInt8 := natB o.k.toNat ++ (strB o.s ++ (natB (numN o.n) ++ natB (numN o.lo)))
def opsB (l : List OpV) : List UInt8 := natB l.length ++ l.flatMap opB
/-- The next operation; a kind that is too great is cut down to one that is none. -/
def opS (cut : Nat) (bs : List UInt8) (st : Option Nat) : OpV × Option Nat :=
  (⟨((min (natS bs st).1 cut : Nat) : Int), (strS 16 bs (natS bs st).2).1, (numS bs (strS 16 bs (natS bs st).2).2).1, (numS bs (numS bs (strS 16 bs (natS bs st).2).2).2).1⟩, (numS bs (numS bs (strS 16 bs (natS bs st).2).2).2).2)
def opsS (bs : List UInt8) : Nat → List OpV → Option Nat → Option (List OpV × Option Nat)
  | 0, l, st => some (l, st)
  | k + 1, l, st => if mayO (opS 7 bs st).1 = true then opsS bs k (l ++ [(opS 7 bs st).1]) (opS 7 bs st).2 else none
def decO (bs : List UInt8) : Option (List OpV) := if 64 < (natS bs (some 0)).1 then none else match opsS bs (natS bs (some 0)).1 [] (natS bs (some 0)).2 with
  | none => none
  | some (l, st) => if st = some bs.length then some l else none
theorem opS_none {cut : Nat} {bs : List UInt8} : (opS cut bs none).2 = none := rfl
theorem opS_only {cut : Nat} {bs : List UInt8} {p q : Nat} {o : OpV} (hc : 7 ≤ cut) (h : opS cut bs (some p) = (o, some q)) (hm : o.k ≤ 6) : OpIn o ∧ bs.drop p = opB o ++ bs.drop q := by
  unfold opS at h
  obtain ⟨a, s1, ha⟩ : ∃ a s1, natS bs (some p) = (a, s1) := ⟨_, _, rfl⟩
  rw [ha] at h
  simp only at h
  obtain ⟨s, s2, hs⟩ : ∃ s s2, strS 16 bs s1 = (s, s2) := ⟨_, _, rfl⟩
  rw [hs] at h
  simp only at h
  unfold numS at h
  obtain ⟨b, s3, hb⟩ : ∃ b s3, natS bs s2 = (b, s3) := ⟨_, _, rfl⟩
  rw [hb] at h
  simp only at h
  obtain ⟨c, s4, hc4⟩ : ∃ c s4, natS bs s3 = (c, s4) := ⟨_, _, rfl⟩
  rw [hc4] at h
  simp only at h
  obtain ⟨ho, hq⟩ := Prod.mk.inj h
  subst hq
  cases s3 with
  | none => cases (Prod.mk.inj (natS_none.symm.trans hc4)).2
  | some q3 =>
    cases s2 with
    | none => cases (Prod.mk.inj (natS_none.symm.trans hb)).2
    | some q2 =>
      cases s1 with
      | none => cases (Prod.mk.inj (strS_none.symm.trans hs)).2
      | some q1 =>
        obtain ⟨a1, a2, _⟩ := natS_only ha
        obtain ⟨b1, b2, _⟩ := strS_only hs
        obtain ⟨c1, c2, _⟩ := natS_only hb
        obtain ⟨d1, d2, _⟩ := natS_only hc4
        subst ho
        simp only at hm
        have hak : min a cut = a := by omega
        refine ⟨⟨by simp only; omega, numV_in c1, numV_in d1⟩, ?_⟩
        unfold opB
        simp only [numN_numV, hak, Int.toNat_natCast]
        rw [a2, b2, c2, d2]
        simp only [List.append_assoc]
theorem opS_back {cut : Nat} {bs : List UInt8} {p : Nat} {o : OpV} {l : List UInt8} (hc : 7 ≤ cut) (hm : mayO o = true) (hi : OpIn o) (h : bs.drop p = opB o ++ l) : opS cut bs (some p) = (o, some (p + (opB o).length)) ∧ bs.drop (p + (opB o).length) = l := by
  refine ⟨?_, by rw [← List.drop_drop, h, List.drop_left' rfl]⟩
  have hk := mayO_kind hm
  have hs := mayO_key hm
  unfold opB at h
  simp only [List.append_assoc] at h
  obtain ⟨a1, a2⟩ := natS_back (by omega) h
  obtain ⟨b1, b2⟩ := strS_back hs (by omega) a2
  obtain ⟨c1, c2⟩ := natS_back (numN_le' hi.n.1 hi.n.2) b2
  obtain ⟨d1, d2⟩ := natS_back (numN_le' hi.lo.1 hi.lo.2) c2
  unfold opS
  rw [a1]
  simp only
  rw [b1]
  simp only
  unfold numS
  rw [c1]
  simp only
  rw [d1]
  simp only [numV_numN]
  have hkk : ((min o.k.toNat cut : Nat) : Int) = o.k := by omega
  rw [hkk]
  unfold opB
  simp only [List.length_append, Nat.add_assoc]
theorem opsS_none {bs : List UInt8} : ∀ (k : Nat) {l l' : List OpV} {q : Nat}, opsS bs k l none ≠ some (l', some q)
  | 0, l, l', q, h => by simp [opsS] at h
  | k + 1, l, l', q, h => by
    unfold opsS at h
    split at h
    · rw [opS_none] at h
      exact opsS_none k h
    · cases h
theorem opsS_only {bs : List UInt8} : ∀ (k : Nat) {l l' : List OpV} {p q : Nat}, opsS bs k l (some p) = some (l', some q) →
    ∃ t, l' = l ++ t ∧ t.length = k ∧ (∀ o ∈ t, mayO o = true ∧ OpIn o) ∧ bs.drop p = t.flatMap opB ++ bs.drop q
  | 0, l, l', p, q, h => by
    obtain ⟨rfl, rfl⟩ : l = l' ∧ p = q := by simpa [opsS] using h
    exact ⟨[], by simp, rfl, fun o h => (by cases h), by simp⟩
  | k + 1, l, l', p, q, h => by
    unfold opsS at h
    obtain ⟨o, st, ho⟩ : ∃ o st, opS 7 bs (some p) = (o, st) := ⟨_, _, rfl⟩
    rw [ho] at h
    simp only at h
    split at h
    · rename_i hm
      cases st with
      | none => exact absurd h (opsS_none k)
      | some q2 =>
        obtain ⟨a1, a2⟩ := opS_only (Nat.le_refl _) ho (mayO_kind hm).2
        obtain ⟨t, e1, e2, e3, e4⟩ := opsS_only k h
        refine ⟨o :: t, by rw [e1]; simp, by simp [e2], fun x hx => ?_, ?_⟩
        · rcases List.mem_cons.1 hx with rfl | hx
          · exact ⟨hm, a1⟩
          · exact e3 x hx
        · rw [a2, e4, List.flatMap_cons, List.append_assoc]
    · cases h
theorem opsS_back {bs : List UInt8} : ∀ (t : List OpV) {l : List OpV} {p : Nat} {r : List UInt8}, (∀ o ∈ t, mayO o = true ∧ OpIn o) → bs.drop p = t.flatMap opB ++ r →
    opsS bs t.length l (some p) = some (l ++ t, some (p + (t.flatMap opB).length))
  | [], l, p, r, _, h => by simp [opsS]
  | o :: t, l, p, r, hok, h => by
    rw [List.flatMap_cons, List.append_assoc] at h
    obtain ⟨hm, hi⟩ := hok o (by simp)
    obtain ⟨e1, e2⟩ := opS_back (Nat.le_refl _) hm hi h
    have f1 := opsS_back t (l := l ++ [o]) (fun x hx => hok x (by simp [hx])) e2
    rw [List.length_cons]
    unfold opsS
    rw [e1]
    simp only
    rw [if_pos hm, f1, List.flatMap_cons, List.length_append]
    simp [Nat.add_assoc]
theorem decO_only {bs : List UInt8} {l : List OpV} (h : decO bs = some l) : bs = opsB l ∧ l.length ≤ 64 ∧ ∀ o ∈ l, mayO o = true ∧ OpIn o := by
  unfold decO at h
  obtain ⟨n, st, hn⟩ : ∃ n st, natS bs (some 0) = (n, st) := ⟨_, _, rfl⟩
  rw [hn] at h
  simp only at h
  split at h
  · cases h
  · rename_i h64
    split at h
    · cases h
    · rename_i l2 st2 ho
      split at h
      · rename_i hst
        obtain rfl := Option.some.inj h
        subst hst
        cases st with
        | none => exact absurd ho (opsS_none n)
        | some q =>
          obtain ⟨a1, a2, _⟩ := natS_only hn
          obtain ⟨t, e1, e2, e3, e4⟩ := opsS_only n ho
          rw [List.nil_append] at e1
          subst e1
          refine ⟨?_, by omega, e3⟩
          have : bs.drop 0 = natB n ++ l2.flatMap opB := by rw [a2, e4]; simp
          unfold opsB
          rw [e2]
          simpa using this
      · cases h
theorem decO_back {l : List OpV} (hl : l.length ≤ 64) (h : ∀ o ∈ l, mayO o = true ∧ OpIn o) : decO (opsB l) = some l := by
  have h0 : (opsB l).drop 0 = natB l.length ++ l.flatMap opB := by simp [opsB]
  obtain ⟨e1, e2⟩ := natS_back (by omega) h0
  have f1 := opsS_back l (l := []) h (r := []) (by rw [e2]; simp)
  unfold decO
  rw [e1]
  simp only
  rw [if_neg (by omega), f1]
  simp only [List.nil_append]
  rw [if_pos (by unfold opsB; rw [List.length_append]; simp)]
end Go.Proofs.YtfddlhcdlgdofaaGreatDoor
