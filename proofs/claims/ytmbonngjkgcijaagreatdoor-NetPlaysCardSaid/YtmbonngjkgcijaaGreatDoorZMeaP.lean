/- Operations and messages in plain words: which may be, their bytes, and what is read of any bytes. ops.plain, Key, system: which texts are keys. ops.Key, system, May, asked. ops.asked, check, Check: which operations may be asked. -/
import Derived.Test.YtmbonngjkgcijaaGreatDoorZOmpD
import Derived.BigQuiet
import Derived.Test.YtmbonngjkgcijaaGreatDoorZErrB
set_option linter.unusedSimpArgs false
set_option linter.unusedVariables false
set_option linter.unnecessarySimpa false
namespace Go.Proofs.YtmbonngjkgcijaaGreatDoor
open Go.RowKit Go.Shelf Go.Lib

theorem natS_only {bs : List UInt8} {p n q : Nat} (h : natS bs (some p) = (n, some q)) : n ≤ 18446744073709551615 ∧ bs.drop p = natB n ++ bs.drop q ∧ p ≤ q := by
  unfold natS at h
  simp only at h
  split at h
  · cases h
  · rename_i n' sz hp
    obtain ⟨rfl, e⟩ : n' = n ∧ p + sz = q := by simpa using h
    obtain ⟨h1, h2, h3⟩ := natP_only hp
    refine ⟨h1, ?_, by omega⟩
    rw [← h2, ← e, ← List.drop_drop, List.take_append_drop]
theorem natS_back {bs : List UInt8} {p n : Nat} {l : List UInt8} (hn : n ≤ 18446744073709551615) (h : bs.drop p = natB n ++ l) : natS bs (some p) = (n, some (p + (natB n).length)) ∧ bs.drop (p + (natB n).length) = l := by
  refine ⟨?_, ?_⟩
  · unfold natS
    simp only [h, natP_natB n hn]
  · rw [← List.drop_drop, h, List.drop_left' rfl]
theorem strS_only {bs : List UInt8} {most p q : Nat} {s : ByteArray} (h : strS most bs (some p) = (s, some q)) : s.size ≤ most ∧ bs.drop p = strB s ++ bs.drop q ∧ p ≤ q := by
  unfold strS at h
  simp only at h
  split at h
  · cases h
  · rename_i s' k hp
    obtain ⟨rfl, e⟩ : s' = s ∧ p + k = q := by simpa using h
    obtain ⟨h1, _, h2, h3⟩ := strP_only hp
    refine ⟨h1, ?_, by omega⟩
    rw [← h2, ← e, ← List.drop_drop, List.take_append_drop]
theorem strS_back {bs : List UInt8} {most p : Nat} {s : ByteArray} {l : List UInt8} (hs : s.size ≤ most) (hm : most ≤ 1073741824) (h : bs.drop p = strB s ++ l) : strS most bs (some p) = (s, some (p + (strB s).length)) ∧ bs.drop (p + (strB s).length) = l := by
  refine ⟨?_, ?_⟩
  · unfold strS
    simp only [h, strP_strB hs hm]
  · rw [← List.drop_drop, h, List.drop_left' rfl]
theorem natS_none {bs : List UInt8} : natS bs none = (0, none) := rfl
theorem strS_none {most : Nat} {bs : List UInt8} : strS most bs none = (⟨#[]⟩, none) := rfl
theorem numN_le' {m : Int} (h0 : -9223372036854775808 ≤ m) (h1 : m ≤ 9223372036854775807) : numN m ≤ 18446744073709551615 := by unfold numN; split <;> omega
theorem numV_in {n : Nat} (h : n ≤ 18446744073709551615) : -9223372036854775808 ≤ numV n ∧ numV n ≤ 9223372036854775807 := by unfold numV; split <;> omega

/-! operations -/
structure OpV where
  k : Int
  s : ByteArray
  n : Int
  lo : Int
  deriving DecidableEq
def okc (c : UInt8) : Bool := decide ((97 ≤ c.toNat ∧ c.toNat ≤ 122) ∨ (48 ≤ c.toNat ∧ c.toNat ≤ 57) ∨ c.toNat = 46 ∨ c.toNat = 95)
def plainL (l : List UInt8) : Bool := l.all okc
def keyP (s : ByteArray) : Bool := decide (s.size ≠ 0) && (decide (s.size ≤ 16) && plainL s.data.toList)
def sysL : List UInt8 → Bool
  | c :: d :: r => decide (c.toNat = 126) && (decide (r.length ≤ 14) && plainL (d :: r))
  | _ => false
def sysP (s : ByteArray) : Bool := sysL s.data.toList
def kindO (o : OpV) : Bool := decide ((1 ≤ o.k ∧ o.k ≤ 6) ∧ (o.k = 5 ∨ o.lo = 0) ∧ ((o.k = 1 ∨ o.k = 3) → o.n = 0))
def mayO (o : OpV) : Bool := kindO o && (keyP o.s || sysP o.s)
def askO (o : OpV) : Bool := mayO o && keyP o.s
def checkO (l : List OpV) : Nat := if 8 < l.length then 7 else if l.all askO then 0 else 2
structure OpIn (o : OpV) : Prop where
  k : -9223372036854775808 ≤ o.k ∧ o.k ≤ 9223372036854775807
  n : -9223372036854775808 ≤ o.n ∧ o.n ≤ 9223372036854775807
  lo : -9223372036854775808 ≤ o.lo ∧ o.lo ≤ 9223372036854775807
theorem size_list (s : ByteArray) : s.data.toList.length = s.size := by simp
theorem sysP_le {s : ByteArray} (h : sysP s = true) : s.size ≤ 16 := by
  unfold sysP at h
  have := size_list s
  revert h
  cases hs : s.data.toList with
  | nil => intro h; cases h
  | cons c r =>
    cases r with
    | nil => intro h; cases h
    | cons d r =>
      intro h
      simp only [sysL, Bool.and_eq_true, decide_eq_true_eq] at h
      rw [hs] at this
      simp only [List.length_cons] at this
      omega
theorem mayO_key {o : OpV} (h : mayO o = true) : o.s.size ≤ 16 := by
  unfold mayO at h
  rcases Bool.or_eq_true _ _ ▸ (Bool.and_eq_true _ _ ▸ h).2 with h | h
  · unfold keyP at h
    simp only [Bool.and_eq_true, decide_eq_true_eq] at h
    exact h.2.1
  · exact sysP_le h
theorem mayO_kind {o : OpV} (h : mayO o = true) : 1 ≤ o.k ∧ o.k ≤ 6 := by
  unfold mayO kindO at h
  simp only [Bool.and_eq_true, decide_eq_true_eq] at h
  exact h.1.1
def opB (o : OpV) : List UInt8 := natB o.k.toNat ++ (strB o.s ++ (natB (numN o.n) ++ natB (numN o.lo)))
def opsB (l : List OpV) : List UInt8 := natB l.length ++ l.flatMap opB
/-- The next operation; a kind that is too great is cut down to one that is none. -/
def opS (cut : Nat) (bs : List UInt8) (st : Option Nat) : OpV × Option Nat :=
  (⟨((min (natS bs st).1 cut : Nat) : Int), (strS 16 bs (natS bs st).2).1, (numS bs (strS 16 bs (natS bs st).2).2).1, (numS bs (numS bs (strS 16 bs (natS bs st).2).2).2).1⟩, (numS bs (numS bs (strS 16 bs (natS bs st).2).2).2).2)
def opsS (bs : List UInt8) : Nat → List OpV → Option Nat → Option (List OpV × Option Nat)
  | 0, l, st => some (l, st)
  | k + 1, l, st => if mayO (opS 7 bs st).1 = true then opsS bs k (l ++ [(opS 7 bs st).1]) (opS 7 bs st).2 else none
def decO (bs : List UInt8) : Option (List OpV) := if 64 < (natS bs (some 0)).1 then none else match opsS bs (natS bs (some 0)).1 [] (natS bs (some 0)).2 with
  | none => none
  | some (l, st) => if st = some bs.length then some l else none
theorem opS_none {cut : Nat} {bs : List UInt8} : (opS cut bs none).2 = none := rfl
theorem opS_only {cut : Nat} {bs : List UInt8} {p q : Nat} {o : OpV} (hc : 7 ≤ cut) (h : opS cut bs (some p) = (o, some q)) (hm : o.k ≤ 6) : OpIn o ∧ bs.drop p = opB o ++ bs.drop q := by
  unfold opS at h
  obtain ⟨a, s1, ha⟩ : ∃ a s1, natS bs (some p) = (a, s1) := ⟨_, _, rfl⟩
  rw [ha] at h
  simp only at h
  obtain ⟨s, s2, hs⟩ : ∃ s s2, strS 16 bs s1 = (s, s2) := ⟨_, _, rfl⟩
  rw [hs] at h
  simp only at h
  unfold numS at h
  obtain ⟨b, s3, hb⟩ : ∃ b s3, natS bs s2 = (b, s3) := ⟨_, _, rfl⟩
  rw [hb] at h
  simp only at h
  obtain ⟨c, s4, hc4⟩ : ∃ c s4, natS bs s3 = (c, s4) := ⟨_, _, rfl⟩
  rw [hc4] at h
  simp only at h
  obtain ⟨ho, hq⟩ := Prod.mk.inj h
  subst hq
  cases s3 with
  | none => cases (Prod.mk.inj (natS_none.symm.trans hc4)).2
  | some q3 =>
    cases s2 with
    | none => cases (Prod.mk.inj (natS_none.symm.trans hb)).2
    | some q2 =>
      cases s1 with
      | none => cases (Prod.mk.inj (strS_none.symm.trans hs)).2
      | some q1 =>
        obtain ⟨a1, a2, _⟩ := natS_only ha
        obtain ⟨b1, b2, _⟩ := strS_only hs
        obtain ⟨c1, c2, _⟩ := natS_only hb
        obtain ⟨d1, d2, _⟩ := natS_only hc4
        subst ho
        simp only at hm
        have hak : min a cut = a := by omega
        refine ⟨⟨by simp only; omega, numV_in c1, numV_in d1⟩, ?_⟩
        unfold opB
        simp only [numN_numV, hak, Int.toNat_natCast]
        rw [a2, b2, c2, d2]
        simp only [List.append_assoc]
theorem opS_back {cut : Nat} {bs : List UInt8} {p : Nat} {o : OpV} {l : List UInt8} (hc : 7 ≤ cut) (hm : mayO o = true) (hi : OpIn o) (h : bs.drop p = opB o ++ l) : opS cut bs (some p) = (o, some (p + (opB o).length)) ∧ bs.drop (p + (opB o).length) = l := by
  refine ⟨?_, by rw [← List.drop_drop, h, List.drop_left' rfl]⟩
  have hk := mayO_kind hm
  have hs := mayO_key hm
  unfold opB at h
  simp only [List.append_assoc] at h
  obtain ⟨a1, a2⟩ := natS_back (by omega) h
  obtain ⟨b1, b2⟩ := strS_back hs (by omega) a2
  obtain ⟨c1, c2⟩ := natS_back (numN_le' hi.n.1 hi.n.2) b2
  obtain ⟨d1, d2⟩ := natS_back (numN_le' hi.lo.1 hi.lo.2) c2
  unfold opS
  rw [a1]
  simp only
  rw [b1]
  simp only
  unfold numS
  rw [c1]
  simp only
  rw [d1]
  simp only [numV_numN]
  have hkk : ((min o.k.toNat cut : Nat) : Int) = o.k := by omega
  rw [hkk]
  unfold opB
  simp only [List.length_append, Nat.add_assoc]
theorem opsS_none {bs : List UInt8} : ∀ (k : Nat) {l l' : List OpV} {q : Nat}, opsS bs k l none ≠ some (l', some q)
  | 0, l, l', q, h => by simp [opsS] at h
  | k + 1, l, l', q, h => by
    unfold opsS at h
    split at h
    · rw [opS_none] at h
      exact opsS_none k h
    · cases h
theorem opsS_only {bs : List UInt8} : ∀ (k : Nat) {l l' : List OpV} {p q : Nat}, opsS bs k l (some p) = some (l', some q) →
    ∃ t, l' = l ++ t ∧ t.length = k ∧ (∀ o ∈ t, mayO o = true ∧ OpIn o) ∧ bs.drop p = t.flatMap opB ++ bs.drop q
  | 0, l, l', p, q, h => by
    obtain ⟨rfl, rfl⟩ : l = l' ∧ p = q := by simpa [opsS] using h
    exact ⟨[], by simp, rfl, fun o h => (by cases h), by simp⟩
  | k + 1, l, l', p, q, h => by
    unfold opsS at h
    obtain ⟨o, st, ho⟩ : ∃ o st, opS 7 bs (some p) = (o, st) := ⟨_, _, rfl⟩
    rw [ho] at h
    simp only at h
    split at h
    · rename_i hm
      cases st with
      | none => exact absurd h (opsS_none k)
      | some q2 =>
        obtain ⟨a1, a2⟩ := opS_only (Nat.le_refl _) ho (mayO_kind hm).2
        obtain ⟨t, e1, e2, e3, e4⟩ := opsS_only k h
        refine ⟨o :: t, by rw [e1]; simp, by simp [e2], fun x hx => ?_, ?_⟩
        · rcases List.mem_cons.1 hx with rfl | hx
          · exact ⟨hm, a1⟩
          · exact e3 x hx
        · rw [a2, e4, List.flatMap_cons, List.append_assoc]
    · cases h
theorem opsS_back {bs : List UInt8} : ∀ (t : List OpV) {l : List OpV} {p : Nat} {r : List UInt8}, (∀ o ∈ t, mayO o = true ∧ OpIn o) → bs.drop p = t.flatMap opB ++ r →
    opsS bs t.length l (some p) = some (l ++ t, some (p + (t.flatMap opB).length))
  | [], l, p, r, _, h => by simp [opsS]
  | o :: t, l, p, r, hok, h => by
    rw [List.flatMap_cons, List.append_assoc] at h
    obtain ⟨hm, hi⟩ := hok o (by simp)
    obtain ⟨e1, e2⟩ := opS_back (Nat.le_refl _) hm hi h
    have f1 := opsS_back t (l := l ++ [o]) (fun x hx => hok x (by simp [hx])) e2
    rw [List.length_cons]
    unfold opsS
    rw [e1]
    simp only
    rw [if_pos hm, f1, List.flatMap_cons, List.length_append]
    simp [Nat.add_assoc]
theorem decO_only {bs : List UInt8} {l : List OpV} (h : decO bs = some l) : bs = opsB l ∧ l.length ≤ 64 ∧ ∀ o ∈ l, mayO o = true ∧ OpIn o := by
  unfold decO at h
  obtain ⟨n, st, hn⟩ : ∃ n st, natS bs (some 0) = (n, st) := ⟨_, _, rfl⟩
  rw [hn] at h
  simp only at h
  split at h
  · cases h
  · rename_i h64
    split at h
    · cases h
    · rename_i l2 st2 ho
      split at h
      · rename_i hst
        obtain rfl := Option.some.inj h
        subst hst
        cases st with
        | none => exact absurd ho (opsS_none n)
        | some q =>
          obtain ⟨a1, a2, _⟩ := natS_only hn
          obtain ⟨t, e1, e2, e3, e4⟩ := opsS_only n ho
          rw [List.nil_append] at e1
          subst e1
          refine ⟨?_, by omega, e3⟩
          have : bs.drop 0 = natB n ++ l2.flatMap opB := by rw [a2, e4]; simp
          unfold opsB
          rw [e2]
          simpa using this
      · cases h
theorem decO_back {l : List OpV} (hl : l.length ≤ 64) (h : ∀ o ∈ l, mayO o = true ∧ OpIn o) : decO (opsB l) = some l := by
  have h0 : (opsB l).drop 0 = natB l.length ++ l.flatMap opB := by simp [opsB]
  obtain ⟨e1, e2⟩ := natS_back (by omega) h0
  have f1 := opsS_back l (l := []) h (r := []) (by rw [e2]; simp)
  unfold decO
  rw [e1]
  simp only
  rw [if_neg (by omega), f1]
  simp only [List.nil_append]
  rw [if_pos (by unfold opsB; rw [List.length_append]; simp)]
end Go.Proofs.YtmbonngjkgcijaaGreatDoor

namespace Go.Proofs.YtmbonngjkgcijaaGreatDoor
open Go.RowKit Go.Shelf

theorem take_snoc (s : ByteArray) (k : Nat) (h : k < s.size) : s.data.toList.take (k + 1) = s.data.toList.take k ++ [s[k]] := by
  rw [List.take_succ_eq_append_getElem (by simpa using h)]; rfl
theorem plain_take {s : ByteArray} {k : Nat} (h : k < s.size) (hk : plainL (s.data.toList.take k) = true) : plainL (s.data.toList.take (k + 1)) = okc s[k] := by
  rw [take_snoc s k h]
  unfold plainL at hk ⊢
  rw [List.all_append, hk]
  simp
theorem plain_no {s : ByteArray} {k : Nat} (h : k < s.size) (hk : okc s[k] = false) : plainL s.data.toList = false := by
  unfold plainL
  rw [List.all_eq_false]
  refine ⟨s[k], ?_, by simp [hk]⟩
  have : s.data.toList[k]? = some s[k] := by
    rw [List.getElem?_eq_getElem (by simpa using h)]; rfl
  exact List.mem_of_getElem? this
theorem ret_bool {a b : Bool} (h : a = b) : Ending.returned (.bool a) = .returned (.bool b) := by rw [h]
set_option maxRecDepth 100000 in
set_option maxHeartbeats 1000000 in
theorem plain_any (s : ByteArray) (w : World) (hs : s.size ≤ 1073741824) :
    Calls Tryz.prog 169 #[.string s] w fun e w' => e = .returned (.bool (plainL s.data.toList)) ∧ w = w' := by
  go_enter Tryz.func169, Tryz.ntmps169
  go_wp2
  go_loop [7] (fun i => ∃ k : Nat, k ≤ s.size ∧ i = .int .i64 k ∧ plainL (s.data.toList.take k) = true) (fun i => s.size - (intOf i).toNat)
  case atStart => exact ⟨0, Nat.zero_le _, rfl, rfl⟩
  case round =>
    obtain ⟨k, hk, rfl, hp⟩ := hrel
    by_cases hlt : k < s.size
    · have HP := Lib.hid (plain_take hlt hp)
      have HN := Lib.hid (plain_no (s := s) hlt)
      have HO : Hid (okc s[k] = decide ((97 ≤ s[k].toNat ∧ s[k].toNat ≤ 122) ∨ (48 ≤ s[k].toNat ∧ s[k].toNat ≤ 57) ∨ s[k].toNat = 46 ∨ s[k].toNat = 95)) := Lib.hid rfl
      clear hp
      go_wp2
      all_goals first
        | (go_round
           case rel => exact ⟨k + 1, by omega, by go_num, by rw [HP.out, HO.out]; (try simp only [bne_iff_ne, ne_eq, bne_eq_false_iff_eq] at *); simp only [decide_eq_true_eq]; omega⟩
           case measure => simp [intOf]; omega)
        | (go_ret
           exact ⟨ret_bool (by rw [HN.out (by rw [HO.out]; (try simp only [bne_iff_ne, ne_eq, bne_eq_false_iff_eq] at *); simp only [decide_eq_false_iff_not]; omega)]), rfl⟩)
    · go_wp2
      go_ret
      exact ⟨ret_bool (by rw [List.take_of_length_le (by simp; omega)] at hp; rw [hp]), rfl⟩
end Go.Proofs.YtmbonngjkgcijaaGreatDoor

namespace Go.Proofs.YtmbonngjkgcijaaGreatDoor
open Go.RowKit Go.Shelf

set_option maxRecDepth 100000 in
set_option maxHeartbeats 1000000 in
theorem key_any (s : ByteArray) (w : World) (hs : s.size ≤ 1073741824) :
    Calls Tryz.prog 152 #[.string s] w fun e w' => e = .returned (.bool (keyP s)) ∧ w = w' := by
  have HP := Lib.hid (plain_any s w hs)
  by_cases h0 : s = ⟨#[]⟩
  · subst h0
    go_enter Tryz.func152, Tryz.ntmps152
    go_wp2_with fail
    go_ret
    exact ⟨rfl, rfl⟩
  · have hz : s.size ≠ 0 := fun e => h0 (by
      obtain ⟨⟨l⟩⟩ := s
      have : l.length = 0 := e
      rw [List.length_eq_zero_iff.1 this])
    have hne : ¬ s.toList = [] := fun e => h0 (by
      have := (toList_nil_iff_emptyBytes s).1 e
      rw [this]; rfl)
    have hne2 : s.toList.isEmpty = false := by
      cases h : s.toList with
      | nil => exact absurd h hne
      | cons a b => rfl
    by_cases h16 : s.size ≤ 16
    · obtain ⟨b, hb⟩ : ∃ b, plainL s.data.toList = b := ⟨_, rfl⟩
      rw [hb] at HP
      have HK : Hid (keyP s = b) := Lib.hid (by unfold keyP; rw [hb]; simp [hz, h16])
      clear hb
      have hI : (s.size : Int) ≤ 16 := by omega
      go_enter Tryz.func152, Tryz.ntmps152
      go_wp2_with fail
      refine (HP.out).mono ?_
      rintro e w' ⟨rfl, rfl⟩
      go_wp2_with fail
      go_ret
      exact ⟨ret_bool HK.out.symm, rfl⟩
    · have hI : ¬ (s.size : Int) ≤ 16 := by omega
      have HK : Hid (keyP s = false) := Lib.hid (by unfold keyP; simp [h16])
      clear HP
      go_enter Tryz.func152, Tryz.ntmps152
      go_wp2_with fail
      go_ret
      exact ⟨ret_bool HK.out.symm, rfl⟩
theorem ext_toList (s : ByteArray) (a b : Nat) : (s.extract a b).data.toList = (s.data.toList.take b).drop a := by
  rw [ByteArray.data_extract, Array.toList_extract, List.extract_eq_take_drop, List.drop_take]
set_option maxRecDepth 100000 in
set_option maxHeartbeats 1000000 in
theorem system_any (s : ByteArray) (w : World) (hs : s.size ≤ 1073741824) :
    Calls Tryz.prog 153 #[.string s] w fun e w' => e = .returned (.bool (sysP s)) ∧ w = w' := by
  have hsz := size_list s
  by_cases h1 : 1 < s.size
  · obtain ⟨c, d, r, hl⟩ : ∃ c d r, s.data.toList = c :: d :: r := by
      match hs' : s.data.toList with
      | [] => rw [hs'] at hsz; simp at hsz; omega
      | [_] => rw [hs'] at hsz; simp at hsz; omega
      | c :: d :: r => exact ⟨c, d, r, rfl⟩
    have hr : r.length + 2 = s.size := by rw [hl] at hsz; simpa using hsz
    have h1I : (1 : Int) < (s.size : Int) := by omega
    by_cases h16 : s.size ≤ 16
    · have hI : (s.size : Int) ≤ 16 := by omega
      have hc0 : s[0]'(Nat.lt_trans Nat.zero_lt_one h1) = c := by
        have : s.data.toList[0]? = some (s[0]'(Nat.lt_trans Nat.zero_lt_one h1)) := by
          rw [List.getElem?_eq_getElem (by simp; omega)]; rfl
        rw [hl] at this
        simpa using this.symm
      have hex : (s.extract 1 s.size).data.toList = d :: r := by
        rw [ext_toList, List.take_of_length_le (by simp), hl]
        rfl
      have hexs : (s.extract 1 s.size).size ≤ 1073741824 := by
        have := size_list (s.extract 1 s.size)
        rw [hex, List.length_cons] at this
        omega
      have HP := Lib.hid (plain_any (s.extract 1 s.size) w hexs)
      rw [hex] at HP
      obtain ⟨b, hb⟩ : ∃ b, plainL (d :: r) = b := ⟨_, rfl⟩
      rw [hb] at HP
      have HK : Hid (sysP s = (decide (c.toNat = 126) && b)) := Lib.hid (by unfold sysP; rw [hl]; simp only [sysL]; rw [hb]; (have h14 : r.length ≤ 14 := by omega); simp [h14])
      have HC := Lib.hid hc0
      clear hb hex hl hsz hc0 hexs
      by_cases hc : c.toNat = 126
      · have q0 : (((s[0]'(Nat.lt_trans Nat.zero_lt_one h1)).toNat : Int) == 126) = true := by rw [HC.out, hc]; rfl
        go_enter Tryz.func153, Tryz.ntmps153
        go_wp2_with fail
        refine (HP.out).mono ?_
        rintro e w' ⟨rfl, rfl⟩
        go_wp2_with fail
        go_ret
        exact ⟨ret_bool (by rw [HK.out]; simp [hc]), rfl⟩
      · have q0 : (((s[0]'(Nat.lt_trans Nat.zero_lt_one h1)).toNat : Int) == 126) = false := by rw [HC.out]; simp; omega
        clear HP
        go_enter Tryz.func153, Tryz.ntmps153
        go_wp2_with fail
        go_ret
        exact ⟨ret_bool (by rw [HK.out]; simp [hc]), rfl⟩
    · have hI : ¬ (s.size : Int) ≤ 16 := by omega
      have HK : Hid (sysP s = false) := Lib.hid (by
        cases h : sysP s with
        | false => rfl
        | true => have := sysP_le h; omega)
      go_enter Tryz.func153, Tryz.ntmps153
      go_wp2_with fail
      go_ret
      exact ⟨ret_bool HK.out.symm, rfl⟩
  · have hI : ¬ (1 : Int) < (s.size : Int) := by omega
    have HK : Hid (sysP s = false) := Lib.hid (by
      unfold sysP
      match hs' : s.data.toList with
      | [] => rfl
      | [_] => rfl
      | c :: d :: r => rw [hs'] at hsz; simp at hsz; omega)
    clear hsz
    go_enter Tryz.func153, Tryz.ntmps153
    go_wp2_with fail
    go_ret
    exact ⟨ret_bool HK.out.symm, rfl⟩
/-- An operation as a value. -/
abbrev opV (o : OpV) : Value := .agg #[.int .i64 o.k, .string o.s, .int .i64 o.n, .int .i64 o.lo]
theorem kindO_iff (o : OpV) : kindO o = true ↔ (1 ≤ o.k ∧ o.k ≤ 6) ∧ (o.k = 5 ∨ o.lo = 0) ∧ ((o.k = 1 ∨ o.k = 3) → o.n = 0) := by unfold kindO; simp only [decide_eq_true_eq]
theorem mayO_not {o : OpV} (h : ¬ ((1 ≤ o.k ∧ o.k ≤ 6) ∧ (o.k = 5 ∨ o.lo = 0) ∧ ((o.k = 1 ∨ o.k = 3) → o.n = 0))) : mayO o = false := by
  unfold mayO
  cases hk : kindO o with
  | false => rfl
  | true => exact absurd ((kindO_iff o).1 hk) h
theorem mayO_yes {o : OpV} (h : (1 ≤ o.k ∧ o.k ≤ 6) ∧ (o.k = 5 ∨ o.lo = 0) ∧ ((o.k = 1 ∨ o.k = 3) → o.n = 0)) : mayO o = (keyP o.s || sysP o.s) := by
  unfold mayO
  rw [(kindO_iff o).2 h]
  rfl
set_option maxRecDepth 100000 in
set_option maxHeartbeats 2000000 in
theorem opmay_any (k : Int) (s : ByteArray) (n lo : Int) (w : World) (hs : s.size ≤ 1073741824) :
    Calls Tryz.prog 106 #[.agg #[.int .i64 k, .string s, .int .i64 n, .int .i64 lo]] w fun e w' => e = .returned (.bool (mayO ⟨k, s, n, lo⟩)) ∧ Below w.heap.size w w' := by
  have HKY := Lib.hid (fun W => key_any s W hs)
  have HSY := Lib.hid (fun W => system_any s W hs)
  by_cases hk : kindO ⟨k, s, n, lo⟩ = true
  · have HM := Lib.hid (mayO_yes ((kindO_iff _).1 hk))
    obtain ⟨⟨h1, h6⟩, h5, h0⟩ := (kindO_iff _).1 hk
    simp only at h1 h6 h5 h0 HM
    obtain ⟨kb, hkb⟩ : ∃ b, keyP s = b := ⟨_, rfl⟩
    obtain ⟨sb, hsb⟩ : ∃ b, sysP s = b := ⟨_, rfl⟩
    rw [hkb] at HKY HM
    rw [hsb] at HSY HM
    have HB : Hid (Below w.heap.size w (w.alloc (.cells #[.int .i64 k, .string s, .int .i64 n, .int .i64 lo] 168))) := Lib.hid (below_new _)
    clear hk hkb hsb
    have hcs : (k = 1 ∧ n = 0 ∧ lo = 0) ∨ (k = 3 ∧ n = 0 ∧ lo = 0) ∨ (k = 2 ∧ lo = 0) ∨ (k = 4 ∧ lo = 0) ∨ (k = 6 ∧ lo = 0) ∨ k = 5 := by omega
    clear h1 h6 h0 h5
    rcases hcs with ⟨rfl, rfl, rfl⟩ | ⟨rfl, rfl, rfl⟩ | ⟨rfl, rfl⟩ | ⟨rfl, rfl⟩ | ⟨rfl, rfl⟩ | rfl
    all_goals
      go_enter Tryz.func106, Tryz.ntmps106
      go_wp2_with fail
      refine (HKY.out _).mono ?_
      rintro e w' ⟨rfl, rfl⟩
      cases kb with
      | true =>
        go_wp2_with fail
        go_ret
        exact ⟨ret_bool (by rw [HM.out]; rfl), HB.out⟩
      | false =>
        go_wp2_with fail
        refine (HSY.out _).mono ?_
        rintro e w' ⟨rfl, rfl⟩
        go_wp2_with fail
        go_ret
        exact ⟨ret_bool (by rw [HM.out]; rfl), HB.out⟩
  · have HM : Hid (mayO ⟨k, s, n, lo⟩ = false) := Lib.hid (mayO_not fun h => hk ((kindO_iff _).2 h))
    have HB : Hid (Below w.heap.size w (w.alloc (.cells #[.int .i64 k, .string s, .int .i64 n, .int .i64 lo] 168))) := Lib.hid (below_new _)
    have hk2 : ¬ ((1 ≤ k ∧ k ≤ 6) ∧ (k = 5 ∨ lo = 0) ∧ ((k = 1 ∨ k = 3) → n = 0)) := fun h => hk ((kindO_iff _).2 h)
    clear HKY HSY hk
    by_cases hr : 1 ≤ k ∧ k ≤ 6
    · have hcs : k = 1 ∨ k = 3 ∨ k = 2 ∨ k = 4 ∨ k = 6 ∨ k = 5 := by omega
      by_cases hlo : lo = 0
      · have hn : ¬ n = 0 := fun hn => hk2 ⟨hr, .inr hlo, fun _ => hn⟩
        have hnb : (n != 0) = true := by simpa using hn
        have hcs : k = 1 ∨ k = 3 := by
          refine Classical.byContradiction fun h => hk2 ⟨hr, .inr hlo, fun h' => absurd h' h⟩
        clear hk2 hr
        subst hlo
        rcases hcs with rfl | rfl
        all_goals
          go_enter Tryz.func106, Tryz.ntmps106
          go_wp2_with fail
          go_ret
          exact ⟨ret_bool HM.out.symm, HB.out⟩
      · have hlb : (lo != 0) = true := by simpa using hlo
        have h5 : k ≠ 5 ∨ False := by
          by_cases h5 : k = 5
          · subst h5
            exact absurd ⟨hr, .inl rfl, fun h => by omega⟩ hk2
          · exact .inl h5
        have hcs : k = 1 ∨ k = 3 ∨ k = 2 ∨ k = 4 ∨ k = 6 := by omega
        clear hk2 hr h5
        by_cases hn : n = 0
        · subst hn
          rcases hcs with rfl | rfl | rfl | rfl | rfl
          all_goals
            go_enter Tryz.func106, Tryz.ntmps106
            go_wp2_with fail
            go_ret
            exact ⟨ret_bool HM.out.symm, HB.out⟩
        · have hnb : (n != 0) = true := by simpa using hn
          rcases hcs with rfl | rfl | rfl | rfl | rfl
          all_goals
            go_enter Tryz.func106, Tryz.ntmps106
            go_wp2_with fail
            go_ret
            exact ⟨ret_bool HM.out.symm, HB.out⟩
    · have g1 : ¬ k = 1 := by omega
      have g2 : ¬ k = 2 := by omega
      have g3 : ¬ k = 3 := by omega
      have g4 : ¬ k = 4 := by omega
      have g5 : ¬ k = 5 := by omega
      have g6 : ¬ k = 6 := by omega
      clear hk2 hr
      go_enter Tryz.func106, Tryz.ntmps106
      go_wp2_with fail
      go_ret
      exact ⟨ret_bool HM.out.symm, HB.out⟩
end Go.Proofs.YtmbonngjkgcijaaGreatDoor

namespace Go.Proofs.YtmbonngjkgcijaaGreatDoor
open Go.RowKit Go.Shelf

set_option maxRecDepth 100000 in
set_option maxHeartbeats 1000000 in
theorem asked_any (k : Int) (s : ByteArray) (n lo : Int) (w : World) (hs : s.size ≤ 1073741824) :
    Calls Tryz.prog 170 #[.agg #[.int .i64 k, .string s, .int .i64 n, .int .i64 lo]] w fun e w' => e = .returned (.bool (askO ⟨k, s, n, lo⟩)) ∧ Below w.heap.size w w' := by
  have HKY := Lib.hid (fun W => key_any s W hs)
  have HM := Lib.hid (fun W => opmay_any k s n lo W hs)
  have HB : Hid (Below w.heap.size w (w.alloc (.cells #[.int .i64 k, .string s, .int .i64 n, .int .i64 lo] 168))) := Lib.hid (below_new _)
  have hat := alloc_at w (.cells #[.int .i64 k, .string s, .int .i64 n, .int .i64 lo] 168)
  have HA := Lib.hid hat
  obtain ⟨mb, hmb⟩ : ∃ b, mayO ⟨k, s, n, lo⟩ = b := ⟨_, rfl⟩
  obtain ⟨kb, hkb⟩ : ∃ b, keyP s = b := ⟨_, rfl⟩
  rw [hmb] at HM
  rw [hkb] at HKY
  have HE : Hid (askO ⟨k, s, n, lo⟩ = (mb && kb)) := Lib.hid (by unfold askO; rw [hmb]; simp only; rw [hkb])
  clear hmb hkb hat
  go_enter Tryz.func170, Tryz.ntmps170
  go_wp2_with fail
  refine (HM.out _).mono ?_
  rintro e w1 ⟨rfl, hb1⟩
  have HB1 := Lib.hid (HB.out.trans (hb1.mono HB.out.size))
  have k1 : w1.cell? ⟨w.heap.size, 1, none⟩ = some (.string s) := (hb1.cell (p := ⟨w.heap.size, 1, none⟩) (by show w.heap.size < _; rw [asz]; omega)).trans (cell_of HA.out 1)
  clear hb1
  cases mb with
  | false =>
    go_wp2_with fail
    go_ret
    exact ⟨ret_bool (by rw [HE.out]; rfl), HB1.out⟩
  | true =>
    go_wp2_with fail
    refine (HKY.out _).mono ?_
    rintro e w2 ⟨rfl, rfl⟩
    go_wp2_with fail
    go_ret
    exact ⟨ret_bool (by rw [HE.out]; rfl), HB1.out⟩
/-- A slice that reads as operations, wherever it lies; their texts are not too long. -/
structure OpsAt (w : World) (v : Value) (l : List OpV) : Prop where
  form : ∃ A cap, v = .slice A l.length cap ∧ l.length ≤ cap ∧ cap ≤ maxLen ∧ ∀ (i : Nat) (o : OpV), l[i]? = some o → ∃ a : Addr, A = some a ∧ a.block < w.heap.size ∧ w.cell? (a.add (i * 4)) = some (.int .i64 o.k) ∧ w.cell? ⟨(a.add (i * 4)).block, (a.add (i * 4)).off + 1, none⟩ = some (.string o.s) ∧ w.cell? ⟨(a.add (i * 4)).block, (a.add (i * 4)).off + 2, none⟩ = some (.int .i64 o.n) ∧ w.cell? ⟨(a.add (i * 4)).block, (a.add (i * 4)).off + 3, none⟩ = some (.int .i64 o.lo)
theorem OpsAt.below {w w' : World} {v : Value} {l : List OpV} (h : OpsAt w v l) (hb : Below w.heap.size w w') : OpsAt w' v l := by
  obtain ⟨A, cap, e, h1, h2, h3⟩ := h.form
  refine ⟨A, cap, e, h1, h2, fun i o hi => ?_⟩
  obtain ⟨a, q0, q1, k0, k1, k2, k3⟩ := h3 i o hi
  have hblk : (a.add (i * 4)).block < w.heap.size := by rw [add_block]; exact q1
  exact ⟨a, q0, Nat.lt_of_lt_of_le q1 hb.size, (hb.cell hblk).trans k0, (hb.cell (p := ⟨(a.add (i * 4)).block, (a.add (i * 4)).off + 1, none⟩) hblk).trans k1, (hb.cell (p := ⟨(a.add (i * 4)).block, (a.add (i * 4)).off + 2, none⟩) hblk).trans k2, (hb.cell (p := ⟨(a.add (i * 4)).block, (a.add (i * 4)).off + 3, none⟩) hblk).trans k3⟩
/-- Texts that are not too long. -/
def KeysIn (l : List OpV) : Prop := ∀ o ∈ l, o.s.size ≤ 1073741824
theorem all_take {l : List OpV} {k : Nat} {o : OpV} (h : l[k]? = some o) (hk : (l.take k).all askO = true) : (l.take (k + 1)).all askO = askO o := by
  have hlt := (List.getElem?_eq_some_iff.1 h).1
  rw [List.take_succ_eq_append_getElem hlt, List.all_append, hk, (List.getElem?_eq_some_iff.1 h).2]
  simp
theorem ret_int' {k : IntKind} {a b : Int} (h : a = b) : Ending.returned (.int k a) = .returned (.int k b) := by rw [h]
theorem numOk_cons {p : Lk} {c : List Lk} (hp : ∀ e, p ≠ .num e) (h : NumOk c) : NumOk (p :: c) := fun e he => by
  rcases List.mem_cons.1 he with he | he
  · exact absurd he.symm (hp e)
  · exact h e he
theorem numOk_one {n : Int} (hn : n ≠ 0) : NumOk [.num n] := fun e he => by
  obtain rfl : e = n := by simpa using he
  exact hn
theorem below_of_drew {w w' : World} (h : Below w.drew.heap.size w.drew w') : Below w.heap.size w w' := (below_drew (Below.refl _ w)).trans h
theorem ErrIs.form2 {w : World} {c : List Lk} {v : Value} (h : ErrIs w c v) (hc : c ≠ []) : ∃ t u, v = .iface t u := by
  cases c with
  | nil => exact absurd rfl hc
  | cons k r => exact h.form1
/-- What check tells: an error of this number, in new blocks. -/
def CheckPost (c : Nat) (w : World) (e : Ending) (w' : World) : Prop := ∃ v ch, e = .returned v ∧ ErrIs w' ch v ∧ NumOk ch ∧ ch.length < 1000 ∧ codeOf ch = (c : Int) ∧ Below w.heap.size w w'
set_option maxRecDepth 100000 in
set_option maxHeartbeats 2000000 in
theorem ocheck_any {w : World} {v : Value} {l : List OpV} (h : OpsAt w v l) (hk : KeysIn l) :
    Calls Tryz.prog 154 #[v] w (CheckPost (checkO l) w) := by
  obtain ⟨A, cap, rfl, hc1, hc2, hcell⟩ := h.form
  unfold maxLen at hc2
  by_cases h8 : 8 < l.length
  · have HP : Hid (checkO l = 7) := Lib.hid (by unfold checkO; rw [if_pos h8])
    have h8I : (8 : Int) < (l.length : Int) := by omega
    clear h hcell hk
    go_enter Tryz.func154, Tryz.ntmps154
    go_wp2_with fail
    refine (new_any 7 _).mono ?_
    rintro e w1 ⟨ev, rfl, hev, hb1⟩
    obtain ⟨t1, u1, rfl⟩ := hev.form2 (by simp [newL, onto])
    have HEV := Lib.hid hev
    have HB1 := Lib.hid hb1
    clear hev hb1
    go_wp2_with fail
    refine (bound_any _ _ HEV.out).mono ?_
    rintro e w2 ⟨ev, rfl, hev, hb2⟩
    have HEV2 := Lib.hid hev
    have HB2 := Lib.hid (HB1.out.trans (hb2.mono HB1.out.size))
    clear hev hb2
    go_wp2
    go_ret
    refine ⟨_, _, rfl, HEV2.out, ?_, ?_, ?_, HB2.out⟩
    · simp only [newL, onto]
      exact numOk_cons (fun e h => by cases h) (numOk_one (by decide))
    · simp [newL, onto]
    · rw [HP.out]; rfl
  · have h8I : ¬ (8 : Int) < (l.length : Int) := by omega
    have hlI : (l.length : Int) ≤ 8 := by omega
    have HH := Lib.hid h
    have HC := Lib.hid hcell
    have HK := Lib.hid hk
    obtain ⟨m, hm⟩ : ∃ m, l.length = m := ⟨_, rfl⟩
    have HM := Lib.hid hm
    rw [hm] at h8 h8I hlI hc1
    clear h hcell hk
    rw [hm]
    clear hm
    go_enter Tryz.func154, Tryz.ntmps154
    go_wp2_with fail
    go_loopw [14] (fun iv wr => ∃ i : Nat, i ≤ m ∧ iv = .int .i64 i ∧ (l.take i).all askO = true ∧ Below w.heap.size w wr) (fun iv _ => m - (intOf iv).toNat)
    case atStart => exact ⟨0, Nat.zero_le _, rfl, rfl, Below.refl _ _⟩
    case round =>
      obtain ⟨i, hi, rfl, hall, hbw⟩ := hrel
      by_cases hlt : i < m
      · obtain ⟨o, ho⟩ : ∃ o, l[i]? = some o := ⟨_, List.getElem?_eq_getElem (by rw [HM.out]; exact hlt)⟩
        obtain ⟨a, rfl, q1, k0, k1, k2, k3⟩ := HC.out i o ho
        have hblk : (a.add (i * 4)).block < w.heap.size := by rw [add_block]; exact q1
        replace k0 := (hbw.cell hblk).trans k0
        replace k1 := (hbw.cell (p := ⟨(a.add (i * 4)).block, (a.add (i * 4)).off + 1, none⟩) hblk).trans k1
        replace k2 := (hbw.cell (p := ⟨(a.add (i * 4)).block, (a.add (i * 4)).off + 2, none⟩) hblk).trans k2
        replace k3 := (hbw.cell (p := ⟨(a.add (i * 4)).block, (a.add (i * 4)).off + 3, none⟩) hblk).trans k3
        have hsz := HK.out o (List.mem_of_getElem? ho)
        have HNX := Lib.hid (all_take ho hall)
        have HNO : Hid (askO o = false → l.all askO = false) := Lib.hid (fun h => by
          rw [List.all_eq_false]
          exact ⟨o, List.mem_of_getElem? ho, by simp [h]⟩)
        obtain ⟨kd, s, n, lo⟩ := o
        simp only at k0 k1 k2 k3 hsz
        have HAS := Lib.hid (fun W => asked_any kd s n lo W hsz)
        obtain ⟨b, hb⟩ : ∃ b, askO ⟨kd, s, n, lo⟩ = b := ⟨_, rfl⟩
        rw [hb] at HAS HNX HNO
        have hiI : (i : Int) < (m : Int) := by omega
        have HLT := Lib.hid hlt
        have HBW := Lib.hid (hbw.trans ((below_new (w := wr) (.cells #[.int .i64 kd, .string s, .int .i64 n, .int .i64 lo] 168)).mono hbw.size))
        have HAT := Lib.hid (alloc_at wr (.cells #[.int .i64 kd, .string s, .int .i64 n, .int .i64 lo] 168))
        clear hb ho hall hbw hlt hblk q1 hi
        go_wp2_with fail
        refine (HAS.out _).mono ?_
        rintro e w1 ⟨rfl, hb1⟩
        have HB1 := Lib.hid (HBW.out.trans (hb1.mono HBW.out.size))
        have c1 : w1.cell? ⟨wr.heap.size, 1, none⟩ = some (.string s) := (hb1.cell (p := ⟨wr.heap.size, 1, none⟩) (by show wr.heap.size < _; rw [asz]; omega)).trans (cell_of HAT.out 1)
        clear hb1 k0 k1 k2 k3
        cases b with
        | true =>
          go_wp2_with fail
          go_roundw
          case rel => exact ⟨i + 1, HLT.out, by go_num, HNX.out, HB1.out⟩
          case measure => have := HLT.out; simp [intOf]; omega
        | false =>
          have HK0 := Lib.hid c1
          go_wp2_with fail
          refine wp_only ?_
          refine wp_region_held_drew (S := fun W => W.cell? ⟨wr.heap.size, 1, none⟩ = some (.string s)) (by kernel_rfl) HK0.out (fun hHeld => ?_)
          refine tkH (i := 0) (oi := { dst := some 22, op := .move (.tmp 3), type := 3, pos := "ops.go:133", after := #[], guard := none }) (v := ?vv1) ?hy1 ?rest1
          case hy1 => (refine Or.inl ⟨by rfl, ?_⟩; intro W hSw; (try dsimp only at hSw); go_simp; (try with_reducible rfl))
          try simp only [Act.put, pzz]
          refine tkH (i := 1) (oi := { dst := some 23, op := .fieldAddr 168 (.tmp 4) 1, type := 0, pos := "ops.go:133", after := #[], guard := none }) (v := ?vv2) ?hy2 ?rest2
          case hy2 => (refine Or.inl ⟨by rfl, ?_⟩; intro W hSw; (try dsimp only at hSw); go_simp; (try with_reducible rfl))
          try simp only [Act.put, pzz]
          refine tkH (i := 2) (oi := { dst := some 24, op := .load 9 (.tmp 23), type := 9, pos := "ops.go:133", after := #[⟨1, .data⟩], guard := none }) (v := ?vv3) ?hy3 ?rest3
          case hy3 => (refine Or.inl ⟨by rfl, ?_⟩; intro W hSw; (try dsimp only at hSw); go_simp; (try with_reducible rfl))
          try simp only [Act.put, pzz]
          refine wpAnyH_ready (rs := [3]) (by kernel_rfl) (by simp) ?_
          refine AllReadyH.cons (o := { dst := some 25, op := .call { callee := .value (.func 68), args := #[.const (.int .i64 2)], argTypes := #[24] }, type := 94, pos := "ops.go:133", after := #[], guard := none }) rfl (fun K hK => ?step4) ?more4
          case more4 => exact AllReadyH.nil
          ((go_simp; go_at_call 68; refine (new_any 2 _).mono ?_; rintro e w8 ⟨ev, rfl, hev, hb8⟩; obtain ⟨t8, u8, rfl⟩ := hev.form2 (by simp [newL, onto]); have HEV := Lib.hid hev; have HB8 := Lib.hid (below_of_drew hb8); clear hev hb8; go_wp2_with fail))
          refine hK.out _ _ ?hS4 (fun hHeld => ?rr4)
          case hS4 => (exact (HB8.out.cell (World.block_lt_of_cell? _ _ HK0.out)).trans HK0.out)
          clear hK K
          try simp only [Act.put, pzz]
          refine wpAnyH_ready (rs := [4]) (by kernel_rfl) (by simp) ?_
          refine AllReadyH.cons (o := { dst := some 26, op := .call { callee := .value (.func 74), args := #[.tmp 24, .tmp 25], argTypes := #[9, 94] }, type := 94, pos := "ops.go:133", after := #[⟨2, .data⟩, ⟨3, .data⟩, ⟨3, .chain⟩], guard := none }) rfl (fun K hK => ?step5) ?more5
          case more5 => exact AllReadyH.nil
          ((go_simp; go_at_call 74; refine (in_any _ HEV.out).mono ?_; rintro e w9 ⟨ev, rfl, hev, hb9⟩; obtain ⟨t9, u9, rfl⟩ := hev.form2 (by simp [newL, onto]); have HEV2 := Lib.hid hev; have HB9 := Lib.hid (HB8.out.trans (hb9.mono HB8.out.size)); clear hev hb9; go_wp2_with fail))
          refine hK.out _ _ ?hS5 (fun hHeld => ?rr5)
          case hS5 => (exact (HB9.out.cell (World.block_lt_of_cell? _ _ HK0.out)).trans HK0.out)
          clear hK K
          try simp only [Act.put, pzz]
          refine wpAnyH_ready (rs := [5]) (by kernel_rfl) (by simp) ?_
          refine AllReadyH.cons (o := { dst := some 27, op := .call { callee := .value (.func 67), args := #[.tmp 22, .tmp 26], argTypes := #[3, 94] }, type := 94, pos := "ops.go:133", after := #[⟨0, .data⟩, ⟨4, .data⟩, ⟨4, .chain⟩], guard := none }) rfl (fun K hK => ?step6) ?more6
          case more6 => exact AllReadyH.nil
          ((go_simp; go_at_call 67; refine (at_any _ HEV2.out).mono ?_; rintro e wa ⟨ev, rfl, hev, hba⟩; obtain ⟨ta, ua, rfl⟩ := hev.form2 (by simp [newL, onto]); have HEV3 := Lib.hid hev; have HBA := Lib.hid (HB9.out.trans (hba.mono HB9.out.size)); clear hev hba; go_wp2_with fail))
          refine hK.out _ _ ?hS6 (fun hHeld => ?rr6)
          case hS6 => (exact (HBA.out.cell (World.block_lt_of_cell? _ _ HK0.out)).trans HK0.out)
          clear hK K
          try simp only [Act.put, pzz]
          refine tkH (i := 6) (oi := { dst := some 2, op := .assign (.tmp 27), type := 94, pos := "ops.go:133", after := #[⟨5, .data⟩, ⟨5, .chain⟩, ⟨0, .phase⟩, ⟨1, .phase⟩, ⟨2, .phase⟩, ⟨3, .phase⟩, ⟨4, .phase⟩, ⟨5, .phase⟩], guard := none }) (v := ?vv7) ?hy7 ?rest7
          case hy7 => (refine Or.inl ⟨by rfl, ?_⟩; intro W hSw; (try dsimp only at hSw); go_simp; (try with_reducible rfl))
          try simp only [Act.put, pzz]
          refine wpAnyH_done (by kernel_rfl) ?_ _
          dsimp only [onlyN]
          clear hHeld
          go_wp2_with fail
          go_ret
          refine ⟨_, _, rfl, HEV3.out, ?_, ?_, ?_, HB1.out.trans (HBA.out.mono HB1.out.size)⟩
          · simp only [newL, onto]
            exact numOk_cons (fun e h => by cases h) (numOk_cons (fun e h => by cases h) (numOk_one (by decide)))
          · simp [newL, onto]
          · have : checkO l = 2 := by
              unfold checkO
              rw [HM.out, if_neg h8, HNO.out (by simp)]
              rfl
            rw [this]; rfl
      · obtain rfl : i = m := by omega
        have HF : Hid (checkO l = 0) := Lib.hid (by
          rw [List.take_of_length_le (by rw [HM.out]; omega)] at hall
          unfold checkO
          rw [HM.out, if_neg h8, if_pos hall])
        have HB := Lib.hid hbw
        clear hall hbw
        go_wp2_with fail
        go_ret
        exact ⟨_, [], rfl, rfl, (fun e h => by cases h), by simp, by rw [HF.out]; rfl, HB.out⟩
set_option maxRecDepth 100000 in
set_option maxHeartbeats 1000000 in
theorem Check_any {w : World} {v : Value} {l : List OpV} (hG : Glob w) (h : OpsAt w v l) (hk : KeysIn l) :
    Calls Tryz.prog 116 #[v] w fun e w' => e = .returned (.int .i64 (checkO l)) ∧ Below w.heap.size w w' := by
  have HC := Lib.hid (ocheck_any h hk)
  obtain ⟨A, cap, rfl, _⟩ := h.form
  have HG := Lib.hid hG
  clear h hk hG
  go_enter Tryz.func116, Tryz.ntmps116
  go_wp2_with fail
  refine (HC.out).mono ?_
  rintro e w1 ⟨ev, ch, rfl, hev, hno, hlt, hco, hb1⟩
  have HCD := Lib.hid (code_any (HG.out.below hb1) hev hno hlt (Below.refl _ _))
  have HF := Lib.hid (And.intro hco hb1)
  rcases hev.form with rfl | ⟨t, u, rfl⟩
  all_goals
    clear hev hno hlt hco hb1
    go_wp2_with fail
    refine (HCD.out).mono ?_
    rintro e w2 ⟨rfl, hb2⟩
    have HB2 := Lib.hid (HF.out.2.trans (hb2.mono HF.out.2.size))
    clear hb2
    go_wp2
    go_ret
    exact ⟨ret_int' HF.out.1, HB2.out⟩
end Go.Proofs.YtmbonngjkgcijaaGreatDoor
