/- Load, in plain words: what the program reads, and what the document's own store reads, is the same. -/
import Derived.Test.YtkkembbeejlomaaGreatDoorZOcpE
import Derived.Test.YtkkembbeejlomaaGreatDoorZPgcB
set_option linter.unusedSimpArgs false
set_option linter.unusedVariables false
set_option linter.unnecessarySimpa false
namespace Go.Proofs.YtkkembbeejlomaaGreatDoor
open Go.RowKit Go.Shelf Go.Sort Go.Lib

/-- The next row. -/
def rowS (bs : List UInt8) (st : Option Nat) : Row × Option Nat := (⟨(strS 16 bs st).1.data.toList, (numS bs (strS 16 bs st).2).1⟩, (numS bs (strS 16 bs st).2).2)
/-- Is a key above all those ahead? -/
def riseTo (acc : List Row) (k : K) : Bool := match acc.getLast? with
  | none => true
  | some r => decide (r.k < k)
/-- So many rows of a page, behind others. -/
def rowsS (bs : List UInt8) : Nat → List Row → List Row → Option Nat → Option (List Row × Option Nat)
  | 0, _, p, st => some (p, st)
  | k + 1, B, p, st => match rowS bs st with
    | (_, none) => none
    | (r, some q) => if riseTo (B ++ p) r.k = true then rowsS bs k B (p ++ [r]) (some q) else none
def pagesS (most : Nat) (bs : List UInt8) : Nat → List (List Row) → Option Nat → Option (List (List Row) × Option Nat)
  | 0, P, st => some (P, st)
  | k + 1, P, st => if (natS bs st).1 < 1 ∨ min most (256 - P.flatten.length) < (natS bs st).1 then none else
    match rowsS bs (natS bs st).1 P.flatten [] (natS bs st).2 with
    | none => none
    | some (p, st2) => pagesS most bs k (P ++ [p]) st2
def loadP (most : Nat) (bs : List UInt8) : Option (List (List Row)) := match pagesS most bs (natS bs (some 0)).1 [] (natS bs (some 0)).2 with
  | none => none
  | some (P, st) => if st = some bs.length then some P else none
/-- The document's own way. -/
def rowsR (bs : List UInt8) : Nat → List Row → Option Nat → List Row × Option Nat
  | 0, p, st => (p, st)
  | _ + 1, p, none => (p, none)
  | k + 1, p, some q => rowsR bs k (p ++ [(rowS bs (some q)).1]) (rowS bs (some q)).2
def pagesR (bs : List UInt8) : Nat → List (List Row) → Option Nat → Option (List (List Row) × Option Nat)
  | 0, P, st => some (P, st)
  | _ + 1, P, none => some (P, none)
  | k + 1, P, some q =>
    if 64 < (natS bs (some q)).1 then none else pagesR bs k (P ++ [(rowsR bs (min (natS bs (some q)).1 65) [] (natS bs (some q)).2).1]) (rowsR bs (min (natS bs (some q)).1 65) [] (natS bs (some q)).2).2
def holdsP (most : Nat) (P : List (List Row)) : Prop := (∀ r ∈ P.flatten, r.k.length ≤ 16) ∧ Rise P.flatten ∧ (∀ p ∈ P, p ≠ [] ∧ p.length ≤ most) ∧ P.flatten.length ≤ 256
instance (most : Nat) (P : List (List Row)) : Decidable (holdsP most P) := by unfold holdsP Rise; infer_instance
def loadR (most : Nat) (bs : List UInt8) : Option (List (List Row)) := match pagesR bs (min (natS bs (some 0)).1 257) [] (natS bs (some 0)).2 with
  | none => none
  | some (P, st) => if st = some bs.length ∧ (natS bs (some 0)).1 ≤ 256 ∧ holdsP most P then some P else none
/-! what is read is just its bytes -/
def RowsOk (P : List (List Row)) : Prop := ∀ p ∈ P, ∀ r ∈ p, RowOk r
theorem natS_only {bs : List UInt8} {p n q : Nat} (h : natS bs (some p) = (n, some q)) : n ≤ 18446744073709551615 ∧ bs.drop p = natB n ++ bs.drop q ∧ p ≤ q := by
  unfold natS at h
  simp only at h
  split at h
  · cases h
  · rename_i n' sz hp
    obtain ⟨rfl, e⟩ : n' = n ∧ p + sz = q := by simpa using h
    obtain ⟨h1, h2, h3⟩ := natP_only hp
    refine ⟨h1, ?_, by omega⟩
    rw [← h2, ← e, ← List.drop_drop, List.take_append_drop]
theorem natS_back {bs : List UInt8} {p n : Nat} {l : List UInt8} (hn : n ≤ 18446744073709551615) (h : bs.drop p = natB n ++ l) : natS bs (some p) = (n, some (p + (natB n).length)) ∧ bs.drop (p + (natB n).length) = l := by
  refine ⟨?_, ?_⟩
  · unfold natS
    simp only [h, natP_natB n hn]
  · rw [← List.drop_drop, h, List.drop_left' rfl]
theorem strS_only {bs : List UInt8} {most p q : Nat} {s : ByteArray} (h : strS most bs (some p) = (s, some q)) : s.size ≤ most ∧ bs.drop p = strB s ++ bs.drop q ∧ p ≤ q := by
  unfold strS at h
  simp only at h
  split at h
  · cases h
  · rename_i s' k hp
    obtain ⟨rfl, e⟩ : s' = s ∧ p + k = q := by simpa using h
    obtain ⟨h1, _, h2, h3⟩ := strP_only hp
    refine ⟨h1, ?_, by omega⟩
    rw [← h2, ← e, ← List.drop_drop, List.take_append_drop]
theorem strS_back {bs : List UInt8} {most p : Nat} {s : ByteArray} {l : List UInt8} (hs : s.size ≤ most) (hm : most ≤ 1073741824) (h : bs.drop p = strB s ++ l) : strS most bs (some p) = (s, some (p + (strB s).length)) ∧ bs.drop (p + (strB s).length) = l := by
  refine ⟨?_, ?_⟩
  · unfold strS
    simp only [h, strP_strB hs hm]
  · rw [← List.drop_drop, h, List.drop_left' rfl]
theorem natS_none {bs : List UInt8} : natS bs none = (0, none) := rfl
theorem strS_none {most : Nat} {bs : List UInt8} : strS most bs none = (⟨#[]⟩, none) := rfl
theorem rowS_none {bs : List UInt8} : (rowS bs none).2 = none := rfl
theorem rowS_only {bs : List UInt8} {p q : Nat} {r : Row} (h : rowS bs (some p) = (r, some q)) : RowOk r ∧ bs.drop p = rowB r ++ bs.drop q := by
  unfold rowS at h
  obtain ⟨h1, h2⟩ := Prod.mk.inj h
  obtain ⟨s, q1, hs⟩ : ∃ s q1, strS 16 bs (some p) = (s, q1) := ⟨_, _, rfl⟩
  rw [hs] at h1 h2
  simp only at h1 h2
  cases q1 with
  | none => cases h2
  | some q1 =>
    obtain ⟨n, q2, hn⟩ : ∃ n q2, natS bs (some q1) = (n, q2) := ⟨_, _, rfl⟩
    unfold numS at h1 h2
    rw [hn] at h1 h2
    simp only at h1 h2
    subst h2
    obtain ⟨a1, a2, _⟩ := strS_only hs
    obtain ⟨b1, b2, _⟩ := natS_only hn
    subst h1
    refine ⟨⟨?_, ?_, ?_⟩, ?_⟩
    · simpa using a1
    · show _ ≤ numV n
      unfold numV; split <;> omega
    · show numV n ≤ _
      unfold numV; split <;> omega
    · rw [a2, b2]
      unfold rowB
      simp only [numN_numV]
      rw [List.append_assoc]
theorem rowS_back {bs : List UInt8} {p : Nat} {r : Row} {l : List UInt8} (hr : RowOk r) (h : bs.drop p = rowB r ++ l) : rowS bs (some p) = (r, some (p + (rowB r).length)) ∧ bs.drop (p + (rowB r).length) = l := by
  have h0 := h
  unfold rowB at h
  rw [List.append_assoc] at h
  obtain ⟨h1, h2, h3⟩ := hr
  obtain ⟨a1, a2⟩ := strS_back (most := 16) (by simpa [ByteArray.size] using h1) (by omega) h
  obtain ⟨b1, b2⟩ := natS_back (numN_le h2 h3) a2
  refine ⟨?_, by rw [← List.drop_drop, h0, List.drop_left' rfl]⟩
  unfold rowS numS
  rw [a1]
  simp only
  rw [b1]
  simp only [numV_numN]
  unfold rowB
  rw [List.length_append, Nat.add_assoc]
theorem rise_snoc {acc : List Row} {r : Row} : riseTo acc r.k = true ∧ Rise acc ↔ Rise (acc ++ [r]) := by
  unfold Rise
  rw [List.pairwise_append]
  unfold riseTo
  constructor
  · rintro ⟨h1, h2⟩
    refine ⟨h2, by simp, fun a ha b hb => ?_⟩
    obtain rfl := List.mem_singleton.1 hb
    rcases List.eq_nil_or_concat acc with rfl | ⟨l, x, rfl⟩
    · cases ha
    · simp only [List.concat_eq_append] at h1 h2 ha
      simp only [List.getLast?_append, List.getLast?_singleton, Option.some_or] at h1
      have h1 : x.k < b.k := by simpa using h1
      rcases List.mem_append.1 ha with h | h
      · have := (List.pairwise_append.1 h2).2.2 a h x (by simp)
        exact List.lt_trans this h1
      · obtain rfl := List.mem_singleton.1 h
        exact h1
  · rintro ⟨h1, _, h3⟩
    refine ⟨?_, h1⟩
    split
    · rfl
    · rename_i x hx
      have := h3 x (List.mem_of_getLast? hx) r (by simp)
      simpa using this
theorem rowsS_only {bs : List UInt8} : ∀ (k : Nat) {B p p' : List Row} {st : Nat} {st' : Option Nat}, rowsS bs k B p (some st) = some (p', st') → Rise (B ++ p) →
    ∃ t q, st' = some q ∧ p' = p ++ t ∧ t.length = k ∧ Rise (B ++ p') ∧ (∀ r ∈ t, RowOk r) ∧ bs.drop st = t.flatMap rowB ++ bs.drop q
  | 0, B, p, p', st, st', h, hr => by
    unfold rowsS at h
    obtain ⟨rfl, rfl⟩ : p = p' ∧ some st = st' := by simpa using h
    exact ⟨[], st, rfl, by simp, rfl, hr, fun r h => (by cases h), by simp⟩
  | k + 1, B, p, p', st, st', h, hr => by
    unfold rowsS at h
    obtain ⟨r, o, ho⟩ : ∃ r o, rowS bs (some st) = (r, o) := ⟨_, _, rfl⟩
    rw [ho] at h
    cases o with
    | none => cases h
    | some q =>
      simp only at h
      split at h
      · rename_i hrt
        obtain ⟨a1, a2⟩ := rowS_only ho
        have hr2 : Rise (B ++ (p ++ [r])) := by rw [← List.append_assoc]; exact rise_snoc.1 ⟨hrt, hr⟩
        obtain ⟨t, q2, e1, e2, e3, e4, e5, e6⟩ := rowsS_only k h hr2
        refine ⟨r :: t, q2, e1, by rw [e2]; simp, by simp [e3], e4, fun x hx => ?_, ?_⟩
        · rcases List.mem_cons.1 hx with rfl | hx
          · exact a1
          · exact e5 x hx
        · rw [a2, e6, List.flatMap_cons, List.append_assoc]
      · cases h
theorem rowsS_back {bs : List UInt8} : ∀ (t : List Row) {B p : List Row} {st : Nat} {l : List UInt8}, (∀ r ∈ t, RowOk r) → Rise (B ++ p ++ t) → bs.drop st = t.flatMap rowB ++ l →
    rowsS bs t.length B p (some st) = some (p ++ t, some (st + (t.flatMap rowB).length)) ∧ bs.drop (st + (t.flatMap rowB).length) = l
  | [], B, p, st, l, _, _, h => ⟨by simp [rowsS], by simpa using h⟩
  | r :: t, B, p, st, l, hok, hr, h => by
    rw [List.flatMap_cons, List.append_assoc] at h
    obtain ⟨e1, e2⟩ := rowS_back (hok r (by simp)) h
    have hr2 : Rise (B ++ (p ++ [r]) ++ t) := by simpa using hr
    have hr3 : Rise (B ++ p ++ [r]) := by
      unfold Rise at hr ⊢
      exact hr.sublist (by simp)
    obtain ⟨f1, f2⟩ := rowsS_back t (fun x hx => hok x (by simp [hx])) hr2 e2
    have hl : st + (rowB r).length + (t.flatMap rowB).length = st + ((r :: t).flatMap rowB).length := by rw [List.flatMap_cons, List.length_append, Nat.add_assoc]
    rw [hl] at f1 f2
    refine ⟨?_, f2⟩
    rw [List.length_cons]
    unfold rowsS
    rw [e1]
    simp only
    rw [if_pos (rise_snoc.2 hr3).1, f1]
    simp
structure PagesOk (most : Nat) (P : List (List Row)) : Prop where
  page : ∀ p ∈ P, p ≠ [] ∧ p.length ≤ most
  rise : Rise P.flatten
  total : P.flatten.length ≤ 256
  rows : RowsOk P
theorem pagesS_only {most : Nat} {bs : List UInt8} : ∀ (k : Nat) {P P' : List (List Row)} {st : Nat} {st' : Option Nat}, pagesS most bs k P (some st) = some (P', st') → PagesOk most P →
    ∃ T q, st' = some q ∧ P' = P ++ T ∧ T.length = k ∧ PagesOk most P' ∧ bs.drop st = T.flatMap pageB ++ bs.drop q
  | 0, P, P', st, st', h, hP => by
    unfold pagesS at h
    obtain ⟨rfl, rfl⟩ : P = P' ∧ some st = st' := by simpa using h
    exact ⟨[], st, rfl, by simp, rfl, hP, by simp⟩
  | k + 1, P, P', st, st', h, hP => by
    unfold pagesS at h
    obtain ⟨n, o, ho⟩ : ∃ n o, natS bs (some st) = (n, o) := ⟨_, _, rfl⟩
    rw [ho] at h
    simp only at h
    split at h
    · cases h
    · rename_i hn
      cases o with
      | none =>
        have : n = 0 := by
          unfold natS at ho
          simp only at ho
          split at ho
          · exact (Prod.mk.inj ho).1.symm
          · cases (Prod.mk.inj ho).2
        omega
      | some q =>
        split at h
        · cases h
        · rename_i p st2 hp
          obtain ⟨b1, b2, _⟩ := natS_only ho
          obtain ⟨t, q2, rfl, e2, e3, e4, e5, e6⟩ := rowsS_only n hp (by simpa using hP.rise)
          rw [List.nil_append] at e2
          subst e2
          have hok : PagesOk most (P ++ [p]) := ⟨fun x hx => by
              rcases List.mem_append.1 hx with h | h
              · exact hP.page x h
              · obtain rfl := List.mem_singleton.1 h
                exact ⟨fun e => by subst e; simp at e3; omega, by omega⟩, by simpa using e4, (by rw [List.flatten_append, List.length_append]; simp only [List.flatten_cons, List.flatten_nil, List.append_nil]; omega), fun x hx r hr => by
              rcases List.mem_append.1 hx with h | h
              · exact hP.rows x h r hr
              · obtain rfl := List.mem_singleton.1 h
                exact e5 r hr⟩
          obtain ⟨T, q3, f1, f2, f3, f4, f5⟩ := pagesS_only k h hok
          refine ⟨p :: T, q3, f1, by rw [f2]; simp, by simp [f3], f4, ?_⟩
          rw [b2, e6, f5, List.flatMap_cons]
          unfold pageB
          rw [e3]
          simp
theorem pagesS_back {most : Nat} {bs : List UInt8} (hm : most ≤ 64) : ∀ (T : List (List Row)) {P : List (List Row)} {st : Nat} {l : List UInt8}, PagesOk most (P ++ T) → bs.drop st = T.flatMap pageB ++ l →
    pagesS most bs T.length P (some st) = some (P ++ T, some (st + (T.flatMap pageB).length))
  | [], P, st, l, _, h => by simp [pagesS]
  | p :: T, P, st, l, hok, h => by
    rw [List.flatMap_cons] at h
    obtain ⟨hp1, hp2⟩ := hok.page p (by simp)
    unfold pageB at h
    rw [List.append_assoc, List.append_assoc] at h
    obtain ⟨e1, e2⟩ := natS_back (n := p.length) (by omega) h
    have hr : Rise (P.flatten ++ [] ++ p) := by
      have := hok.rise
      simp only [List.flatten_append, List.flatten_cons] at this
      unfold Rise at this ⊢
      exact this.sublist (by simp)
    obtain ⟨f1, f2⟩ := rowsS_back p (hok.rows p (by simp)) hr e2
    have ht := hok.total
    simp only [List.flatten_append, List.flatten_cons, List.length_append] at ht
    have g1 := pagesS_back hm T (P := P ++ [p]) (by simpa using hok) f2
    have hpl := List.length_pos_iff.2 hp1
    rw [List.length_cons]
    unfold pagesS
    rw [e1]
    simp only
    rw [if_neg (by omega), f1]
    simp only [List.nil_append]
    rw [g1, List.flatMap_cons, List.length_append]
    unfold pageB
    rw [List.length_append]
    simp [Nat.add_assoc]
theorem pages_ok_nil {most : Nat} : PagesOk most [] := ⟨fun p hp => (by cases hp), List.Pairwise.nil, Nat.zero_le _, fun p hp => (by cases hp)⟩
theorem PagesOk.fine {most : Nat} {P : List (List Row)} (h : PagesOk most P) (hm : 2 ≤ most ∧ most ≤ 64) : Fine most P :=
  ⟨fun p hp => (h.page p hp).1, fun p hp => (h.page p hp).2, h.rise, h.total, hm⟩
theorem loadP_only {most : Nat} {bs : List UInt8} {P : List (List Row)} (h : loadP most bs = some P) : PagesOk most P ∧ bs = bytesP P := by
  unfold loadP at h
  obtain ⟨n, o, ho⟩ : ∃ n o, natS bs (some 0) = (n, o) := ⟨_, _, rfl⟩
  rw [ho] at h
  simp only at h
  cases o with
  | none =>
    have : n = 0 := by
      unfold natS at ho
      simp only at ho
      split at ho
      · exact (Prod.mk.inj ho).1.symm
      · cases (Prod.mk.inj ho).2
    subst this
    simp [pagesS] at h
  | some q =>
    split at h
    · cases h
    · rename_i P2 st hp
      split at h
      · rename_i hst
        obtain rfl := Option.some.inj h
        subst hst
        obtain ⟨b1, b2, _⟩ := natS_only ho
        obtain ⟨T, q2, e1, e2, e3, e4, e5⟩ := pagesS_only n hp pages_ok_nil
        rw [List.nil_append] at e2
        subst e2
        obtain rfl := Option.some.inj e1
        refine ⟨e4, ?_⟩
        unfold bytesP
        rw [e3]
        have : bs.drop 0 = natB n ++ P2.flatMap pageB := by rw [b2, e5]; simp
        simpa using this
      · cases h
theorem PagesOk.len {most : Nat} {P : List (List Row)} (h : PagesOk most P) : P.length ≤ 256 := Nat.le_trans (flat_len P fun p hp => (h.page p hp).1) h.total
theorem loadP_back {most : Nat} {P : List (List Row)} (hm : most ≤ 64) (h : PagesOk most P) : loadP most (bytesP P) = some P := by
  have h0 : (bytesP P).drop 0 = natB P.length ++ P.flatMap pageB := by simp [bytesP]
  have hl := h.len
  obtain ⟨e1, e2⟩ := natS_back (by omega) h0
  have f1 := pagesS_back hm P (P := []) (by simpa using h) (l := []) (by rw [e2]; simp)
  unfold loadP
  rw [e1]
  simp only
  rw [f1]
  simp only [List.nil_append]
  rw [if_pos (by unfold bytesP; rw [List.length_append]; simp)]
theorem rowsR_none {bs : List UInt8} (k : Nat) (p : List Row) : rowsR bs k p none = (p, none) := by cases k <;> rfl
theorem rowsR_only {bs : List UInt8} : ∀ (k : Nat) {p p' : List Row} {st q : Nat}, rowsR bs k p (some st) = (p', some q) →
    ∃ t, p' = p ++ t ∧ t.length = k ∧ (∀ r ∈ t, RowOk r) ∧ bs.drop st = t.flatMap rowB ++ bs.drop q
  | 0, p, p', st, q, h => by
    unfold rowsR at h
    obtain ⟨rfl, rfl⟩ : p = p' ∧ st = q := by simpa using h
    exact ⟨[], by simp, rfl, fun r h => (by cases h), by simp⟩
  | k + 1, p, p', st, q, h => by
    unfold rowsR at h
    obtain ⟨r, o, ho⟩ : ∃ r o, rowS bs (some st) = (r, o) := ⟨_, _, rfl⟩
    rw [ho] at h
    simp only at h
    cases o with
    | none => rw [rowsR_none] at h; cases (Prod.mk.inj h).2
    | some q2 =>
      obtain ⟨a1, a2⟩ := rowS_only ho
      obtain ⟨t, e1, e2, e3, e4⟩ := rowsR_only k h
      refine ⟨r :: t, by rw [e1]; simp, by simp [e2], fun x hx => ?_, ?_⟩
      · rcases List.mem_cons.1 hx with rfl | hx
        · exact a1
        · exact e3 x hx
      · rw [a2, e4, List.flatMap_cons, List.append_assoc]
theorem rowsR_back {bs : List UInt8} : ∀ (t : List Row) {p : List Row} {st : Nat} {l : List UInt8}, (∀ r ∈ t, RowOk r) → bs.drop st = t.flatMap rowB ++ l →
    rowsR bs t.length p (some st) = (p ++ t, some (st + (t.flatMap rowB).length)) ∧ bs.drop (st + (t.flatMap rowB).length) = l
  | [], p, st, l, _, h => ⟨by simp [rowsR], by simpa using h⟩
  | r :: t, p, st, l, hok, h => by
    rw [List.flatMap_cons, List.append_assoc] at h
    obtain ⟨e1, e2⟩ := rowS_back (hok r (by simp)) h
    obtain ⟨f1, f2⟩ := rowsR_back t (p := p ++ [r]) (fun x hx => hok x (by simp [hx])) e2
    have hl : st + (rowB r).length + (t.flatMap rowB).length = st + ((r :: t).flatMap rowB).length := by rw [List.flatMap_cons, List.length_append, Nat.add_assoc]
    rw [hl] at f1 f2
    refine ⟨?_, f2⟩
    rw [List.length_cons]
    unfold rowsR
    rw [e1]
    simp only
    rw [f1]
    simp
theorem pagesR_none {bs : List UInt8} (k : Nat) (P : List (List Row)) : pagesR bs k P none = some (P, none) := by cases k <;> rfl
theorem pagesR_only {bs : List UInt8} : ∀ (k : Nat) {P P' : List (List Row)} {st q : Nat}, pagesR bs k P (some st) = some (P', some q) →
    ∃ T, P' = P ++ T ∧ T.length = k ∧ RowsOk T ∧ bs.drop st = T.flatMap pageB ++ bs.drop q
  | 0, P, P', st, q, h => by
    unfold pagesR at h
    obtain ⟨rfl, rfl⟩ : P = P' ∧ st = q := by simpa using h
    exact ⟨[], by simp, rfl, fun r h => (by cases h), by simp⟩
  | k + 1, P, P', st, q, h => by
    unfold pagesR at h
    obtain ⟨n, o, ho⟩ : ∃ n o, natS bs (some st) = (n, o) := ⟨_, _, rfl⟩
    rw [ho] at h
    simp only at h
    split at h
    · cases h
    · rename_i hn
      cases o with
      | none =>
        rw [rowsR_none] at h
        rw [pagesR_none] at h
        cases (Prod.mk.inj (Option.some.inj h)).2
      | some q2 =>
        obtain ⟨p, o2, hp⟩ : ∃ p o2, rowsR bs (min n 65) [] (some q2) = (p, o2) := ⟨_, _, rfl⟩
        rw [hp] at h
        simp only at h
        cases o2 with
        | none => rw [pagesR_none] at h; cases (Prod.mk.inj (Option.some.inj h)).2
        | some q3 =>
          obtain ⟨b1, b2, _⟩ := natS_only ho
          obtain ⟨t, e1, e2, e3, e4⟩ := rowsR_only _ hp
          rw [List.nil_append] at e1
          subst e1
          obtain ⟨T, f1, f2, f3, f4⟩ := pagesR_only k h
          refine ⟨p :: T, by rw [f1]; simp, by simp [f2], fun x hx r hr => ?_, ?_⟩
          · rcases List.mem_cons.1 hx with rfl | hx
            · exact e3 r hr
            · exact f3 x hx r hr
          · rw [b2, e4, f4, List.flatMap_cons]
            unfold pageB
            rw [e2, show min n 65 = n by omega]
            simp
theorem pagesR_back {bs : List UInt8} : ∀ (T : List (List Row)) {P : List (List Row)} {st : Nat} {l : List UInt8}, RowsOk T → (∀ p ∈ T, p.length ≤ 64) → bs.drop st = T.flatMap pageB ++ l →
    pagesR bs T.length P (some st) = some (P ++ T, some (st + (T.flatMap pageB).length))
  | [], P, st, l, _, _, h => by simp [pagesR]
  | p :: T, P, st, l, hok, h64, h => by
    rw [List.flatMap_cons] at h
    have hp2 := h64 p (by simp)
    unfold pageB at h
    rw [List.append_assoc, List.append_assoc] at h
    obtain ⟨e1, e2⟩ := natS_back (n := p.length) (by omega) h
    obtain ⟨f1, f2⟩ := rowsR_back p (p := []) (hok p (by simp)) e2
    have g1 := pagesR_back T (P := P ++ [p]) (fun x hx => hok x (by simp [hx])) (fun x hx => h64 x (by simp [hx])) f2
    rw [List.length_cons]
    unfold pagesR
    rw [e1]
    simp only
    rw [if_neg (by omega), show min p.length 65 = p.length by omega, f1]
    simp only [List.nil_append]
    rw [g1, List.flatMap_cons, List.length_append]
    unfold pageB
    rw [List.length_append]
    simp [Nat.add_assoc]
theorem loadR_only {most : Nat} {bs : List UInt8} {P : List (List Row)} (h : loadR most bs = some P) : PagesOk most P ∧ bs = bytesP P := by
  unfold loadR at h
  obtain ⟨n, o, ho⟩ : ∃ n o, natS bs (some 0) = (n, o) := ⟨_, _, rfl⟩
  rw [ho] at h
  simp only at h
  split at h
  · cases h
  · rename_i P2 st hp
    split at h
    · rename_i hst
      obtain ⟨h1, h2, h3, h4, h5, h6⟩ := hst
      obtain rfl := Option.some.inj h
      subst h1
      cases o with
      | none => rw [pagesR_none] at hp; cases (Prod.mk.inj (Option.some.inj hp)).2
      | some q =>
        obtain ⟨b1, b2, _⟩ := natS_only ho
        obtain ⟨T, e1, e2, e3, e4⟩ := pagesR_only _ hp
        rw [List.nil_append] at e1
        subst e1
        refine ⟨⟨h5, h4, h6, e3⟩, ?_⟩
        unfold bytesP
        rw [e2, show min n 257 = n by omega]
        have : bs.drop 0 = natB n ++ P2.flatMap pageB := by rw [b2, e4]; simp
        simpa using this
    · cases h
theorem loadR_back {most : Nat} {P : List (List Row)} (hm : most ≤ 64) (h : PagesOk most P) : loadR most (bytesP P) = some P := by
  have h0 : (bytesP P).drop 0 = natB P.length ++ P.flatMap pageB := by simp [bytesP]
  have hl := h.len
  obtain ⟨e1, e2⟩ := natS_back (by omega) h0
  have f1 := pagesR_back P (P := []) h.rows (fun p hp => Nat.le_trans (h.page p hp).2 hm) (l := []) (by rw [e2]; simp)
  unfold loadR
  rw [e1]
  simp only
  rw [show min P.length 257 = P.length by omega, f1]
  simp only [List.nil_append]
  rw [if_pos ⟨by unfold bytesP; rw [List.length_append]; simp, hl, fun r hr => by
    obtain ⟨p, hp, hr⟩ := List.mem_flatten.1 hr
    exact (h.rows p hp r hr).1, h.rise, h.page, h.total⟩]
/-- Both ways read the same. -/
theorem load_eq {most : Nat} (hm : most ≤ 64) (bs : List UInt8) : loadP most bs = loadR most bs := by
  cases h : loadP most bs with
  | some P =>
    obtain ⟨h1, rfl⟩ := loadP_only h
    exact (loadR_back hm h1).symm
  | none =>
    cases h2 : loadR most bs with
    | none => rfl
    | some P =>
      obtain ⟨h1, rfl⟩ := loadR_only h2
      rw [loadP_back hm h1] at h
      cases h
end Go.Proofs.YtkkembbeejlomaaGreatDoor
