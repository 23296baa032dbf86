/- lock: the document's own table in plain words, and what each of its calls makes of it. lock: a lane, and the document's claims of its key: they are alike, and stay so. lock: take, strike and serve, beside what the document does with the claims of one key. -/
import Derived.Test.YtmchmlkbpocboaaGreatDoorZLokA
set_option linter.unusedSimpArgs false
set_option linter.unusedVariables false
set_option linter.unnecessarySimpa false
namespace Go.Proofs.YtmchmlkbpocboaaGreatDoor

/-- A claim: held, or waited for. -/
structure Cl where
  who : Int
  key : KeyT
  mine : Bool
  raise : Bool
  deriving DecidableEq
/-- The document's table. -/
structure RT where
  held : List Cl
  line : List Cl
  deriving DecidableEq
def rholds (H : List Cl) (who : Int) (k : KeyT) : Int := match H.find? (fun c => c.who == who && c.key == k) with
  | some c => if c.mine then 2 else 1
  | none => 0
def rfits (H : List Cl) (who : Int) (k : KeyT) (mine : Bool) : Bool := H.all fun c => !(c.key == k && c.who != who && (mine || c.mine))
def rwaiting (L : List Cl) (k : KeyT) : Bool := L.any fun c => c.key == k
def rwaits (L : List Cl) (who : Int) : Option Cl := L.find? fun c => c.who == who
def rdrop (l : List Cl) (who : Int) (k : KeyT) (all : Bool) : List Cl := l.filter fun c => c.who != who || (!all && c.key != k)
/-- One round of the loop that puts a claim into the line. -/
def rinsS (c : Cl) (s : List Cl × Bool) (x : Cl) : List Cl × Bool :=
  if !s.2 && c.raise && x.key == c.key && !x.raise then (s.1 ++ [c, x], true) else (s.1 ++ [x], s.2)
def rendS {α : Type} (c : α) (s : List α × Bool) : List α := if s.2 then s.1 else s.1 ++ [c]
def rins (L : List Cl) (c : Cl) : List Cl := rendS c (L.foldl (rinsS c) ([], false))
def raskP (R : RT) (who : Int) (k : KeyT) (mine : Bool) : Int × RT :=
  if who < 1 ∨ 1073741824 < who ∨ 16 < k.length then (2, R)
  else match rwaits R.line who with
    | some w => (if w.key ≠ k ∨ w.mine ≠ mine then 9 else 20, R)
    | none =>
      let h := rholds R.held who k
      if h = 2 ∨ (h = 1 ∧ mine = false) then (0, R)
      else if (h = 1 ∧ rfits R.held who k true = true) ∨ (h = 0 ∧ rwaiting R.line k = false ∧ rfits R.held who k mine = true) then (0, { R with held := rdrop R.held who k false ++ [⟨who, k, mine, false⟩] })
      else (20, { R with line := rins R.line ⟨who, k, mine, decide (h = 1)⟩ })
def rnext (L : List Cl) (k : KeyT) : Option Cl := L.find? fun c => c.key == k
/-- A round of the loops that put a text, or a number, into a rising list. -/
def kinS {α : Type} [DecidableEq α] [LT α] [DecidableLT α] (c : α) (s : List α × Bool) (x : α) : List α × Bool :=
  let t := if !s.2 && !decide (x < c) then (s.1 ++ [c], true) else s
  if x ≠ c then (t.1 ++ [x], t.2) else t
def kin {α : Type} [DecidableEq α] [LT α] [DecidableLT α] (l : List α) (c : α) : List α := rendS c (l.foldl (kinS c) ([], false))
def rkeys (R : RT) : List KeyT := (R.held ++ R.line).foldl (fun o c => kin o c.key) []
def rwho (R : RT) : List Int := (R.held ++ R.line).foldl (fun o c => kin o c.who) []
/-- One that may have its key has it. -/
def rgive (k : KeyT) (s : RT × List Int) (c : Cl) : RT × List Int :=
  (⟨rdrop s.1.held c.who k false ++ [{ c with raise := false }], rdrop s.1.line c.who k false⟩, kin s.2 c.who)
def rserve : Nat → KeyT → RT × List Int → RT × List Int
  | 0, _, s => s
  | n + 1, k, s => match rnext s.1.line k with
    | some c => if rfits s.1.held c.who k c.mine then rserve n k (rgive k s c) else s
    | none => s
def rhas (R : RT) (who : Int) (k : KeyT) : Bool := decide (0 < rholds R.held who k) || (match rwaits R.line who with | some w => w.key == k | none => false)
def rstart (R : RT) (who : Int) : RT := ⟨rdrop R.held who [] true, rdrop R.line who [] true⟩
def rreleaseP (R : RT) (who : Int) : RT × List Int := ((rkeys R).filter (rhas R who)).foldl (fun s k => rserve s.1.line.length k s) (rstart R who, [])
def rholdsP (R : RT) (who : Int) : List (KeyT × Bool) := ((rkeys R).filter fun k => decide (0 < rholds R.held who k)).map fun k => (k, decide (rholds R.held who k = 2))
/-- Who waits for whom: as the document tells them first. -/
def rall (R : RT) : List (Int × Int) := (List.range R.line.length).flatMap fun i => match R.line[i]? with
  | some c => ((R.held.filter fun h => h.key == c.key && h.who != c.who && (c.mine || h.mine)).map fun h => (c.who, h.who)) ++ (((R.line.take i).filter fun d => d.key == c.key && (c.mine || d.mine || d.raise)).map fun d => (c.who, d.who))
  | none => []
def redgesP (R : RT) : List (Int × Int) := (rwho R).flatMap fun a => (rwho R).flatMap fun b => if (a, b) ∈ rall R then [(a, b)] else []
/-- Release, as the program does it: a lane. -/
def relLane (l : Ln) (who : Int) : Ln × List Int := serveP l.row.length (strikeP l who)
end Go.Proofs.YtmchmlkbpocboaaGreatDoor

namespace Go.Proofs.YtmchmlkbpocboaaGreatDoor

def cmOf (c : Cl) : Cm := ⟨c.who, c.mine⟩
def ofKey (L : List Cl) (k : KeyT) : List Cl := L.filter fun c => c.key == k
/-- A lane is what the document holds of its key. -/
structure LSim (l : Ln) (H L : List Cl) (k : KeyT) : Prop where
  held : ∀ x m, (∃ r, (⟨x, k, m, r⟩ : Cl) ∈ H) ↔ x ∈ l.held ∧ m = l.mine
  row : l.row = (ofKey L k).map cmOf
  raise : ∀ c ∈ L, c.key = k → c.raise = decide (c.who ∈ l.held)
/-- What holds of a lane between two calls. -/
structure LnOk (l : Ln) : Prop where
  nodup : (l.row.map Cm.who).Nodup
  tog : l.mine = true → ∀ x ∈ l.held, ∀ y ∈ l.held, x = y
  stuck : ∀ c, l.row.head? = some c → letsP l c = false
  front : l.row.Pairwise fun a b => b.who ∈ l.held → a.who ∈ l.held
  raise : ∀ c ∈ l.row, c.who ∈ l.held → c.mine = true
theorem ofKey_mem {L : List Cl} {k : KeyT} {c : Cl} : c ∈ ofKey L k ↔ c ∈ L ∧ c.key = k := by
  unfold ofKey
  rw [List.mem_filter, beq_iff_eq]
theorem lets_iff {l : Ln} {c : Cm} : letsP l c = true ↔ (∀ x ∈ l.held, x = c.who) ∨ (l.mine = false ∧ c.mine = false) := by
  unfold letsP togP
  rw [Bool.or_eq_true, List.isEmpty_iff, List.filter_eq_nil_iff]
  simp only [bne_iff_ne, ne_eq, Decidable.not_not, Bool.and_eq_true, Bool.not_eq_true']
theorem lets_row {l : Ln} {c : Cm} {r : List Cm} : letsP { l with row := r } c = letsP l c := rfl
theorem rholds_of {l : Ln} {H L : List Cl} {k : KeyT} (h : LSim l H L k) (who : Int) : rholds H who k = if who ∈ l.held then (if l.mine then 2 else 1) else 0 := by
  unfold rholds
  cases hf : H.find? (fun c => c.who == who && c.key == k) with
  | none =>
    rw [List.find?_eq_none] at hf
    have : ¬ who ∈ l.held := fun hw => by
      obtain ⟨r, hr⟩ := (h.held who l.mine).2 ⟨hw, rfl⟩
      exact hf _ hr (by simp)
    rw [if_neg this]
  | some c =>
    have h1 := List.find?_some hf
    have h2 := List.mem_of_find?_eq_some hf
    rw [Bool.and_eq_true, beq_iff_eq, beq_iff_eq] at h1
    have h3 := (h.held who c.mine).1 ⟨c.raise, by rw [← h1.1, ← h1.2]; exact h2⟩
    rw [if_pos h3.1, ← h3.2]
theorem rfits_of {l : Ln} {H L : List Cl} {k : KeyT} (h : LSim l H L k) (c : Cm) : rfits H c.who k c.mine = letsP l c := by
  rw [Bool.eq_iff_iff, lets_iff]
  unfold rfits
  rw [List.all_eq_true]
  constructor
  · intro hall
    by_cases h1 : ∀ x ∈ l.held, x = c.who
    · exact .inl h1
    · right
      have ⟨x, hx⟩ := Classical.not_forall.1 h1
      have ⟨hx, hne⟩ := Classical.not_imp.1 hx
      obtain ⟨r, hr⟩ := (h.held x l.mine).2 ⟨hx, rfl⟩
      have := hall _ hr
      simp [hne] at this
      exact ⟨this.2, this.1⟩
  · intro h1 d hd
    by_cases hk : d.key = k ∧ d.who ≠ c.who
    · have h2 := (h.held d.who d.mine).1 ⟨d.raise, by rw [← hk.1]; exact hd⟩
      rcases h1 with h1 | h1
      · exact absurd (h1 _ h2.1) hk.2
      · simp [h2.2, h1.1, h1.2]
    · simp only [Bool.not_eq_true', Bool.and_eq_false_iff]
      rw [Classical.not_and_iff_not_or_not] at hk
      rcases hk with hk | hk
      · left; left; simpa using hk
      · left; right; simpa using hk
theorem LSim.congr {l : Ln} {H L H' L' : List Cl} {k : KeyT} (h : LSim l H L k) (hH : ∀ c, c.key = k → (c ∈ H' ↔ c ∈ H)) (hL : ofKey L' k = ofKey L k) : LSim l H' L' k := by
  refine ⟨fun x m => ?_, by rw [h.row, hL], fun c hc hk => ?_⟩
  · rw [← h.held x m]
    exact exists_congr fun r => hH _ rfl
  · have : c ∈ ofKey L' k := ofKey_mem.2 ⟨hc, hk⟩
    rw [hL] at this
    exact h.raise c (ofKey_mem.1 this).1 hk
theorem rdrop_mem {H : List Cl} {who : Int} {k : KeyT} {c : Cl} : c ∈ rdrop H who k false ↔ c ∈ H ∧ (c.who ≠ who ∨ c.key ≠ k) := by
  unfold rdrop
  rw [List.mem_filter]
  simp
theorem rdrop_key {H : List Cl} {who : Int} {k k' : KeyT} (hk : k' ≠ k) : ofKey (rdrop H who k false) k' = ofKey H k' := by
  unfold ofKey rdrop
  rw [List.filter_filter]
  refine List.filter_congr fun c hc => ?_
  by_cases h : c.key = k'
  · subst h; simp [hk]
  · have e : (c.key == k') = false := by simpa using h
    rw [e]; rfl
/-- One is given the key: the lane, and the claims. -/
theorem give_sim {l : Ln} {H L : List Cl} {k : KeyT} {c : Cm} (h : LSim l H L k) (hl : letsP l c = true) (hw : ∀ d ∈ L, d.key = k → d.who = c.who → c.who ∈ l.held) : LSim (giveP l c) (rdrop H c.who k false ++ [⟨c.who, k, c.mine, false⟩]) L k := by
  have hmem : ∀ x, x ∈ (giveP l c).held ↔ x ∈ l.held ∨ x = c.who := by
    intro x
    unfold giveP
    by_cases e : c.who ∈ l.held
    · simp only [e, if_true]
      exact ⟨.inl, fun h => h.elim id (fun e2 => e2 ▸ e)⟩
    · simp only [e, if_false]
      rw [List.mem_append, List.mem_singleton]
  have hmine : (giveP l c).mine = c.mine := rfl
  refine ⟨fun x m => ?_, h.row, fun d hd hk => ?_⟩
  · rw [hmem, hmine]
    constructor
    · rintro ⟨r, hr⟩
      rcases List.mem_append.1 hr with hr | hr
      · obtain ⟨h1, h2⟩ := rdrop_mem.1 hr
        have hne : x ≠ c.who := h2.elim id (fun e => absurd rfl e)
        obtain ⟨h3, h4⟩ := (h.held x m).1 ⟨r, h1⟩
        refine ⟨.inl h3, ?_⟩
        rcases lets_iff.1 hl with h5 | h5
        · exact absurd (h5 x h3) hne
        · rw [h4, h5.1, h5.2]
      · rw [List.mem_singleton] at hr
        injection hr with e1 e2 e3 e4
        exact ⟨.inr e1, e3⟩
    · rintro ⟨hx, rfl⟩
      by_cases e : x = c.who
      · exact ⟨false, List.mem_append_right _ (by rw [e]; exact List.mem_singleton.2 rfl)⟩
      · have hx := hx.resolve_right e
        obtain ⟨r, hr⟩ := (h.held x l.mine).2 ⟨hx, rfl⟩
        rcases lets_iff.1 hl with h5 | h5
        · exact absurd (h5 x hx) e
        · refine ⟨r, List.mem_append_left _ (rdrop_mem.2 ⟨?_, .inl e⟩)⟩
          rw [h5.2, ← h5.1]
          exact hr
  · rw [h.raise d hd hk]
    have := hmem d.who
    by_cases e : d.who = c.who
    · rw [decide_eq_true (this.2 (.inr e)), decide_eq_true (e ▸ hw d hd hk e)]
    · rw [decide_eq_decide, this]
      exact ⟨.inl, fun h => h.resolve_right e⟩
theorem give_ok {l : Ln} {c : Cm} (h : LnOk l) (hl : letsP l c = true) (hc : c.who ∉ l.row.map Cm.who) (hr : l.row = [] ∨ (c.who ∈ l.held ∧ c.mine = true)) : LnOk (giveP l c) := by
  have hmem : ∀ x, x ∈ (giveP l c).held ↔ x ∈ l.held ∨ x = c.who := by
    intro x
    unfold giveP
    by_cases e : c.who ∈ l.held
    · simp only [e, if_true]
      exact ⟨.inl, fun h => h.elim id (fun e2 => e2 ▸ e)⟩
    · simp only [e, if_false]
      rw [List.mem_append, List.mem_singleton]
  have hmine : (giveP l c).mine = c.mine := rfl
  have hrow : (giveP l c).row = l.row := rfl
  have hmr : ∀ d ∈ l.row, d.who ∈ (giveP l c).held ↔ d.who ∈ l.held := fun d hd => by
    rw [hmem]
    exact ⟨fun h => h.resolve_right (fun e => hc (e ▸ List.mem_map.2 ⟨d, hd, rfl⟩)), .inl⟩
  refine ⟨h.nodup, fun hm x hx y hy => ?_, fun d hd => ?_, ?_, fun d hd hh => h.raise d hd ((hmr d hd).1 hh)⟩
  · rw [hmine] at hm
    rcases lets_iff.1 hl with h5 | h5
    · have e : ∀ z, z ∈ (giveP l c).held → z = c.who := fun z hz => ((hmem z).1 hz).elim (h5 z) id
      rw [e x hx, e y hy]
    · rw [h5.2] at hm; cases hm
  · rw [hrow] at hd
    rcases hr with hr | ⟨hr, hm⟩
    · rw [hr] at hd; cases hd
    · rw [Bool.eq_false_iff]
      intro hx
      have hdr : d ∈ l.row := List.mem_of_mem_head? hd
      rcases lets_iff.1 hx with h5 | h5
      · have := h5 c.who ((hmem _).2 (.inr rfl))
        exact hc (this ▸ List.mem_map.2 ⟨d, hdr, rfl⟩)
      · rw [hmine, hm] at h5; cases h5.1
  · rw [hrow]
    refine (List.Pairwise.and_mem.1 h.front).imp fun {a b} hab => ?_
    intro hb
    exact (hmr a hab.1).2 (hab.2.2 ((hmr b hab.2.1).1 hb))
end Go.Proofs.YtmchmlkbpocboaaGreatDoor

namespace Go.Proofs.YtmchmlkbpocboaaGreatDoor

/-- Where a claim goes into a line. -/
def insC : List Cl → Cl → List Cl
  | [], c => [c]
  | x :: l, c => if c.raise && x.key == c.key && !x.raise then c :: x :: l else x :: insC l c
theorem rins_fold (c : Cl) : ∀ (L A : List Cl), rendS c (L.foldl (rinsS c) (A, true)) = A ++ L ∧ rendS c (L.foldl (rinsS c) (A, false)) = A ++ insC L c
  | [], A => ⟨by simp [rendS], by simp [rendS, insC]⟩
  | x :: L, A => by
    have h1 : ∀ A, rinsS c (A, true) x = (A ++ [x], true) := fun A => by simp [rinsS]
    refine ⟨?_, ?_⟩
    · rw [List.foldl_cons, h1, (rins_fold c L _).1]; simp
    · rw [List.foldl_cons]
      unfold insC
      by_cases e : (c.raise && x.key == c.key && !x.raise) = true
      · rw [if_pos e]
        have h2 : rinsS c (A, false) x = (A ++ [c, x], true) := by
          unfold rinsS
          rw [if_pos (by simpa using e)]
        rw [h2, (rins_fold c L _).1]; simp
      · rw [if_neg e]
        have h2 : rinsS c (A, false) x = (A ++ [x], false) := by
          unfold rinsS
          rw [if_neg (by simpa using e)]
        rw [h2, (rins_fold c L _).2]; simp
theorem rins_eq (L : List Cl) (c : Cl) : rins L c = insC L c := by
  unfold rins
  rw [(rins_fold c L []).2, List.nil_append]
theorem insC_mem {c d : Cl} : ∀ {L : List Cl}, d ∈ insC L c ↔ d ∈ L ∨ d = c
  | [] => by simp [insC]
  | x :: L => by
    unfold insC
    split
    · simp only [List.mem_cons]
      constructor
      · rintro (h | h | h)
        · exact .inr h
        · exact .inl (.inl h)
        · exact .inl (.inr h)
      · rintro ((h | h) | h)
        · exact .inr (.inl h)
        · exact .inr (.inr h)
        · exact .inl h
    · rw [List.mem_cons, insC_mem, List.mem_cons]
      constructor
      · rintro (h | h | h)
        · exact .inl (.inl h)
        · exact .inl (.inr h)
        · exact .inr h
      · rintro ((h | h) | h)
        · exact .inl h
        · exact .inr (.inl h)
        · exact .inr (.inr h)
theorem insC_other {c : Cl} {k : KeyT} (hk : c.key ≠ k) : ∀ L : List Cl, ofKey (insC L c) k = ofKey L k
  | [] => by simp [insC, ofKey, hk]
  | x :: L => by
    unfold insC
    split
    · simp [ofKey, hk]
    · have := insC_other hk L
      unfold ofKey at this ⊢
      rw [List.filter_cons, List.filter_cons, this]
/-- The same, in the lane's row. -/
theorem insC_key {c : Cl} : ∀ L : List Cl, ofKey (insC L c) c.key = (if c.raise then (ofKey L c.key).take ((ofKey L c.key).findIdx fun x => !x.raise) ++ c :: (ofKey L c.key).drop ((ofKey L c.key).findIdx fun x => !x.raise) else ofKey L c.key ++ [c])
  | [] => by cases h : c.raise <;> simp [insC, ofKey]
  | x :: L => by
    have ih := insC_key (c := c) L
    unfold insC
    by_cases hk : x.key = c.key
    · have hx : ofKey (x :: L) c.key = x :: ofKey L c.key := by unfold ofKey; rw [List.filter_cons, if_pos (by simpa using hk)]
      rw [hx]
      cases hr : c.raise with
      | false =>
        rw [hr] at ih
        simp only [Bool.false_and, Bool.false_eq_true, if_false] at ih ⊢
        unfold ofKey at ih ⊢
        rw [List.filter_cons, if_pos (by simpa using hk), ih]; rfl
      | true =>
        rw [hr] at ih
        simp only [Bool.true_and, if_true] at ih ⊢
        cases hxr : x.raise with
        | false =>
          have e : (x.key == c.key && !false) = true := by simpa using hk
          rw [if_pos e, List.findIdx_cons]
          simp only [hxr, Bool.not_false, cond_true, List.take_zero, List.drop_zero, List.nil_append]
          have : ofKey (c :: x :: L) c.key = c :: ofKey (x :: L) c.key := by unfold ofKey; rw [List.filter_cons, if_pos (by simp)]
          rw [this, hx]
        | true =>
          have e : ¬ (x.key == c.key && !true) = true := by simp
          rw [if_neg e, List.findIdx_cons]
          simp only [hxr, Bool.not_true, cond_false, List.take_succ_cons, List.drop_succ_cons, List.cons_append]
          have : ofKey (x :: insC L c) c.key = x :: ofKey (insC L c) c.key := by unfold ofKey; rw [List.filter_cons, if_pos (by simpa using hk)]
          rw [this, ih]
    · have hx : ofKey (x :: L) c.key = ofKey L c.key := by unfold ofKey; rw [List.filter_cons, if_neg (by simpa using hk)]
      rw [hx]
      have e : ¬ (c.raise && x.key == c.key && !x.raise) = true := by
        have : (x.key == c.key) = false := by simpa using hk
        simp [this]
      rw [if_neg e]
      have : ofKey (x :: insC L c) c.key = ofKey (insC L c) c.key := by unfold ofKey; rw [List.filter_cons, if_neg (by simpa using hk)]
      rw [this, ih]
theorem findIdx_map {α β : Type} (f : α → β) (p : β → Bool) (q : α → Bool) : ∀ l : List α, (∀ a ∈ l, p (f a) = q a) → (l.map f).findIdx p = l.findIdx q
  | [], _ => rfl
  | a :: l, h => by
    rw [List.map_cons, List.findIdx_cons, List.findIdx_cons, h a (List.mem_cons_self ..), findIdx_map f p q l (fun b hb => h b (List.mem_cons_of_mem _ hb))]
/-- One more that waits: the lane, and the claims. -/
theorem wait_sim {l : Ln} {H L : List Cl} {k : KeyT} {who : Int} {mine : Bool} (h : LSim l H L k) : LSim { l with row := putAt l.row (placeP l (l.held.contains who)) ⟨who, mine⟩ } H (insC L ⟨who, k, mine, l.held.contains who⟩) k := by
  refine ⟨h.held, ?_, fun d hd hk => ?_⟩
  · have e := insC_key (c := ⟨who, k, mine, l.held.contains who⟩) L
    simp only at e
    rw [e]
    have hrow := h.row
    show putAt l.row _ _ = _
    cases hc : l.held.contains who with
    | false =>
      simp only [Bool.false_eq_true, if_false]
      rw [List.map_append, ← hrow]
      unfold putAt placeP
      simp [cmOf]
    | true =>
      simp only [if_true]
      rw [List.map_append, List.map_cons, List.map_take, List.map_drop, ← hrow]
      unfold putAt placeP
      simp only [if_true]
      have : l.row.findIdx (fun c => !l.held.contains c.who) = (ofKey L k).findIdx fun x => !x.raise := by
        rw [hrow]
        refine findIdx_map cmOf _ _ _ fun d hd => ?_
        obtain ⟨h1, h2⟩ := ofKey_mem.1 hd
        rw [h.raise d h1 h2]
        simp [cmOf, List.contains_eq_mem]
      rw [this]
      rfl
  · rcases insC_mem.1 hd with hd | rfl
    · exact h.raise d hd hk
    · simp [List.contains_eq_mem]
theorem findIdx_front {l : Ln} (h : l.row.Pairwise fun a b => b.who ∈ l.held → a.who ∈ l.held) : (∀ a ∈ l.row.take (l.row.findIdx fun c => !l.held.contains c.who), a.who ∈ l.held) ∧ ∀ b ∈ l.row.drop (l.row.findIdx fun c => !l.held.contains c.who), b.who ∉ l.held := by
  generalize l.row = r at h
  generalize l.held = S at h
  induction r with
  | nil => simp
  | cons a r ih =>
    obtain ⟨i1, i2⟩ := ih (List.pairwise_cons.1 h).2
    rw [List.findIdx_cons]
    by_cases ha : a.who ∈ S
    · have e : (!S.contains a.who) = false := by simp [List.contains_eq_mem, ha]
      simp only [e, cond_false, List.take_succ_cons, List.drop_succ_cons]
      exact ⟨fun x hx => (List.mem_cons.1 hx).elim (fun e => e ▸ ha) (i1 x), i2⟩
    · have e : (!S.contains a.who) = true := by simp [List.contains_eq_mem, ha]
      simp only [e, cond_true, List.take_zero, List.drop_zero]
      refine ⟨by simp, fun b hb => ?_⟩
      rcases List.mem_cons.1 hb with rfl | hb
      · exact ha
      · exact fun hbs => ha ((List.pairwise_cons.1 h).1 b hb hbs)
theorem putAt_perm {α : Type} (l : List α) (i : Nat) (x : α) : (putAt l i x).Perm (x :: l) := by
  unfold putAt
  have := List.perm_middle (a := x) (l₁ := l.take i) (l₂ := l.drop i)
  rwa [List.take_append_drop] at this
theorem wait_ok {l : Ln} {c : Cm} (h : LnOk l) (hc : c.who ∉ l.row.map Cm.who) (h1 : ¬ (c.who ∈ l.held ∧ (l.mine = true ∨ c.mine = false))) (h2 : ¬ (letsP l c = true ∧ (c.who ∈ l.held ∨ l.row = []))) : LnOk { l with row := putAt l.row (placeP l (l.held.contains c.who)) c } := by
  have hp := putAt_perm l.row (placeP l (l.held.contains c.who)) c
  refine ⟨?_, h.tog, ?_, ?_, ?_⟩
  · show ((putAt _ _ _).map _).Nodup
    rw [(hp.map Cm.who).nodup_iff, List.map_cons, List.nodup_cons]
    exact ⟨hc, h.nodup⟩
  · intro d hd
    show letsP l d = false
    have hd : (putAt l.row (placeP l (l.held.contains c.who)) c).head? = some d := hd
    by_cases hin : c.who ∈ l.held
    · have hnl : letsP l c = false := by
        rw [Bool.eq_false_iff]
        exact fun e => h2 ⟨e, .inl hin⟩
      unfold putAt at hd
      cases ht : l.row.take (placeP l (l.held.contains c.who)) with
      | nil =>
        rw [ht] at hd
        cases hd
        exact hnl
      | cons y t =>
        rw [ht] at hd
        cases hd
        refine h.stuck d ?_
        have := List.take_append_drop (placeP l (l.held.contains c.who)) l.row
        rw [← this, ht]; rfl
    · have e : l.held.contains c.who = false := by simpa [List.contains_eq_mem] using hin
      rw [e] at hd
      unfold putAt placeP at hd
      simp only [Bool.false_eq_true, if_false, List.take_length] at hd
      cases hr : l.row with
      | nil =>
        rw [hr] at hd
        cases hd
        rw [Bool.eq_false_iff]
        exact fun e => h2 ⟨e, .inr hr⟩
      | cons y t =>
        rw [hr] at hd
        cases hd
        exact h.stuck d (by rw [hr]; rfl)
  · show (putAt l.row _ c).Pairwise _
    by_cases hin : c.who ∈ l.held
    · have e : l.held.contains c.who = true := by simpa [List.contains_eq_mem] using hin
      rw [e]
      unfold putAt placeP
      simp only [if_true]
      obtain ⟨f1, f2⟩ := findIdx_front h.front
      have hs := h.front
      rw [← List.take_append_drop (l.row.findIdx fun c => !l.held.contains c.who) l.row, List.pairwise_append] at hs
      rw [List.pairwise_append, List.pairwise_cons]
      refine ⟨hs.1, ⟨fun b hb hbh => absurd hbh (f2 b hb), hs.2.1⟩, fun a ha b hb hbh => f1 a ha⟩
    · have e : l.held.contains c.who = false := by simpa [List.contains_eq_mem] using hin
      rw [e]
      unfold putAt placeP
      simp only [Bool.false_eq_true, if_false, List.take_length, List.drop_length]
      rw [List.pairwise_append]
      refine ⟨h.front, List.pairwise_singleton _ _, fun a ha b hb hbh => ?_⟩
      rw [List.mem_singleton] at hb
      exact absurd (hb ▸ hbh) hin
  · intro d hd hdh
    have : d ∈ c :: l.row := hp.subset hd
    rcases List.mem_cons.1 this with rfl | hd
    · cases hm : d.mine with
      | true => rfl
      | false => exact absurd ⟨hdh, .inr hm⟩ h1
    · exact h.raise d hd hdh
end Go.Proofs.YtmchmlkbpocboaaGreatDoor
