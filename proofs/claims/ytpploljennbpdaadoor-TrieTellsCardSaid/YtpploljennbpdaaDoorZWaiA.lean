/- Graphs of package wait, in plain words and in memory: of each one that is there the list of those for whom it waits. -/
import Derived.Test.YtpploljennbpdaaDoorZBasB
set_option linter.unusedSimpArgs false
set_option linter.unusedVariables false
set_option linter.unnecessarySimpa false
namespace Go.Proofs.YtpploljennbpdaaDoor
open Go.RowKit
open Go.Maps (Keyed)

/-- A graph: each one that is there, once, with a list. -/
abbrev Gr := List (Int × List Int)
def hasK (G : Gr) (x : Int) : Bool := G.any fun e => e.1 == x
/-- What stands under a number; nothing, if it is not there. -/
def at_ (G : Gr) (x : Int) : List Int := ((G.find? fun e => e.1 == x).map (·.2)).getD []
/-- Something else stands under a number that is there. -/
def setK (G : Gr) (x : Int) (l : List Int) : Gr := G.map fun e => if e.1 = x then (e.1, l) else e
def putK (G : Gr) (x : Int) (l : List Int) : Gr := if hasK G x then setK G x l else G ++ [(x, l)]
/-- An edge is added: at its beginning its end, and its end is there. -/
def addE (G : Gr) (e : Int × Int) : Gr := if hasK (putK G e.1 (at_ G e.1 ++ [e.2])) e.2 then putK G e.1 (at_ G e.1 ++ [e.2]) else putK G e.1 (at_ G e.1 ++ [e.2]) ++ [(e.2, [])]
def graph0 (l : List (Int × Int)) : Gr := l.foldl addE []
def ints (l : List Int) : List Value := l.map (Value.int .i64)
theorem ints_len (l : List Int) : (ints l).length = l.length := by simp [ints]
theorem ints_snoc (l : List Int) (x : Int) : ints (l ++ [x]) = ints l ++ [.int .i64 x] := by simp [ints]
/-- A graph in memory: a map in block g, and lists of its own. -/
structure GAt (P : Program) (K : TypeId) (w : World) (b0 g : Nat) (G : Gr) (L : List MapEntry) (clock : Nat) : Prop where
  map : MapIs P K w g L clock
  len : L.length = G.length
  each : ∀ (i : Nat) (e : MapEntry) (x : Int × List Int), L[i]? = some e → G[i]? = some x → e.key = .int .i64 x.1 ∧ RowIs w 1 e.val x.2.length (ints x.2)
  own : ∀ e ∈ L, ∀ k, e.val.ownBlock = some k → b0 ≤ k ∧ k ≠ g
  apart : ∀ (i j : Nat) (e f : MapEntry) (k : Nat), L[i]? = some e → L[j]? = some f → i ≠ j → e.val.ownBlock = some k → f.val.ownBlock ≠ some k
  gb : b0 ≤ g
section
variable {P : Program} {K : TypeId} {w w' : World} {b0 g clock : Nat} {G : Gr} {L : List MapEntry}
theorem GAt.below (h : GAt P K w b0 g G L clock) (hb : Below w.heap.size w w') : GAt P K w' b0 g G L clock :=
  ⟨h.map.keep (hb.block g h.map.lt), h.len, fun i e x h1 h2 => ⟨(h.each i e x h1 h2).1, (h.each i e x h1 h2).2.below hb⟩, h.own, h.apart, h.gb⟩
theorem GAt.made (P : Program) (K : TypeId) (w : World) {b0 : Nat} (hb : b0 ≤ w.heap.size) : GAt P K (w.alloc (.map #[] 0)) b0 w.heap.size [] [] 0 :=
  ⟨MapIs.made P K w, rfl, (fun i e x h => by simp at h), (fun e he => by cases he), (fun i j e f k h => by simp at h), hb⟩
/-- A number is there, or not. -/
theorem GAt.cases (h : GAt P K w b0 g G L clock) (x : Int) : (∃ (j : Nat) (e : MapEntry) (l : List Int), L[j]? = some e ∧ e.key = .int .i64 x ∧ G[j]? = some (x, l)) ∨ (∀ e ∈ L, e.key ≠ .int .i64 x) := by
  by_cases hx : ∃ e ∈ L, e.key = .int .i64 x
  · obtain ⟨e, he, hk⟩ := hx
    obtain ⟨j, hj⟩ := List.getElem?_of_mem he
    have hl : j < G.length := by rw [← h.len]; exact (List.getElem?_eq_some_iff.1 hj).1
    have hg : G[j]? = some G[j] := List.getElem?_eq_getElem hl
    obtain ⟨h1, _⟩ := h.each j e _ hj hg
    rw [hk] at h1
    have h2 : x = G[j].1 := by injection h1
    refine .inl ⟨j, e, G[j].2, hj, hk, ?_⟩
    rw [hg, h2]
  · exact .inr fun e he hk => hx ⟨e, he, hk⟩
theorem GAt.nodup (h : GAt P K w b0 g G L clock) : (G.map (·.1)).Nodup := by
  have h1 := h.map.one
  have : L.map (·.key) = (G.map (·.1)).map (Value.int .i64) := by
    apply List.ext_getElem?
    intro i
    rw [List.getElem?_map, List.getElem?_map, List.getElem?_map]
    by_cases hi : i < L.length
    · have h2 : L[i]? = some L[i] := List.getElem?_eq_getElem hi
      have h3 : G[i]? = some (G[i]'(by rw [← h.len]; exact hi)) := List.getElem?_eq_getElem _
      rw [h2, h3]
      show some L[i].key = some _
      rw [(h.each i _ _ h2 h3).1]
    · rw [List.getElem?_eq_none (by omega), List.getElem?_eq_none (by rw [← h.len]; omega)]
      rfl
  rw [this] at h1
  rw [List.Nodup, List.pairwise_map] at h1
  exact h1.imp (fun hab e => hab (congrArg _ e))
theorem find_nodup {G : Gr} (h : (G.map (·.1)).Nodup) {j : Nat} {x : Int} {l : List Int} (hj : G[j]? = some (x, l)) : G.find? (fun e => e.1 == x) = some (x, l) := by
  induction G generalizing j with
  | nil => simp at hj
  | cons y G ih =>
    rw [List.map_cons, List.nodup_cons] at h
    cases j with
    | zero =>
      obtain rfl : y = (x, l) := by simpa using hj
      simp
    | succ j =>
      rw [List.getElem?_cons_succ] at hj
      have hm : (x, l) ∈ G := List.mem_of_getElem? hj
      have hne : y.1 ≠ x := fun e => h.1 (List.mem_map.2 ⟨_, hm, e.symm⟩)
      rw [List.find?_cons_of_neg (by simpa using hne)]
      exact ih h.2 hj
theorem at_hit {G : Gr} (h : (G.map (·.1)).Nodup) {j : Nat} {x : Int} {l : List Int} (hj : G[j]? = some (x, l)) : at_ G x = l ∧ hasK G x = true := by
  refine ⟨by unfold at_; rw [find_nodup h hj]; rfl, ?_⟩
  unfold hasK
  rw [List.any_eq_true]
  exact ⟨_, List.mem_of_getElem? hj, by simp⟩
theorem GAt.miss (h : GAt P K w b0 g G L clock) {x : Int} (hx : ∀ e ∈ L, e.key ≠ .int .i64 x) : hasK G x = false ∧ at_ G x = [] ∧ ∀ y ∈ G, y.1 ≠ x := by
  have hn : ∀ y ∈ G, y.1 ≠ x := fun y hy e => by
    obtain ⟨j, hj⟩ := List.getElem?_of_mem hy
    have hl : j < L.length := by rw [h.len]; exact (List.getElem?_eq_some_iff.1 hj).1
    have h2 : L[j]? = some L[j] := List.getElem?_eq_getElem hl
    exact hx _ (List.getElem_mem hl) (by rw [(h.each j _ _ h2 hj).1, e])
  refine ⟨?_, ?_, hn⟩
  · unfold hasK
    rw [List.any_eq_false]
    exact fun y hy => by simpa using hn y hy
  · unfold at_
    rw [List.find?_eq_none.2 (fun y hy => by simpa using hn y hy)]
    rfl
theorem setK_set {G : Gr} (h : (G.map (·.1)).Nodup) {j : Nat} {x : Int} {l l' : List Int} (hj : G[j]? = some (x, l)) : setK G x l' = G.set j (x, l') := by
  apply List.ext_getElem?
  intro i
  unfold setK
  rw [List.getElem?_map, List.getElem?_set]
  by_cases hij : j = i
  · subst hij
    rw [if_pos rfl, if_pos (List.getElem?_eq_some_iff.1 hj).1, hj]
    simp
  · rw [if_neg hij]
    cases hi : G[i]? with
    | none => rfl
    | some y =>
      have hne : y.1 ≠ x := fun e => by
        rw [List.Nodup, List.pairwise_iff_getElem] at h
        obtain ⟨hi1, hi2⟩ := List.getElem?_eq_some_iff.1 hi
        obtain ⟨hj1, hj2⟩ := List.getElem?_eq_some_iff.1 hj
        rcases Nat.lt_or_gt_of_ne hij with hlt | hlt
        · exact h j i (by simpa using hj1) (by simpa using hi1) hlt (by simp [hi2, hj2, e])
        · exact h i j (by simpa using hi1) (by simpa using hj1) hlt (by simp [hi2, hj2, e])
      show some (if y.1 = x then _ else y) = some y
      rw [if_neg hne]
/-- Another list stands under a number that is there. -/
theorem GAt.put_hit (h : GAt P K w b0 g G L clock) (KK : Keyed P K) {E M : TypeId} (hM : P.underlying M = some (.map K E)) {x : Int} (hx : keyOf P K (.int .i64 x) = some (.int .i64 x)) {j : Nat} {e : MapEntry} {l l' : List Int} (hj : L[j]? = some e) (he : e.key = .int .i64 x) (hg : G[j]? = some (x, l)) {w1 : World} {v : Value} (hs : w.heap.size ≤ w1.heap.size) (hk : ∀ k, k < w.heap.size → e.val.ownBlock ≠ some k → w1.heap[k]? = w.heap[k]?) (hv : RowIs w1 1 v l'.length (ints l')) (hb : ∀ k, v.ownBlock = some k → e.val.ownBlock = some k ∨ w.heap.size ≤ k) (hb0 : b0 ≤ w.heap.size) :
    (Instr.mapUpdate M (.map (some g)) (.int .i64 x) v).run P w1 = .ok () { w1 with heap := w1.heap.setIfInBounds g (.map (L.set j { e with val := v }).toArray clock) } ∧ GAt P K { w1 with heap := w1.heap.setIfInBounds g (.map (L.set j { e with val := v }).toArray clock) } b0 g (putK G x l') (L.set j { e with val := v }) clock := by
  have hnd := h.nodup
  have hpk : putK G x l' = G.set j (x, l') := by unfold putK; rw [if_pos (at_hit hnd hg).2, setK_set hnd hg]
  have heo := h.own e (List.mem_of_getElem? hj)
  have hm1 : MapIs P K w1 g L clock := h.map.keep (hk g h.map.lt (fun e' => (heo g e').2 rfl))
  obtain ⟨r1, r2⟩ := hm1.put_hit KK hM (v := v) hx hj he
  have hsz : ({ w1 with heap := w1.heap.setIfInBounds g (.map (L.set j { e with val := v }).toArray clock) } : World).heap.size = w1.heap.size := by simp
  have hblk : ∀ k, k ≠ g → ({ w1 with heap := w1.heap.setIfInBounds g (.map (L.set j { e with val := v }).toArray clock) } : World).heap[k]? = w1.heap[k]? := fun k hne => by
    show (w1.heap.setIfInBounds g _)[k]? = _
    rw [Array.getElem?_setIfInBounds]
    rw [if_neg (Ne.symm hne)]
  have hvg : ∀ k, v.ownBlock = some k → b0 ≤ k ∧ k ≠ g := fun k e1 => by
    rcases hb k e1 with e2 | e2
    · exact heo k e2
    · exact ⟨by omega, fun e3 => by have := h.map.lt; omega⟩
  have hvr : RowIs ({ w1 with heap := w1.heap.setIfInBounds g (.map (L.set j { e with val := v }).toArray clock) } : World) 1 v l'.length (ints l') := hv.keep (by rw [hsz]; exact Nat.le_refl _) (fun k e1 => hblk k (hvg k e1).2)
  refine ⟨r1, r2, by rw [hpk, List.length_set, List.length_set]; exact h.len, fun i f y h1 h2 => ?_, fun f hf k e1 => ?_, fun i i2 f f2 k h1 h2 hne e1 e2 => ?_, h.gb⟩
  · rw [hpk] at h2
    by_cases hij : j = i
    · subst hij
      rw [List.getElem?_set_self (List.getElem?_eq_some_iff.1 hj).1] at h1
      rw [List.getElem?_set_self (List.getElem?_eq_some_iff.1 hg).1] at h2
      cases h1; cases h2
      exact ⟨he, hvr⟩
    · rw [List.getElem?_set_ne hij] at h1 h2
      obtain ⟨q1, q2⟩ := h.each i f y h1 h2
      refine ⟨q1, q2.keep (by rw [hsz]; exact hs) (fun k e1 => ?_)⟩
      have hfo := h.own f (List.mem_of_getElem? h1) k e1
      exact (hblk k hfo.2).trans (hk k (q2.lt k e1) (h.apart i j f e k h1 hj (Ne.symm hij) e1))
  · rcases List.mem_or_eq_of_mem_set hf with hf | rfl
    · exact h.own f hf k e1
    · exact hvg k e1
  · by_cases hij : j = i
    · subst hij
      rw [List.getElem?_set_self (List.getElem?_eq_some_iff.1 hj).1] at h1
      rw [List.getElem?_set_ne hne] at h2
      cases h1
      rcases hb k e1 with e3 | e3
      · exact h.apart j i2 e f2 k hj h2 hne e3 e2
      · obtain ⟨y, hy⟩ : ∃ y, G[i2]? = some y := ⟨_, List.getElem?_eq_getElem (by rw [← h.len]; exact (List.getElem?_eq_some_iff.1 h2).1)⟩
        have := (h.each i2 f2 y h2 hy).2.lt k e2
        omega
    · rw [List.getElem?_set_ne hij] at h1
      by_cases hij2 : j = i2
      · subst hij2
        rw [List.getElem?_set_self (List.getElem?_eq_some_iff.1 hj).1] at h2
        cases h2
        rcases hb k e2 with e3 | e3
        · exact h.apart i j f e k h1 hj hne e1 e3
        · obtain ⟨y, hy⟩ : ∃ y, G[i]? = some y := ⟨_, List.getElem?_eq_getElem (by rw [← h.len]; exact (List.getElem?_eq_some_iff.1 h1).1)⟩
          have := (h.each i f y h1 hy).2.lt k e1
          omega
      · rw [List.getElem?_set_ne hij2] at h2
        exact h.apart i i2 f f2 k h1 h2 hne e1 e2
/-- A list stands under a number that was not there. -/
theorem GAt.put_miss (h : GAt P K w b0 g G L clock) (KK : Keyed P K) {E M : TypeId} (hM : P.underlying M = some (.map K E)) {x : Int} (hx : keyOf P K (.int .i64 x) = some (.int .i64 x)) (hn : ∀ e ∈ L, e.key ≠ .int .i64 x) {l' : List Int} {w1 : World} {v : Value} (hb1 : Below w.heap.size w w1) (hv : RowIs w1 1 v l'.length (ints l')) (hb : ∀ k, v.ownBlock = some k → w.heap.size ≤ k) (hb0 : b0 ≤ w.heap.size) :
    (Instr.mapUpdate M (.map (some g)) (.int .i64 x) v).run P w1 = .ok () { w1 with heap := w1.heap.setIfInBounds g (.map (L ++ [(⟨.int .i64 x, v, clock⟩ : MapEntry)]).toArray (clock + 1)) } ∧ GAt P K { w1 with heap := w1.heap.setIfInBounds g (.map (L ++ [(⟨.int .i64 x, v, clock⟩ : MapEntry)]).toArray (clock + 1)) } b0 g (putK G x l') (L ++ [(⟨.int .i64 x, v, clock⟩ : MapEntry)]) (clock + 1) := by
  have h' := h.below hb1
  have hmiss := h.miss hn
  have hpk : putK G x l' = G ++ [(x, l')] := by unfold putK; rw [if_neg (by rw [hmiss.1]; simp)]
  obtain ⟨r1, r2⟩ := h'.map.put_miss KK hM (v := v) hx hn
  have hsz : ({ w1 with heap := w1.heap.setIfInBounds g (.map (L ++ [(⟨.int .i64 x, v, clock⟩ : MapEntry)]).toArray (clock + 1)) } : World).heap.size = w1.heap.size := by simp
  have hblk : ∀ k, k ≠ g → ({ w1 with heap := w1.heap.setIfInBounds g (.map (L ++ [(⟨.int .i64 x, v, clock⟩ : MapEntry)]).toArray (clock + 1)) } : World).heap[k]? = w1.heap[k]? := fun k hne => by
    show (w1.heap.setIfInBounds g _)[k]? = _
    rw [Array.getElem?_setIfInBounds]
    rw [if_neg (Ne.symm hne)]
  have hvg : ∀ k, v.ownBlock = some k → b0 ≤ k ∧ k ≠ g := fun k e1 => ⟨by have := hb k e1; omega, fun e3 => by have := h.map.lt; have := hb k e1; omega⟩
  have old : ∀ (i : Nat) (f : MapEntry), L[i]? = some f → ∀ k, f.val.ownBlock = some k → k < w.heap.size := fun i f h1 k e1 => by
    obtain ⟨y, hy⟩ : ∃ y, G[i]? = some y := ⟨_, List.getElem?_eq_getElem (by rw [← h.len]; exact (List.getElem?_eq_some_iff.1 h1).1)⟩
    exact (h.each i f y h1 hy).2.lt k e1
  refine ⟨r1, r2, by rw [hpk, List.length_append, List.length_append, h.len]; rfl, fun i f y h1 h2 => ?_, fun f hf k e1 => ?_, fun i i2 f f2 k h1 h2 hne e1 e2 => ?_, h.gb⟩
  · rw [hpk] at h2
    by_cases hi : i < L.length
    · rw [List.getElem?_append_left hi] at h1
      rw [List.getElem?_append_left (by rw [← h.len]; exact hi)] at h2
      obtain ⟨q1, q2⟩ := h'.each i f y h1 h2
      exact ⟨q1, q2.keep (by rw [hsz]; exact Nat.le_refl _) (fun k e1 => hblk k (h.own f (List.mem_of_getElem? h1) k e1).2)⟩
    · have hi2 : i = L.length := by
        have := (List.getElem?_eq_some_iff.1 h1).1
        rw [List.length_append] at this
        simp at this
        omega
      subst hi2
      rw [List.getElem?_append_right (Nat.le_refl _), Nat.sub_self] at h1
      rw [List.getElem?_append_right (by rw [h.len]; exact Nat.le_refl _), h.len, Nat.sub_self] at h2
      cases h1; cases h2
      exact ⟨rfl, hv.keep (by rw [hsz]; exact Nat.le_refl _) (fun k e1 => hblk k (hvg k e1).2)⟩
  · rcases List.mem_append.1 hf with hf | hf
    · exact h.own f hf k e1
    · rw [List.mem_singleton.1 hf] at e1
      exact hvg k e1
  · have both : ∀ (i i2 : Nat) (f f2 : MapEntry), (L ++ [(⟨.int .i64 x, v, clock⟩ : MapEntry)])[i]? = some f → (L ++ [(⟨.int .i64 x, v, clock⟩ : MapEntry)])[i2]? = some f2 → i < i2 → f.val.ownBlock = some k → f2.val.ownBlock ≠ some k := by
      intro i i2 f f2 h1 h2 hlt e1 e2
      have hl2 := (List.getElem?_eq_some_iff.1 h2).1
      rw [List.length_append] at hl2
      simp at hl2
      have hi : i < L.length := by omega
      rw [List.getElem?_append_left hi] at h1
      by_cases hi2 : i2 < L.length
      · rw [List.getElem?_append_left hi2] at h2
        exact h.apart i i2 f f2 k h1 h2 (by omega) e1 e2
      · have hi3 : i2 = L.length := by omega
        subst hi3
        rw [List.getElem?_append_right (Nat.le_refl _), Nat.sub_self] at h2
        cases h2
        have := old i f h1 k e1
        have := hb k e2
        omega
    rcases Nat.lt_or_gt_of_ne hne with hlt | hlt
    · exact both i i2 f f2 h1 h2 hlt e1 e2
    · exact both i2 i f2 f h2 h1 hlt e2 e1
end
end Go.Proofs.YtpploljennbpdaaDoor
