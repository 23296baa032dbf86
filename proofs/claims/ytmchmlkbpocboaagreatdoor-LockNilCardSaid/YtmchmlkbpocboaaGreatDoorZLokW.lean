/- lock: rows of keys; keys of one, in order. lock: ranges over maps, told by what came; the keys of one. -/
import Derived.Test.YtmchmlkbpocboaaGreatDoorZLokV
import Derived.Test.YtmchmlkbpocboaaGreatDoorZShl
import Derived.Sort.OwnSortedInts
import Derived.Lib.RowBridge
set_option linter.unusedSimpArgs false
set_option linter.unusedVariables false
set_option linter.unnecessarySimpa false
namespace Go.Proofs.YtmchmlkbpocboaaGreatDoor
open Go.RowKit Go.Sort Go.Shelf
open Go.Maps (Keyed)

def strs (l : List KeyT) : List Value := l.map encStr
theorem encStr_strV (k : KeyT) : encStr k = strV k := rfl
theorem strs_len (l : List KeyT) : (strs l).length = l.length := List.length_map _
theorem strs_app (a b : List KeyT) : strs (a ++ b) = strs a ++ strs b := List.map_append
theorem strs_at {l : List KeyT} {i : Nat} {k : KeyT} (h : l[i]? = some k) : (strs l)[i]? = some (strV k) := by unfold strs; rw [List.getElem?_map, h]; rfl
def sortedK (l : List KeyT) : List KeyT := l.mergeSort fun x y => decide (x ≤ y)
theorem sortedK_len (l : List KeyT) : (sortedK l).length = l.length := by unfold sortedK; rw [List.length_mergeSort]
theorem sortedK_perm (l : List KeyT) : (sortedK l).Perm l := List.mergeSort_perm _ _
theorem sortedK_rise {l : List KeyT} (hn : l.Nodup) : Rising (sortedK l) := by
  refine rising_of keyO ?_ ((sortedK_perm l).nodup_iff.2 hn)
  have := List.pairwise_mergeSort (le := fun x y : KeyT => decide (x ≤ y)) (fun a b c h1 h2 => by simp only [decide_eq_true_eq] at h1 h2 ⊢; exact List.le_trans h1 h2) (fun a b => by simp only [Bool.or_eq_true, decide_eq_true_eq]; exact List.le_total a b) l
  exact this.imp (fun {a b} h => by simpa using h)
theorem holds_rowS {w : World} {g cap : Nat} {l : List KeyT} (h : RowC w 1 g cap (strs l)) : Sort.Holds encStr w g 0 l.toArray := fun j hj => by
  have hj' : j < l.length := by simpa using hj
  have h1 : (strs l)[j]? = some (encStr l[j]) := by unfold strs; rw [List.getElem?_map, List.getElem?_eq_getElem hj']; rfl
  have h2 := h.le
  rw [strs_len] at h2
  refine ⟨?_, ?_⟩
  · rw [Nat.zero_add, h.holds j _ h1]
    simp [hj']
  · rw [Nat.zero_add]
    exact (h.there j (by omega)).2
theorem rowS_put {w : World} {g cap n : Nat} {l ts : List KeyT} (h : RowC w 1 g cap (strs l)) (hl : ts.length = l.length) : RowC (putRow encStr (Sort.ahead w n) g 0 ts.toArray) 1 g cap (strs ts) := by
  have hH := holds_rowS h
  have h2 := h.le
  rw [strs_len] at h2
  have hP : Sort.Holds encStr (putRow encStr (Sort.ahead w n) g 0 ts.toArray) g 0 ts.toArray := holds_putRow _ _ _ _ _ _ (holds_ahead _ _ n _ _ _ hH) (by simpa using hl)
  refine ⟨by rw [size_putRow]; exact h.lt, by rw [strs_len]; omega, h.max, fun j b hj => ?_, fun j hj => ?_⟩
  · have hj' : j < ts.length := by have := (List.getElem?_eq_some_iff.1 hj).1; rwa [strs_len] at this
    have h1 : (strs ts)[j]? = some (encStr ts[j]) := by unfold strs; rw [List.getElem?_map, List.getElem?_eq_getElem hj']; rfl
    rw [h1] at hj
    have h3 := (hP j (by simpa using hj')).1
    rw [Nat.zero_add] at h3
    rw [h3, ← hj]
    simp [hj']
  · refine ⟨?_, by rw [frozen?_putRow]; exact (h.there j hj).2⟩
    by_cases hjl : j < ts.length
    · have h3 := (hP j (by simpa using hjl)).1
      rw [Nat.zero_add] at h3
      rw [h3]
      rfl
    · rw [cell?_putRow_other _ _ _ _ _ _ (.inr (.inr (by simp; omega)))]
      exact (h.there j hj).1
theorem touch_putS (w : World) (g n : Nat) (d : Array KeyT) : Touch (fun k => k = g) w (putRow encStr (Sort.ahead w n) g 0 d) :=
  ⟨rfl, rfl, rfl, by simp, fun k hk hne => by
    have : g ≠ k := fun e => hne e.symm
    simp [putRow, mapBlock, Sort.ahead, Array.getElem?_modify, this]⟩
theorem touch_grow (w : World) (os : Array Obj) : Below w.heap.size w (grow w os) :=
  ⟨rfl, rfl, rfl, by simp, fun k hk => heap_grow_old w os hk⟩
/-- slices.Sort of a row of keys. -/
theorem sortS_row {w : World} {v : Value} {l : List KeyT} (h : RowIs w 1 v l.length (strs l)) (hl : l.length ≤ 16777216) : Calls Tryz.prog 64 #[v] w fun e w' => e = .returned (.tuple #[]) ∧ RowIs w' 1 v l.length (strs (sortedK l)) ∧ Touch (fun k => v.ownBlock = some k) w w' := by
  rcases h with ⟨rfl, h1, h2⟩ | ⟨g, cap, rfl, h1, h2, h3⟩
  · obtain rfl : l = [] := List.eq_nil_of_length_eq_zero h1
    refine (Any.slices_Sort_string_none Tryz.sortS none 0 w).mono ?_
    rintro e w' ⟨rfl, rfl⟩
    refine ⟨rfl, ?_, Touch.refl _ _⟩
    rw [List.eq_nil_of_length_eq_zero (sortedK_len [])]
    exact RowIs.nil _ _
  · refine (Any.slices_Sort_string Tryz.sortS g 0 cap l w (holds_rowS h3) h3.lt (by omega)).mono ?_
    rintro e w' ⟨rfl, n, os, rfl⟩
    have hp := rowS_put (n := n) (ts := sortedK l) h3 (sortedK_len l)
    have hb := touch_grow (putRow encStr (Sort.ahead w n) g 0 (sortedK l).toArray) os
    refine ⟨rfl, .inr ⟨g, cap, rfl, by rw [strs_len, sortedK_len]; omega, h2, hp.keep hb.size (hb.block g hp.lt)⟩, ?_⟩
    exact ((touch_putS w g n (sortedK l).toArray).mono (fun k _ e => by rw [e]; rfl)).after hb
theorem infoS : (Tryz.prog.info? 9).map (fun i => (i.zero, i.size, i.bytes)) = some (some (.string ⟨#[]⟩), 1, 16) := by kernel_rfl
theorem src_str {w : World} (x : Value) (hx : x.oneCell' = true) : Src Tryz.prog 1 87 (.slice (some ⟨w.heap.size, 0, none⟩) 1 1) 1 [x] (w.alloc (.cells #[x] 9)) :=
  Src.ofSlice _ Tryz.underlying87 ⟨w.heap.size, 0, none⟩ 1 1 [x] rfl (one_new _ _ rfl _ _) (by simp [hx])
/-- A key is put at the end of a row of keys. -/
theorem app_str {w : World} {A : Option Addr} {c : Nat} {l : List KeyT} (x : KeyT) (ty : TypeId) (h : RowIs w 1 (.slice A l.length c) l.length (strs l)) (hl : l.length ≤ 16777000) : ∃ A' c' w', (Builtin.append_ #[87, 87] ty #[.slice A l.length c, .slice (some ⟨w.heap.size, 0, none⟩) 1 1]).run Tryz.prog (w.alloc (.cells #[strV x] 9)) = .ok (.slice A' (l.length + 1) c') w' ∧ RowIs w' 1 (.slice A' (l.length + 1) c') (l.length + 1) (strs (l ++ [x])) ∧ Touch (fun k => (Value.slice A l.length c).ownBlock = some k) w w' ∧ (∀ k, (Value.slice A' (l.length + 1) c').ownBlock = some k → (Value.slice A l.length c).ownBlock = some k ∨ w.heap.size ≤ k) := by
  have hb := below_new (w := w) (.cells #[strV x] 9)
  obtain ⟨v', w', hr, h2, h3, h4⟩ := run_append_row (w.alloc (.cells #[strV x] 9)) 87 9 ty 87 Tryz.underlying87 infoS rfl (by omega) (by omega) (.slice A l.length c) l.length 1 (strs l) [strV x] _ (h.below hb) (src_str (strV x) rfl) (by omega)
  obtain ⟨A', c', rfl, _⟩ := id h2.form
  refine ⟨A', c', w', hr, by rw [strs_app]; exact h2, (Touch.of_below hb).grown h3 (fun k hk _ => hk), fun k hk => ?_⟩
  rcases h4 with e | e
  · exact .inl (e ▸ hk)
  · right
    rw [e] at hk
    have := Option.some.inj hk
    rw [asz] at this
    omega
end Go.Proofs.YtmchmlkbpocboaaGreatDoor

namespace Go.Proofs.YtmchmlkbpocboaaGreatDoor
open Go.RowKit Go.Sort Go.Shelf
open Go.Maps (Keyed)

/-- P came so far, of the elements L that stand for the entries M. -/
def Came {α : Type} (M : List MapEntry) (L : List α) (seen : Array Nat) (P : List α) : Prop :=
  ∃ js : List Nat, js.Nodup ∧ P.map some = js.map (fun j => L[j]?) ∧ (∀ j ∈ js, j < L.length) ∧ ∀ j m, M[j]? = some m → (m.born ∈ seen ↔ j ∈ js)
def left (M : List MapEntry) (seen : Array Nat) : Nat := unseen (M.map fun m => (m.born, 0)) seen
theorem Came.start {α : Type} (M : List MapEntry) (L : List α) : Came M L #[] [] := ⟨[], List.nodup_nil, rfl, by simp, fun j m _ => by simp⟩
theorem Came.step {α : Type} {M : List MapEntry} {L : List α} {seen : Array Nat} {P : List α} (h : Came M L seen P) (hn : (M.map (·.born)).Nodup) {j : Nat} {m : MapEntry} {x : α} (hm : M[j]? = some m) (hx : L[j]? = some x) (hs : m.born ∉ seen) : Came M L (seen.push m.born) (P ++ [x]) ∧ left M (seen.push m.born) + 1 = left M seen := by
  obtain ⟨js, h1, h2, h3, h4⟩ := h
  have hj : j ∉ js := fun e => hs ((h4 j m hm).2 e)
  refine ⟨⟨js ++ [j], ?_, ?_, ?_, ?_⟩, ?_⟩
  · rw [List.nodup_append]
    refine ⟨h1, by simp, fun a ha b hb e => ?_⟩
    rw [List.mem_singleton] at hb
    exact hj (by rw [← hb, ← e]; exact ha)
  · rw [List.map_append, List.map_append, h2]
    simp [hx]
  · intro i hi
    rcases List.mem_append.1 hi with hi | hi
    · exact h3 i hi
    · rw [List.mem_singleton.1 hi]; exact (List.getElem?_eq_some_iff.1 hx).1
  · intro i m' hm'
    rw [Array.mem_push, List.mem_append, List.mem_singleton, h4 i m' hm']
    constructor
    · rintro (h | h)
      · exact .inl h
      · exact .inr (nodup_at hn hm' hm h)
    · rintro (h | h)
      · exact .inl h
      · subst h
        rw [hm] at hm'
        cases hm'
        exact .inr rfl
  · exact (seenSum_push (M.map fun m => (m.born, 0)) seen (m.born, 0) (by rw [List.map_map]; exact hn) (List.mem_map.2 ⟨m, List.mem_of_getElem? hm, rfl⟩) hs).2
theorem Came.done {α : Type} {M : List MapEntry} {L : List α} {seen : Array Nat} {P : List α} (h : Came M L seen P) (hl : M.length = L.length) (hall : ∀ m ∈ M, m.born ∈ seen) : P.Perm L := by
  obtain ⟨js, h1, h2, h3, h4⟩ := h
  have hp : js.Perm (List.range L.length) := by
    rw [List.perm_ext_iff_of_nodup h1 List.nodup_range]
    intro j
    rw [List.mem_range]
    refine ⟨h3 j, fun hj => ?_⟩
    have hm : M[j]? = some (M[j]'(by omega)) := List.getElem?_eq_getElem _
    exact (h4 j _ hm).1 (hall _ (List.mem_of_getElem? hm))
  have hp2 := (hp.map (fun j => L[j]?)).filterMap id
  rw [← h2] at hp2
  have e1 : (P.map some).filterMap id = P := by rw [List.filterMap_map]; simp
  have e2 : ((List.range L.length).map (fun j => L[j]?)) = L.map some := by
    refine List.ext_getElem? fun i => ?_
    rw [List.getElem?_map, List.getElem?_map]
    by_cases hi : i < L.length
    · rw [List.getElem?_range hi, List.getElem?_eq_getElem hi]; simp
    · rw [List.getElem?_eq_none (by rw [List.length_range]; omega), List.getElem?_eq_none (by omega)]; rfl
  have e3 : (L.map some).filterMap id = L := by rw [List.filterMap_map]; simp
  rw [e1, e2, e3] at hp2
  exact hp2
theorem Came.sub {α : Type} {M : List MapEntry} {L : List α} {seen : Array Nat} {P : List α} (h : Came M L seen P) : P.length ≤ L.length ∧ ∀ x ∈ P, x ∈ L := by
  obtain ⟨js, h1, h2, h3, h4⟩ := h
  have hl : P.length = js.length := by have := congrArg List.length h2; simpa using this
  refine ⟨?_, fun x hx => ?_⟩
  · rw [hl]
    have := h1.length_le_of_subset (l₂ := List.range L.length) (fun j hj => List.mem_range.2 (h3 j hj))
    simpa using this
  · have : some x ∈ P.map some := List.mem_map.2 ⟨x, hx, rfl⟩
    rw [h2] at this
    obtain ⟨j, _, e⟩ := List.mem_map.1 this
    exact List.mem_of_getElem? e
theorem left_none (M : List MapEntry) : left M #[] = M.length := unseen_none M
theorem pair_len {M : List MapEntry} {α : Type} {L : List α} {f : α → Value × Value} (h : M.map (fun e => (e.key, e.val)) = L.map f) : M.length = L.length := by have := congrArg List.length h; simpa using this
/-- An entry that comes stands for an element. -/
theorem pair_idx {M : List MapEntry} {α : Type} {L : List α} {f : α → Value × Value} (h : M.map (fun e => (e.key, e.val)) = L.map f) {m : MapEntry} (hm : m ∈ M) : ∃ (j : Nat) (x : α), M[j]? = some m ∧ L[j]? = some x ∧ m.key = (f x).1 ∧ m.val = (f x).2 := by
  obtain ⟨j, hj⟩ := List.getElem?_of_mem hm
  have hl := pair_len h
  have hjl := (List.getElem?_eq_some_iff.1 hj).1
  have hx : L[j]? = some (L[j]'(by omega)) := List.getElem?_eq_getElem _
  obtain ⟨e, he, h1, h2⟩ := pair_at h hx
  rw [hj] at he
  cases he
  exact ⟨j, _, hj, hx, h1, h2⟩
/-- Does one hold a lane's key, or wait for it? -/
def hitK (who : Int) (o : Option (KeyT × Bool)) (x : Le) : Bool := decide (who ∈ x.l.held) || (match o with | some v => decide (x.key = v.1) | none => false)
theorem keys_of {L P : List Le} {WT : List Wt} {who : Int} (hp : P.Perm L) (hn : (L.map Le.key).Nodup) : KeysOf (tbOf L WT) who (sortedK ((P.filter (hitK who (waitP (tbOf L WT) who))).map Le.key)) := by
  have hn2 : ((P.filter (hitK who (waitP (tbOf L WT) who))).map Le.key).Nodup := (List.filter_sublist.map _).nodup ((hp.map Le.key).nodup_iff.2 hn)
  refine ⟨sortedK_rise hn2, fun k => ?_⟩
  rw [(sortedK_perm _).mem_iff, List.mem_map]
  have hit : ∀ x : Le, hitK who (waitP (tbOf L WT) who) x = true ↔ who ∈ x.l.held ∨ ∃ m, waitP (tbOf L WT) who = some (x.key, m) := fun x => by
    unfold hitK
    rw [Bool.or_eq_true, decide_eq_true_eq]
    cases waitP (tbOf L WT) who with
    | none => simp
    | some v =>
      simp only [decide_eq_true_eq]
      refine or_congr_right ⟨fun e => ⟨v.2, by rw [e]⟩, ?_⟩
      rintro ⟨m, e⟩
      injection e with e
      rw [e]
  constructor
  · rintro ⟨x, hx, rfl⟩
    obtain ⟨hx1, hx2⟩ := List.mem_filter.1 hx
    obtain ⟨j, hj⟩ := List.getElem?_of_mem (hp.subset hx1)
    exact ⟨x.l, laneP_at hn hj, (hit x).1 hx2⟩
  · rintro ⟨l, hl, h2⟩
    rw [laneP_tb] at hl
    cases hf : L.find? (fun e => e.key == k) with
    | none => rw [hf] at hl; cases hl
    | some x =>
      rw [hf] at hl
      have h3 := List.find?_some hf
      rw [beq_iff_eq] at h3
      have hl : x.l = l := by simpa using hl
      refine ⟨x, List.mem_filter.2 ⟨hp.symm.subset (List.mem_of_find?_eq_some hf), (hit x).2 ?_⟩, h3⟩
      rw [hl, h3]
      exact h2
/-- What the keys of one are told as. -/
def KeysQ (w : World) (T : Tb) (who : Int) (e : Ending) (w' : World) : Prop := ∃ A c ks, e = .returned (.slice A ks.length c) ∧ RowIs w' 1 (.slice A ks.length c) ks.length (strs ks) ∧ (∀ g, (Value.slice A ks.length c).ownBlock = some g → w.heap.size ≤ g) ∧ KeysOf T who ks ∧ Below w.heap.size w w' ∧ ks.length ≤ T.lanes.length
end Go.Proofs.YtmchmlkbpocboaaGreatDoor
