/- lock: a lane is dropped; one waits no longer. Rows of numbers, sorted, and without doubles. -/
import Derived.Test.YtmchmlkbpocboaaGreatDoorZLokZ
import Derived.Test.YtmchmlkbpocboaaGreatDoorZLpD
set_option linter.unusedSimpArgs false
set_option linter.unusedVariables false
set_option linter.unnecessarySimpa false
namespace Go.Proofs.YtmchmlkbpocboaaGreatDoor
open Go.RowKit
open Go.Maps (Keyed)

theorem erase_by {α β : Type} [BEq β] [LawfulBEq β] (f : α → β) : ∀ {S : List α} {j : Nat} {x : α}, (S.map f).Nodup → S[j]? = some x → S.eraseIdx j = S.filter fun e => f e != f x
  | [], _, _, _, h => by cases h
  | y :: S, 0, x, hn, h => by
    cases h
    rw [List.map_cons, List.nodup_cons] at hn
    rw [List.eraseIdx_cons_zero, List.filter_cons, if_neg (by simp), List.filter_eq_self.2 (fun z hz => by
      rw [bne_iff_ne]
      intro e
      exact hn.1 (e ▸ List.mem_map.2 ⟨z, hz, rfl⟩))]
  | y :: S, j + 1, x, hn, h => by
    rw [List.map_cons, List.nodup_cons] at hn
    have hj : S[j]? = some x := h
    have hyx : f y ≠ f x := fun e => hn.1 (e ▸ List.mem_map.2 ⟨x, List.mem_of_getElem? hj, rfl⟩)
    rw [List.eraseIdx_cons_succ, List.filter_cons, if_pos (by simpa using hyx), erase_by f hn.2 hj]
theorem eraseIdx_get {α : Type} {L : List α} {j i : Nat} {x : α} (h : (L.eraseIdx j)[i]? = some x) : ∃ i', L[i']? = some x ∧ (i' = if i < j then i else i + 1) := by
  rw [List.getElem?_eraseIdx] at h
  split at h
  · next h1 => exact ⟨i, h, by rw [if_pos h1]⟩
  · next h1 => exact ⟨i + 1, h, by rw [if_neg h1]⟩
section
variable {W : World} {tb gl gw : Nat} {L : List Le} {WT : List Wt} {ro : Nat → Nat}
theorem TbAt.drop (h : TbAt W tb gl gw L WT ro) {j : Nat} {x : Le} (hj : L[j]? = some x) :
    ∃ W', (∀ ty, (Builtin.delete_ #[61, 9] ty #[.map (some gl), strV x.key]).run Tryz.prog W = .ok (.tuple #[]) W') ∧ TbAt W' tb gl gw (L.eraseIdx j) WT ro ∧ Touch (fun k => k = gl) W W' := by
  obtain ⟨M, c, h1, h2⟩ := h.lanes
  obtain ⟨m, hm1, hm2, hm3⟩ := pair_at h2 hj
  have hd := fun ty => h1.del_hit keyedS Tryz.underlying61 ty (keyS (h.keys x (List.mem_of_getElem? hj))) hm1 hm2
  obtain ⟨W', hW'⟩ : ∃ W', W' = ({ W with heap := W.heap.setIfInBounds gl (.map (M.eraseIdx j).toArray c) } : World) := ⟨_, rfl⟩
  rw [← hW'] at hd
  have hT : Touch (fun k => k = gl) W W' := by rw [hW']; exact (Touch.refl (fun k => k = gl) W).set gl _ (fun _ => rfl)
  have hrl := h.rl
  have hsub : ∀ e ∈ L.eraseIdx j, e ∈ L := fun e he => (List.eraseIdx_sublist L j).subset he
  have hidx : ∀ {i i' j' : Nat}, (i' = if i < j then i else i + 1) → (j' = if i < j then i else i + 1) → i' = j' := fun a b => a.trans b.symm
  have hback : ∀ {i k i' k' : Nat}, (i' = if i < j then i else i + 1) → (k' = if k < j then k else k + 1) → i' = k' → i = k := fun {i k i' k'} a b e => by
    rw [a, b] at e
    split at e <;> split at e <;> omega
  refine ⟨W', fun ty => (hd ty).1, ⟨?_, ⟨M.eraseIdx j, c, (hd 0).2, ?_⟩, ?_, fun e he => ?_, fun e he => h.keys e (hsub e he), h.inW, h.rt, h.rl, h.rw, fun e he => h.rn e (hsub e he), fun k hk => Nat.lt_of_lt_of_le (h.lt k hk) hT.size, ?_, ?_, ?_⟩, hT⟩
  · exact (hT.block tb (heap_lt h.head) (fun e => by have := h.rt; rw [e] at this; omega)).trans h.head
  · rw [map_erase, map_erase, h2]
  · obtain ⟨M', c', h3, h4⟩ := h.waits
    exact ⟨M', c', h3.keep (hT.block gw h3.lt (fun e => by have := h.rw; rw [e] at this; omega)), h4⟩
  · have hl := h.ln e (hsub e he)
    have hr := h.rn e (hsub e he)
    exact hl.keep hT.size (hT.block _ (heap_lt hl.head) (fun q => by have := hr.1; rw [q] at this; omega)) (hT.block _ hl.held.lt (fun q => by have := hr.2.1; rw [q] at this; omega)) (fun g hg => hT.block _ (hl.row.lt g hg) (fun q => by have := hr.2.2 g hg; rw [q] at this; omega))
  · intro i k y z hi hk e
    obtain ⟨i', hi', e1⟩ := eraseIdx_get hi
    obtain ⟨k', hk', e2⟩ := eraseIdx_get hk
    exact hback e1 e2 (h.oneb _ _ _ _ hi' hk' e)
  · intro i k y z hi hk e
    obtain ⟨i', hi', e1⟩ := eraseIdx_get hi
    obtain ⟨k', hk', e2⟩ := eraseIdx_get hk
    exact hback e1 e2 (h.oneg _ _ _ _ hi' hk' e)
  · intro i k y z g hi hk e3 e4
    obtain ⟨i', hi', e1⟩ := eraseIdx_get hi
    obtain ⟨k', hk', e2⟩ := eraseIdx_get hk
    exact hback e1 e2 (h.oner _ _ _ _ g hi' hk' e3 e4)
theorem del_tb (hn : (L.map Le.key).Nodup) {j : Nat} {x : Le} (hj : L[j]? = some x) : delLane (tbOf L WT) x.key = tbOf (L.eraseIdx j) WT := by
  rw [erase_by Le.key hn hj]
  unfold delLane tbOf
  simp only [Tb.mk.injEq, and_true]
  rw [List.filter_map]
  rfl
theorem TbAt.nowait (h : TbAt W tb gl gw L WT ro) {who : Int} (hw : InR64 who) :
    ∃ W', (∀ ty, (Builtin.delete_ #[62, 3] ty #[.map (some gw), .int .i64 who]).run Tryz.prog W = .ok (.tuple #[]) W') ∧ TbAt W' tb gl gw L (WT.filter fun e => e.1 != who) ro ∧ Touch (fun k => k = gw) W W' := by
  obtain ⟨M, c, h1, h2⟩ := h.waits
  have hrw := h.rw
  have hcom : ∃ (W' : World) (M' : List MapEntry), (∀ ty, (Builtin.delete_ #[62, 3] ty #[.map (some gw), .int .i64 who]).run Tryz.prog W = .ok (.tuple #[]) W') ∧ MapIs Tryz.prog 3 W' gw M' c ∧ M'.map (fun e => (e.key, e.val)) = (WT.filter fun e => e.1 != who).map (fun x => (Value.int .i64 x.1, holdV x.2)) ∧ Touch (fun k => k = gw) W W' := by
    by_cases hin : ∃ x ∈ WT, x.1 = who
    · obtain ⟨x, hx, rfl⟩ := hin
      obtain ⟨j, hj⟩ := List.getElem?_of_mem hx
      obtain ⟨m, hm1, hm2, hm3⟩ := pair_at h2 hj
      have hd := fun ty => h1.del_hit keyedI Tryz.underlying62 ty (keyI hw) hm1 hm2
      refine ⟨_, _, fun ty => (hd ty).1, (hd 0).2, ?_, (Touch.refl (fun k => k = gw) W).set gw _ (fun _ => rfl)⟩
      rw [map_erase, h2, ← map_erase, erase_by (fun e : Wt => e.1) h.nodupW hj]
    · have hno : ∀ e ∈ M, e.key ≠ .int .i64 who := fun m hm' e => by
        obtain ⟨x, hx, h3, _⟩ := pair_mem h2 hm'
        rw [h3] at e
        injection e with _ e
        exact hin ⟨x, hx, e⟩
      have hd := fun ty => h1.del_miss keyedI Tryz.underlying62 ty (keyI hw) hno
      refine ⟨_, _, fun ty => (hd ty).1, (hd 0).2, ?_, (Touch.refl (fun k => k = gw) W).set gw _ (fun _ => rfl)⟩
      rw [h2, List.filter_eq_self.2 (fun x hx => by
        rw [bne_iff_ne]
        exact fun e => hin ⟨x, hx, e⟩)]
  obtain ⟨W', M', hd, hm', hmp, hT⟩ := hcom
  refine ⟨W', hd, ⟨?_, ?_, ⟨M', c, hm', hmp⟩, fun e he => ?_, h.keys, fun x hx => h.inW x (List.mem_filter.1 hx).1, h.rt, h.rl, h.rw, h.rn, fun k hk => Nat.lt_of_lt_of_le (h.lt k hk) hT.size, h.oneb, h.oneg, h.oner⟩, hT⟩
  · exact (hT.block tb (heap_lt h.head) (fun e => by have := h.rt; rw [e] at this; omega)).trans h.head
  · obtain ⟨M', c', h3, h4⟩ := h.lanes
    exact ⟨M', c', h3.keep (hT.block gl h3.lt (fun e => by have := h.rl; rw [e] at this; omega)), h4⟩
  · have hl := h.ln e he
    have hr := h.rn e he
    exact hl.keep hT.size (hT.block _ (heap_lt hl.head) (fun q => by have := hr.1; rw [q] at this; omega)) (hT.block _ hl.held.lt (fun q => by have := hr.2.1; rw [q] at this; omega)) (fun g hg => hT.block _ (hl.row.lt g hg) (fun q => by have := hr.2.2 g hg; rw [q] at this; omega))
end
theorem nowait_tb (L : List Le) (WT : List Wt) (x : Int) : tbOf L (WT.filter fun e => e.1 != x) = noWait (tbOf L WT) [x] := by
  unfold noWait tbOf
  simp only [Tb.mk.injEq, true_and]
  refine List.filter_congr fun e _ => ?_
  by_cases h : e.1 = x <;> simp [List.contains_eq_mem, h]
theorem noWait_snoc (T : Tb) (S : List Int) (x : Int) : noWait (noWait T S) [x] = noWait T (S ++ [x]) := by
  unfold noWait
  simp only [Tb.mk.injEq, true_and]
  rw [List.filter_filter]
  refine List.filter_congr fun e _ => ?_
  by_cases h : e.1 = x <;> by_cases h2 : e.1 ∈ S <;> simp [List.contains_eq_mem, h, h2]
theorem noWait_nil (T : Tb) : noWait T [] = T := by
  unfold noWait
  have : T.waits.filter (fun e => !([] : List Int).contains e.1) = T.waits := List.filter_eq_self.2 (fun _ _ => rfl)
  rw [this]
end Go.Proofs.YtmchmlkbpocboaaGreatDoor

namespace Go.Proofs.YtmchmlkbpocboaaGreatDoor
open Go.RowKit Go.Sort Go.Shelf

def sortedI (l : List Int) : List Int := l.mergeSort fun x y => decide (x ≤ y)
theorem sortedI_len (l : List Int) : (sortedI l).length = l.length := by unfold sortedI; rw [List.length_mergeSort]
theorem sortedI_perm (l : List Int) : (sortedI l).Perm l := List.mergeSort_perm _ _
theorem sortedI_le (l : List Int) : (sortedI l).Pairwise (· ≤ ·) := by
  have := List.pairwise_mergeSort (le := fun x y : Int => decide (x ≤ y)) (by intro a b c; simp; omega) (by intro a b; simp; omega) l
  exact this.imp (by simp)
theorem sortedI_rise {l : List Int} (hn : l.Nodup) : Rising (sortedI l) :=
  rising_of intO ((sortedI_le l).imp (fun {a b} h => by omega)) ((sortedI_perm l).nodup_iff.2 hn)
theorem ints_at {l : List Int} {i : Nat} {k : Int} (h : l[i]? = some k) : (ints l)[i]? = some (.int .i64 k) := by unfold ints; rw [List.getElem?_map, h]; rfl
theorem holds_rowI {w : World} {g cap : Nat} {l : List Int} (h : RowC w 1 g cap (ints l)) : Sort.Holds (Value.int .i64) w g 0 l.toArray := fun j hj => by
  have hj' : j < l.length := by simpa using hj
  have h1 : (ints l)[j]? = some (.int .i64 l[j]) := ints_at (List.getElem?_eq_getElem hj')
  have h2 := h.le
  rw [ints_len] at h2
  refine ⟨?_, ?_⟩
  · rw [Nat.zero_add, h.holds j _ h1]
    simp [hj']
  · rw [Nat.zero_add]
    exact (h.there j (by omega)).2
theorem rowI_put {w : World} {g cap n : Nat} {l ts : List Int} (h : RowC w 1 g cap (ints l)) (hl : ts.length = l.length) : RowC (putRow (Value.int .i64) (Sort.ahead w n) g 0 ts.toArray) 1 g cap (ints ts) := by
  have hH := holds_rowI h
  have h2 := h.le
  rw [ints_len] at h2
  have hP : Sort.Holds (Value.int .i64) (putRow (Value.int .i64) (Sort.ahead w n) g 0 ts.toArray) g 0 ts.toArray := holds_putRow _ _ _ _ _ _ (holds_ahead _ _ n _ _ _ hH) (by simpa using hl)
  refine ⟨by rw [size_putRow]; exact h.lt, by rw [ints_len]; omega, h.max, fun j b hj => ?_, fun j hj => ?_⟩
  · have hj' : j < ts.length := by have := (List.getElem?_eq_some_iff.1 hj).1; rwa [ints_len] at this
    have h1 : (ints ts)[j]? = some (.int .i64 ts[j]) := ints_at (List.getElem?_eq_getElem hj')
    rw [h1] at hj
    have h3 := (hP j (by simpa using hj')).1
    rw [Nat.zero_add] at h3
    rw [h3, ← hj]
    simp [hj']
  · refine ⟨?_, by rw [frozen?_putRow]; exact (h.there j hj).2⟩
    by_cases hjl : j < ts.length
    · have h3 := (hP j (by simpa using hjl)).1
      rw [Nat.zero_add] at h3
      rw [h3]
      rfl
    · rw [cell?_putRow_other _ _ _ _ _ _ (.inr (.inr (by simp; omega)))]
      exact (h.there j hj).1
theorem touch_putI (w : World) (g n : Nat) (d : Array Int) : Touch (fun k => k = g) w (putRow (Value.int .i64) (Sort.ahead w n) g 0 d) :=
  ⟨rfl, rfl, rfl, by simp, fun k hk hne => by
    have : g ≠ k := fun e => hne e.symm
    simp [putRow, mapBlock, Sort.ahead, Array.getElem?_modify, this]⟩
theorem RowC.less {w : World} {g cap : Nat} {l m : List Value} (h : RowC w 1 g cap (l ++ m)) : RowC w 1 g cap l :=
  ⟨h.lt, by have := h.le; rw [List.length_append] at this; omega, h.max, fun j b hj => h.holds j b (by rw [List.getElem?_append_left (List.getElem?_eq_some_iff.1 hj).1]; exact hj), h.there⟩
/-- slices.Sort of a row of numbers. -/
theorem sortI_row {w : World} {v : Value} {l : List Int} (h : RowIs w 1 v l.length (ints l)) (hl : l.length ≤ 16777216) : Calls Tryz.prog 37 #[v] w fun e w' => e = .returned (.tuple #[]) ∧ RowIs w' 1 v l.length (ints (sortedI l)) ∧ Touch (fun k => v.ownBlock = some k) w w' := by
  rcases h with ⟨rfl, h1, h2⟩ | ⟨g, cap, rfl, h1, h2, h3⟩
  · obtain rfl : l = [] := List.eq_nil_of_length_eq_zero h1
    refine (Any.slices_Sort_int_none Tryz.sortI none 0 w).mono ?_
    rintro e w' ⟨rfl, rfl⟩
    refine ⟨rfl, ?_, Touch.refl _ _⟩
    rw [List.eq_nil_of_length_eq_zero (sortedI_len [])]
    exact RowIs.nil _ _
  · refine (Any.slices_Sort_int Tryz.sortI g 0 cap l w (holds_rowI h3) h3.lt (by omega)).mono ?_
    rintro e w' ⟨rfl, n, os, rfl⟩
    have hp := rowI_put (n := n) (ts := sortedI l) h3 (sortedI_len l)
    have hb := touch_grow (putRow (Value.int .i64) (Sort.ahead w n) g 0 (sortedI l).toArray) os
    refine ⟨rfl, .inr ⟨g, cap, rfl, by rw [ints_len, sortedI_len]; omega, h2, hp.keep hb.size (hb.block g hp.lt)⟩, ?_⟩
    exact ((touch_putI w g n (sortedI l).toArray).mono (fun k _ e => by rw [e]; rfl)).after hb
/-- slices.Compact of a row of numbers. -/
theorem compI_row {w : World} {v : Value} {l : List Int} (h : RowIs w 1 v l.length (ints l)) (hl : l.length ≤ 16777216) : Calls Tryz.prog 38 #[v] w fun e w' => ∃ v', e = .returned v' ∧ v'.ownBlock = v.ownBlock ∧ RowIs w' 1 v' (Lib.compact l).length (ints (Lib.compact l)) ∧ Touch (fun k => v.ownBlock = some k) w w' := by
  rcases h with ⟨rfl, h1, h2⟩ | ⟨g, cap, rfl, h1, h2, h3⟩
  · obtain rfl : l = [] := List.eq_nil_of_length_eq_zero h1
    refine (Any.slices_Compact_int_empty Tryz.compI none 0 w).mono ?_
    rintro e w' ⟨rfl, rfl⟩
    exact ⟨_, rfl, rfl, RowIs.nil _ _, Touch.refl _ _⟩
  · refine (Any.slices_Compact_int Tryz.compI g 0 cap l w (holds_rowI h3) (by omega) h2).mono ?_
    rintro e w' ⟨rfl, q, rfl⟩
    have hle : (Lib.compact l).length ≤ l.length := Lib.compact_length_le l
    have hp := rowI_put (n := q) (ts := Lib.compact l ++ List.replicate (l.length - (Lib.compact l).length) 0) h3 (by rw [List.length_append, List.length_replicate]; omega)
    refine ⟨_, rfl, rfl, .inr ⟨g, cap, rfl, by rw [ints_len]; omega, by omega, ?_⟩, ?_⟩
    · rw [ints_app] at hp
      exact hp.less
    · exact (touch_putI w g q _).mono (fun k _ e => by rw [e]; rfl)
theorem src_ints {w : World} {A : Option Addr} {c : Nat} {l : List Int} (h : RowIs w 1 (.slice A l.length c) l.length (ints l)) : Src Tryz.prog 1 38 (.slice A l.length c) l.length (ints l) w := by
  rcases h with ⟨e, h1, _⟩ | ⟨g, cap, e, h1, h2, h3⟩
  · injection e with e1 e2 e3
    have : l = [] := List.eq_nil_of_length_eq_zero h1
    subst this
    subst e1
    exact Src.ofNil _ Tryz.underlying38 c
  · injection e with e1 e2 e3
    subst e1
    exact Src.ofSlice _ Tryz.underlying38 ⟨g, 0, none⟩ l.length c (ints l) (by rw [ints_len, Nat.mul_one]) (fun j u hu => by rw [add0]; exact h3.holds j u hu) (fun u hu => by
      unfold ints at hu
      obtain ⟨x, _, rfl⟩ := List.mem_map.1 hu
      rfl)
/-- Numbers are put behind a row of numbers. -/
theorem app_ints {w : World} {A B : Option Addr} {c d : Nat} {l m : List Int} (ty : TypeId) (h : RowIs w 1 (.slice A l.length c) l.length (ints l)) (hs : RowIs w 1 (.slice B m.length d) m.length (ints m)) (hl : l.length + m.length ≤ 16777000) : ∃ A' c' w', (Builtin.append_ #[38, 38] ty #[.slice A l.length c, .slice B m.length d]).run Tryz.prog w = .ok (.slice A' (l ++ m).length c') w' ∧ RowIs w' 1 (.slice A' (l ++ m).length c') (l ++ m).length (ints (l ++ m)) ∧ Touch (fun k => (Value.slice A l.length c).ownBlock = some k) w w' ∧ (∀ k, (Value.slice A' (l ++ m).length c').ownBlock = some k → (Value.slice A l.length c).ownBlock = some k ∨ w.heap.size ≤ k) := by
  obtain ⟨v', w', hr, h2, h3, h4⟩ := run_append_row w 38 3 ty 38 Tryz.underlying38 infoI rfl (by omega) (by omega) (.slice A l.length c) l.length m.length (ints l) (ints m) (.slice B m.length d) h (src_ints hs) (by omega)
  obtain ⟨A', c', rfl, _⟩ := id h2.form
  rw [List.length_append]
  refine ⟨A', c', w', hr, by rw [ints_app]; exact h2, (Touch.refl _ _).grown h3 (fun k hk _ => hk), fun k hk => ?_⟩
  rcases h4 with e | e
  · exact .inl (e ▸ hk)
  · right
    rw [e] at hk
    have := Option.some.inj hk
    omega
theorem mem_compact {l : List Int} {y : Int} (h : y ∈ l) : y ∈ Lib.compact l := by
  obtain ⟨j, hj⟩ := List.getElem?_of_mem h
  have hjl := (List.getElem?_eq_some_iff.1 hj).1
  have hd : ∀ i, i < l.length → l.toArray[i]! = l[i]! := fun i hi => by simp [hi]
  have key : ∀ j, j < l.length → l.toArray[j]! ∈ Lib.compact l := by
    intro j
    induction j with
    | zero =>
      intro h0
      unfold Lib.compact Lib.compactUpTo
      refine List.mem_map.2 ⟨0, List.mem_filter.2 ⟨List.mem_range.2 h0, ?_⟩, rfl⟩
      exact Lib.keeps_lt_one _ 0 (by omega)
    | succ j ih =>
      intro h0
      by_cases he : l.toArray[j + 1]! = l.toArray[j]!
      · rw [he]
        exact ih (by omega)
      · unfold Lib.compact Lib.compactUpTo
        refine List.mem_map.2 ⟨j + 1, List.mem_filter.2 ⟨List.mem_range.2 h0, ?_⟩, rfl⟩
        exact Lib.keeps_pos (by simpa using he)
  have := key j hjl
  have e : l.toArray[j]! = y := by
    have h2 := (List.getElem?_eq_some_iff.1 hj).2
    simp [hjl, h2]
  rwa [e] at this
theorem of_compact {l : List Int} {y : Int} (h : y ∈ Lib.compact l) : y ∈ l := by
  unfold Lib.compact Lib.compactUpTo at h
  obtain ⟨j, hj, rfl⟩ := List.mem_map.1 h
  have hjl := List.mem_range.1 (List.mem_filter.1 hj).1
  simp [hjl]
theorem compact_rises (d : Array Int) (hd : ∀ i j, i ≤ j → j < d.size → d[i]! ≤ d[j]!) : ∀ m, m ≤ d.size → (Lib.compactUpTo d m).Pairwise (· < ·) ∧ ∀ y ∈ Lib.compactUpTo d m, y ≤ d[m - 1]!
  | 0, _ => ⟨by unfold Lib.compactUpTo; simp, fun y hy => by unfold Lib.compactUpTo at hy; simp at hy⟩
  | m + 1, hm => by
    obtain ⟨h1, h2⟩ := compact_rises d hd m (by omega)
    rw [Lib.compactUpTo_succ]
    by_cases hk : Lib.keeps d m = true
    · rw [if_pos hk]
      have hk' : m = 0 ∨ d[m]! ≠ d[m - 1]! := by unfold Lib.keeps at hk; simpa using hk
      refine ⟨?_, fun y hy => ?_⟩
      · rw [List.pairwise_append]
        refine ⟨h1, List.pairwise_singleton _ _, fun a ha b hb => ?_⟩
        rw [List.mem_singleton] at hb
        rw [hb]
        rcases hk' with e | e
        · subst e
          unfold Lib.compactUpTo at ha
          simp at ha
        · have h3 := h2 a ha
          have h4 := hd (m - 1) m (by omega) (by omega)
          omega
      · show y ≤ d[m + 1 - 1]!
        rw [Nat.add_sub_cancel]
        rcases List.mem_append.1 hy with e | e
        · exact Int.le_trans (h2 y e) (hd (m - 1) m (by omega) (by omega))
        · rw [List.mem_singleton] at e
          rw [e]
          exact Int.le_refl _
    · rw [if_neg hk, List.append_nil]
      refine ⟨h1, fun y hy => ?_⟩
      show y ≤ d[m + 1 - 1]!
      rw [Nat.add_sub_cancel]
      exact Int.le_trans (h2 y hy) (hd (m - 1) m (by omega) (by omega))
/-- A row in order, without doubles, rises. -/
theorem compact_rise (l : List Int) (h : l.Pairwise (· ≤ ·)) : Rising (Lib.compact l) ∧ ∀ x, x ∈ Lib.compact l ↔ x ∈ l := by
  refine ⟨?_, fun x => ⟨of_compact, mem_compact⟩⟩
  unfold Rising Lib.compact
  refine (compact_rises l.toArray (fun i j hij hj => ?_) _ (by simp)).1
  have hj' : j < l.length := by simpa using hj
  have hi' : i < l.length := by omega
  have e : ∀ (i : Nat) (hi : i < l.length), l.toArray[i]! = l[i] := fun i hi => by simp [hi]
  rw [e i hi', e j hj']
  by_cases e : i = j
  · subst e; exact Int.le_refl _
  · exact List.pairwise_iff_getElem.1 h i j hi' hj' (by omega)
end Go.Proofs.YtmchmlkbpocboaaGreatDoor
