/- The tape: what TapeMany does with its tape. -/
import Derived.Test.YtojmfjmnfpnmmaaDoorTapR
import Derived.Test.YtojmfjmnfpnmmaaDoorTapM
set_option linter.unusedSimpArgs false
set_option linter.unusedVariables false
set_option linter.unnecessarySimpa false
namespace Go.Proofs.YtojmfjmnfpnmmaaDoor
open Go.RowKit

theorem erase_map {α β : Type} (f : α → β) (l : List α) (j : Nat) : (l.eraseIdx j).map f = (l.map f).eraseIdx j := by
  induction l generalizing j with
  | nil => rfl
  | cons x l ih => cases j <;> simp [*]
def manA (F k : Nat) : Abs := (List.range k).map fun j => (((F + j : Nat) : Int), [120], 0)
theorem manA_len (F k : Nat) : (manA F k).length = k := by simp [manA]
theorem manA_succ (F k : Nat) : manA F (k + 1) = manA F k ++ [(((F + k : Nat) : Int), [120], 0)] := by simp [manA, List.range_succ]
theorem manA_sum (F k : Nat) : sumA (manA F k) = k := by
  induction k with
  | zero => rfl
  | succ k ih => rw [manA_succ]; unfold sumA at *; rw [List.map_append, List.sum_append, ih]; simp
theorem manA_names (F k : Nat) : (manA F k).map (·.1) = (List.range k).map fun j => ((F + j : Nat) : Int) := by simp [manA, List.map_map, Function.comp_def]
theorem manA_app (F k : Nat) : appA (manA F k) ((F + k : Nat) : Int) [120] = manA F (k + 1) := by
  unfold appA
  rw [if_neg, manA_succ]
  rw [Bool.not_eq_true, List.any_eq_false]
  intro x hx
  obtain ⟨j, hj, rfl⟩ := List.mem_map.1 hx
  have := List.mem_range.1 hj
  simp
  omega
/-- The names of the law's segments. -/
def Named (F : Nat) (A : Abs) : Prop := A.map (·.1) = (List.range 64).map fun j => ((F + j : Nat) : Int)
theorem Named.len {F : Nat} {A : Abs} (h : Named F A) : A.length = 64 := by
  have := congrArg List.length h
  simpa using this
theorem Named.hit {F : Nat} {A : Abs} (h : Named F A) {n : Int} (h0 : (F : Int) ≤ n) (h1 : n < (F : Int) + 64) : ∃ (j : Nat) (b : List UInt8) (s : Nat), A[j]? = some (n, b, s) := by
  have hl := h.len
  obtain ⟨j, hj⟩ : ∃ j : Nat, n = ((F + j : Nat) : Int) := ⟨(n - F).toNat, by omega⟩
  have hj64 : j < 64 := by omega
  have := congrArg (·[j]?) h
  simp only [List.getElem?_map] at this
  rw [List.getElem?_eq_getElem (show j < A.length by omega), List.getElem?_eq_getElem (show j < (List.range 64).length by simpa using hj64)] at this
  simp at this
  exact ⟨j, A[j].2.1, A[j].2.2, by rw [List.getElem?_eq_getElem (show j < A.length by omega)]; exact congrArg some (Prod.ext (by show A[j].1 = n; omega) rfl)⟩
theorem Named.miss {F : Nat} {A : Abs} (h : Named F A) {n : Int} (hn : ¬ ((F : Int) ≤ n ∧ n < (F : Int) + 64)) : ∀ x ∈ A, x.1 ≠ n := by
  intro x hx e
  have h1 : x.1 ∈ A.map (·.1) := List.mem_map.2 ⟨x, hx, rfl⟩
  rw [h] at h1
  obtain ⟨j, hj, hx2⟩ := List.mem_map.1 h1
  have := List.mem_range.1 hj
  omega
theorem any_hit {A : Abs} {j : Nat} {n : Int} {b : List UInt8} {s : Nat} (hj : A[j]? = some (n, b, s)) : A.any (fun x => x.1 == n) = true := by
  rw [List.any_eq_true]
  exact ⟨_, List.mem_of_getElem? hj, by simp⟩
theorem appA_hit {A : Abs} {j : Nat} {n : Int} {b : List UInt8} {s : Nat} (hj : A[j]? = some (n, b, s)) (d : List UInt8) : (appA A n d).map (·.1) = A.map (·.1) ∧ sumA (appA A n d) ≤ sumA A + A.length * d.length := by
  unfold appA
  rw [if_pos (any_hit hj)]
  clear hj
  refine ⟨?_, ?_⟩
  · rw [List.map_map]
    refine List.map_congr_left fun x _ => ?_
    simp only [Function.comp]
    split <;> rfl
  · unfold sumA
    rw [List.map_map]
    induction A with
    | nil => simp
    | cons x A ih =>
      simp only [List.map_cons, List.sum_cons, List.length_cons, Function.comp] at *
      have : (A.length + 1) * d.length = A.length * d.length + d.length := Nat.succ_mul _ _
      split
      · simp only [List.length_append]; omega
      · omega
section
variable {w W : World} {t room : Nat} {A : Abs} {T : Tp}
theorem awk_hit (h : Awk w t room A T W) {seg : Int} (hn : nameB seg = true) {j : Nat} {b : List UInt8} {s : Nat} (hj : A[j]? = some (seg, b, s)) {v : Value} {Av : Option Addr} {nv cv : Nat} (ev : v = .slice Av nv cv) {ls : List (List UInt8)} (hu : sumA A + ls.flatten.length ≤ room) (hP : ∀ w', Touch (fun k => k ∈ T.blocks t) W w' → PIs w' v ls) :
    Calls Tryd.prog 11 #[.pointer (some ⟨t, 0, none⟩), .int .i64 seg, v] W fun e w' => e = .returned (.int .i64 0) ∧ ∃ T', Awk w t room (appA A seg ls.flatten) T' w' := by
  subst ev
  have hr := h.tape.room
  rw [h.room] at hr
  obtain ⟨e, hje, hen, _, _⟩ := h.at hj
  refine (append_ok h.globW h.tape (h.ready hn) (fun W' hW' => fits_hit (h.tape.below hW') (hP W' (.of_below hW')) (by omega) (by rw [h.used, h.room]; omega) hn hje hen) hn (.inr ⟨e, List.mem_of_getElem? hje, hen⟩) (ls := ls) (by rw [h.used]; omega) h.spent h.far hP).mono ?_
  rintro e w' ⟨rfl, T', h1, h2, h3, h4, h5⟩
  rw [h.burnt] at h2
  have hb : Below w.heap.size W w' := h4.below h.new h.below.size
  refine ⟨rfl, T', h1, h2.room.trans h.room, h2.fused.trans h.fused, h2.down.trans h.down, by rw [h3, h.abs], h.glob, fun k hk => ?_, h.below.trans hb⟩
  rcases h5 k hk with h6 | h6
  · exact h.new k h6
  · have := h.below.size; omega
theorem awk_full (h : Awk w t room A T W) {seg : Int} (hn : nameB seg = true) (h64 : 64 ≤ A.length) (hm : ∀ x ∈ A, x.1 ≠ seg) {v : Value} {Av : Option Addr} {nv cv : Nat} (ev : v = .slice Av nv cv) {ls : List (List UInt8)} (hu : sumA A + ls.flatten.length ≤ room) (hP : ∀ w', Below W.heap.size W w' → PIs w' v ls) :
    Calls Tryd.prog 11 #[.pointer (some ⟨t, 0, none⟩), .int .i64 seg, v] W fun e w' => e = .returned (.int .i64 5) ∧ Awk w t room A T w' := by
  subst ev
  have hr := h.tape.room
  rw [h.room] at hr
  refine (append_full h.globW h.tape (h.ready hn) (fun W' hW' => fits_many (h.tape.below hW') (hP W' hW') (by omega) (by rw [h.used, h.room]; omega) hn (h.miss hm) (by rw [h.len]; exact h64))).mono ?_
  rintro e w' ⟨rfl, hb⟩
  exact ⟨rfl, h.keep hb⟩
theorem awk_bad (h : Awk w t room A T W) {seg : Int} (hn : nameB seg = false) {v : Value} {Av : Option Addr} {nv cv : Nat} (ev : v = .slice Av nv cv) :
    Calls Tryd.prog 11 #[.pointer (some ⟨t, 0, none⟩), .int .i64 seg, v] W fun e w' => e = .returned (.int .i64 2) ∧ Awk w t room A T w' := by
  subst ev
  refine (append_err (E := 2) h.globW (by decide) (by
    have := ready_any (h.tape.below (appW_below W (some ⟨t, 0, none⟩) seg (.slice Av nv cv))) seg
    rw [show readyE T seg = 2 from by unfold readyE; rw [if_pos hn]] at this
    exact this)).mono ?_
  rintro e w' ⟨rfl, hb⟩
  exact ⟨rfl, h.keep hb⟩
theorem awk_drop (h : Awk w t room A T W) {seg : Int} (hn : nameB seg = true) {j : Nat} {b : List UInt8} {s : Nat} (hj : A[j]? = some (seg, b, s)) :
    Calls Tryd.prog 12 #[.pointer (some ⟨t, 0, none⟩), .int .i64 seg] W fun e w' => e = .returned (.int .i64 0) ∧ ∃ T', Awk w t room (A.eraseIdx j) T' w' := by
  obtain ⟨e, hje, he, _, _⟩ := h.at hj
  refine (drop_ok h.globW h.tape (h.ready hn) hje he h.spent h.far).mono ?_
  rintro x w' ⟨rfl, h1, h4⟩
  unfold dropT at h1
  rw [h.burnt] at h1
  have hb : Below w.heap.size W w' := h4.below h.new h.below.size
  refine ⟨rfl, _, h1, h.room, h.fused, h.down, ?_, h.glob, fun k hk => ?_, h.below.trans hb⟩
  · show Go.Proofs.YtojmfjmnfpnmmaaDoor.abs (T.L.eraseIdx j) = _
    rw [← h.abs]
    unfold Go.Proofs.YtojmfjmnfpnmmaaDoor.abs
    rw [erase_map]
  · refine h.new k ?_
    rcases mem_blocks.1 hk with h6 | h6 | ⟨x, hx, h6⟩
    · exact mem_blocks.2 (.inl h6)
    · exact mem_blocks.2 (.inr (.inl h6))
    · exact mem_blocks.2 (.inr (.inr ⟨x, (List.eraseIdx_sublist T.L j).subset hx, h6⟩))
theorem lit_far (h : Awk w t room A T W) {cs : Array Value} {fr : Nat × Nat} {n : Nat} {l : List UInt8} (hcs : (bc l).toArray = cs) (hl : l.length = n) (hm : n ≤ 1000) {w' : World} (ht : Touch (fun k => k ∈ T.blocks t) (litW W cs fr n) w') : PIs w' (.slice (some ⟨W.heap.size + 1, 0, none⟩) 1 1) [l] := by
  have hs : (litW W cs fr n).heap.size = W.heap.size + 1 + 1 := by unfold litW; rw [asz, asz]
  have hN : ∀ k, W.heap.size ≤ k → k ∉ T.blocks t := fun k hk hk2 => by have := h.tape.lt k hk2; omega
  exact litW_pis (fr := fr) hcs hl hm (ht.block _ (by omega) (hN _ (Nat.le_refl _))) (ht.block _ (by omega) (hN _ (by omega)))
/-- What an Append of the law's second loop answers. -/
def manyE (F : Nat) (s : Int) : Int := if nameB s = false then 2 else if (F : Int) ≤ s ∧ s < (F : Int) + 64 then 0 else 5
theorem awk_many (h : Awk w t 5000 A T W) {F k : Nat} (hN : Named F A) (hs : sumA A ≤ 64 + 64 * k) (hk : k < 20) (s : Int) {cs : Array Value} {fr : Nat × Nat} (hcs : (bc [121]).toArray = cs) :
    Calls Tryd.prog 11 #[.pointer (some ⟨t, 0, none⟩), .int .i64 s, .slice (some ⟨W.heap.size + 1, 0, none⟩) 1 1] (litW W cs fr 1) fun e w' => e = .returned (.int .i64 (manyE F s)) ∧ ∃ A' T', Named F A' ∧ sumA A' ≤ 64 + 64 * (k + 1) ∧ Awk w t 5000 A' T' w' := by
  have hA := h.keep (litW_below W cs fr 1)
  have hP := fun w' (ht : Touch (fun k => k ∈ T.blocks t) (litW W cs fr 1) w') => lit_far h (l := [121]) (n := 1) hcs rfl (by omega) ht
  unfold manyE
  by_cases hb : nameB s = false
  · rw [if_pos hb]
    refine (awk_bad hA hb rfl).mono ?_
    rintro e w' ⟨rfl, h1⟩
    exact ⟨rfl, A, T, hN, by omega, h1⟩
  · rw [if_neg hb]
    have hb' : nameB s = true := by simpa using hb
    by_cases hh : (F : Int) ≤ s ∧ s < (F : Int) + 64
    · rw [if_pos hh]
      obtain ⟨j, b, s', hj⟩ := hN.hit hh.1 hh.2
      refine (awk_hit hA hb' hj rfl (ls := [[121]]) (by simp; omega) hP).mono ?_
      rintro e w' ⟨rfl, T', h1⟩
      have h2 := appA_hit hj [[121]].flatten
      rw [hN.len] at h2
      exact ⟨rfl, _, T', h2.1.trans hN, by have := h2.2; simp at this; simp; omega, h1⟩
    · rw [if_neg hh]
      refine (awk_full hA hb' (by rw [hN.len]; omega) (hN.miss hh) rfl (ls := [[121]]) (by simp; omega) (fun w' hw' => hP w' (.of_below hw'))).mono ?_
      rintro e w' ⟨rfl, h1⟩
      exact ⟨rfl, A, T, hN, by omega, h1⟩
/-- One part without bytes. -/
theorem nil_far (h : Awk w t room A T W) {w' : World} (ht : Touch (fun k => k ∈ T.blocks t) (W.alloc (.cells #[.slice none 0 0] 23)) w') : PIs w' (.slice (some ⟨W.heap.size, 0, none⟩) 1 1) [[]] := by
  have hb : w'.heap[W.heap.size]? = some (.cells #[.slice none 0 0] 23 (0, 0)) := (ht.block _ (by rw [asz]; omega) (fun hk => by have := h.tape.lt _ hk; omega)).trans (alloc_at W _)
  refine ⟨_, _, rfl, Nat.le_refl _, by unfold maxLen; omega, fun i m hi => ?_⟩
  match i with
  | i + 1 => simp at hi
  | 0 =>
    obtain rfl : [] = m := by simpa using hi
    exact ⟨_, _, rfl, heap_lt hb, by rw [add0, cell_of hb]; rfl, none, 0, rfl, Nat.le_refl _, by unfold maxLen; omega, fun i b hi => by simp at hi⟩
/-- Behind the drop, the appends without bytes and Segs. -/
theorem awk_tail1 (h : Awk w t 5000 A T W) {F : Nat} (hF : F < 1000) (hN : Named F A) (hs : sumA A ≤ 3000) : Calls Tryd.prog 12 #[.pointer (some ⟨t, 0, none⟩), .int .i64 (F : Int)] W fun e w' => e = .returned (.int .i64 0) ∧ ∃ A' T', A'.map (·.1) = (List.range 63).map (fun j => ((F + 1 + j : Nat) : Int)) ∧ sumA A' ≤ 3000 ∧ Awk w t 5000 A' T' w' := by
  obtain ⟨j, b, s, hj⟩ := hN.hit (n := (F : Int)) (by omega) (by omega)
  have hl := hN.len
  have h0 := congrArg (·[j]?) hN
  simp only [List.getElem?_map, hj] at h0
  have hj64 : j < 64 := by rw [← hl]; exact (List.getElem?_eq_some_iff.1 hj).1
  rw [List.getElem?_eq_getElem (show j < (List.range 64).length by simpa using hj64)] at h0
  simp at h0
  obtain rfl : j = 0 := by omega
  refine (awk_drop h (nameB_iff.2 ⟨by omega, by omega⟩) hj).mono ?_
  rintro e w' ⟨rfl, T', h1⟩
  refine ⟨rfl, _, T', ?_, ?_, h1⟩
  · rw [erase_map, hN, List.range_succ_eq_map]
    simp [List.map_map, Function.comp_def]
    intro a ha
    omega
  · cases A with
    | nil => cases hj
    | cons x A => unfold sumA at *; simp at *; omega
theorem awk_tail2 (h : Awk w t 5000 A T W) {F : Nat} (hF : F < 1000) (hN : A.map (·.1) = (List.range 63).map (fun j => ((F + 1 + j : Nat) : Int))) (hs : sumA A ≤ 3000) : Calls Tryd.prog 11 #[.pointer (some ⟨t, 0, none⟩), .int .i64 ((F : Int) + 1000), .slice (some ⟨W.heap.size, 0, none⟩) 1 1] (W.alloc (.cells #[.slice none 0 0] 23)) fun e w' => e = .returned (.int .i64 0) ∧ ∃ A' T', A'.length = 64 ∧ (∀ x ∈ A', x.1 ≠ (F : Int)) ∧ sumA A' ≤ 3000 ∧ Awk w t 5000 A' T' w' := by
  have hl : A.length = 63 := by have := congrArg List.length hN; simpa using this
  have hm : ∀ x ∈ A, (F : Int) < x.1 ∧ x.1 < (F : Int) + 64 := by
    intro x hx
    have h1 : x.1 ∈ A.map (·.1) := List.mem_map.2 ⟨x, hx, rfl⟩
    rw [hN] at h1
    obtain ⟨j, hj, hx2⟩ := List.mem_map.1 h1
    have := List.mem_range.1 hj
    omega
  refine (awk_append (h.keep (below_new _)) (nameB_iff.2 ⟨by omega, by omega⟩) (by omega) rfl (ls := [[]]) (by simp; omega) (fun w' ht => nil_far h ht)).mono ?_
  rintro e w' ⟨rfl, T', h1⟩
  have ha : appA A ((F : Int) + 1000) [[]].flatten = A ++ [((F : Int) + 1000, [], 0)] := by
    unfold appA
    rw [if_neg]
    · rfl
    · rw [Bool.not_eq_true, List.any_eq_false]
      intro x hx
      have := hm x hx
      simp
      omega
  rw [ha] at h1
  refine ⟨rfl, _, T', by simp [hl], fun x hx => ?_, ?_, h1⟩
  · rcases List.mem_append.1 hx with hx | hx
    · have := hm x hx; omega
    · obtain rfl := List.mem_singleton.1 hx
      simp only
      omega
  · unfold sumA at *; simp at *; omega
theorem awk_tail3 (h : Awk w t 5000 A T W) {F : Nat} (hF : F < 1000) (hl : A.length = 64) (hm : ∀ x ∈ A, x.1 ≠ (F : Int)) (hs : sumA A ≤ 3000) : Calls Tryd.prog 11 #[.pointer (some ⟨t, 0, none⟩), .int .i64 (F : Int), .slice (some ⟨W.heap.size, 0, none⟩) 1 1] (W.alloc (.cells #[.slice none 0 0] 23)) fun e w' => e = .returned (.int .i64 5) ∧ Awk w t 5000 A T w' :=
  awk_full (h.keep (below_new _)) (nameB_iff.2 ⟨by omega, by omega⟩) (by omega) hm rfl (ls := [[]]) (by simp; omega) (fun w' hw' => nil_far h (.of_below hw'))
theorem awk_tail4 (h : Awk w t 5000 A T W) (hl : A.length = 64) : Calls Tryd.prog 13 #[.pointer (some ⟨t, 0, none⟩)] W fun e w' => ∃ Av c, e = .returned (.slice Av 64 c) ∧ Below W.heap.size W w' := by
  refine (segs_any h.tape).mono ?_
  rintro e w' ⟨v, ns, rfl, h1, h2, _, _, h5⟩
  have hn := h2.length_eq
  rw [List.length_map, h.len, hl] at hn
  obtain ⟨Av, c, rfl, _⟩ := h1.form
  exact ⟨Av, c, by rw [hn], h5⟩
end
end Go.Proofs.YtojmfjmnfpnmmaaDoor
