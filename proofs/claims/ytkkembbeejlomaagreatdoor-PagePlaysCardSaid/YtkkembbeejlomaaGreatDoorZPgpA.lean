/- The document's own store: with. The document's own store: what a call leaves of it; Put. -/
import Derived.Test.YtkkembbeejlomaaGreatDoorZPgeM
set_option linter.unusedSimpArgs false
set_option linter.unusedVariables false
set_option linter.unnecessarySimpa false
namespace Go.Proofs.YtkkembbeejlomaaGreatDoor
open Go.RowKit Go.Shelf Go.Sort Go.Lib

theorem row_src {w : World} {v : Value} {n : Nat} {l : List Value} (h : RowIs w 1 v n l) (h1 : ∀ u ∈ l, u.oneCell' = true) : Src Tryz.prog 1 29 v n l w := by
  have hlen := h.len
  obtain ⟨A, c, rfl, _, _, h3, h4, h5⟩ := h.form
  cases A with
  | none =>
    obtain ⟨rfl, rfl⟩ := h3 rfl
    obtain rfl : l = [] := List.length_eq_zero_iff.1 (by omega)
    exact Src.ofNil w Tryz.underlying29 0
  | some a =>
    obtain ⟨g, rfl, _⟩ := h4 a rfl
    refine Src.ofSlice _ Tryz.underlying29 ⟨g, 0, none⟩ n c l (by omega) (fun j u hu => ?_) h1
    obtain ⟨g', e, k⟩ := h5 j u hu
    injection e with e
    injection e with e
    subst e
    rw [add0]
    exact k
theorem Sl.one {w : World} {u : Value} {p : List Row} (h : Sl w u p) : u.oneCell' = true := by
  obtain ⟨A, c, rfl, _, _⟩ := h.form
  rfl
theorem RAt.ones {w : World} {r : Nat} {most : Int} {v : Value} {us : List Value} {P : List (List Row)} (h : RAt w r most v us P) : ∀ u ∈ us, u.oneCell' = true := fun u hu => by
  obtain ⟨i, hi⟩ := List.getElem?_of_mem hu
  have hil := (List.getElem?_eq_some_iff.1 hi).1
  rw [h.len] at hil
  obtain ⟨u', h1, h2⟩ := h.each i _ (List.getElem?_eq_getElem hil)
  rw [hi] at h1
  obtain rfl := Option.some.inj h1
  exact h2.one
/-- Pages in a slice. -/
structure PgIn (w : World) (lv : Value) (ql : List Value) (Q : List (List Row)) : Prop where
  row : RowIs w 1 lv Q.length ql
  each : ∀ (i : Nat) (q : List Row), Q[i]? = some q → ∃ u, ql[i]? = some u ∧ Sl w u q
theorem PgIn.len {w : World} {lv : Value} {ql : List Value} {Q : List (List Row)} (h : PgIn w lv ql Q) : ql.length = Q.length := by
  have := h.row.len
  omega
theorem PgIn.at_ {w : World} {lv : Value} {ql : List Value} {Q : List (List Row)} (h : PgIn w lv ql Q) {u : Value} (hu : u ∈ ql) : ∃ q ∈ Q, Sl w u q := by
  obtain ⟨i, hi⟩ := List.getElem?_of_mem hu
  have hil := (List.getElem?_eq_some_iff.1 hi).1
  rw [h.len] at hil
  obtain ⟨u', h1, h2⟩ := h.each i _ (List.getElem?_eq_getElem hil)
  rw [hi] at h1
  obtain rfl := Option.some.inj h1
  exact ⟨_, List.getElem_mem hil, h2⟩
set_option maxRecDepth 100000 in
set_option maxHeartbeats 8000000 in
theorem with_any {w : World} {r : Nat} {most : Int} {v lv : Value} {us ql : List Value} {P Q : List (List Row)} {a b : Nat} (h : RSt w r most v us P) (hP : P ≠ []) (hl : P.length ≤ 256) (hab : a ≤ b) (hb1 : 1 ≤ b) (hb : b ≤ P.length) (hQ : PgIn w lv ql Q) (hQl : Q.length ≤ 2) (hqo : ∀ u ∈ ql, blkOf u ≠ some r) :
    Calls Tryz.prog 55 #[.pointer (some ⟨r, 0, none⟩), .int .i64 (a : Int), .int .i64 (b : Int), lv] w fun e w' => e = .returned (.tuple #[]) ∧ ∃ v', RSt w' r most v' (us.take a ++ ql ++ us.drop b) (swapP P a b Q) ∧ Touch (fun k => k = r) w w' ∧ (∀ k, v'.ownBlock = some k → w.heap.size ≤ k) := by
  have hlen := h.at_.len
  have hPl := List.length_pos_iff.2 hP
  obtain ⟨A, c, hv, hc1, hc2, hAn, hAs, hcell⟩ := h.at_.row.form
  obtain ⟨g, rfl⟩ : ∃ g, A = some ⟨g, 0, none⟩ := by
    cases A with
    | none => have := (hAn rfl).1; omega
    | some x => obtain ⟨g, e, _⟩ := hAs x rfl; exact ⟨g, by rw [e]⟩
  unfold maxLen at hc2
  have ks : w.cell? ⟨r, 1, none⟩ = some v := cell_of h.at_.head 1
  rw [hv] at ks
  have hones := h.at_.ones
  have hcellg : ∀ W, Below w.heap.size w W → ∀ j u, us[j]? = some u → W.cell? ⟨g, j, none⟩ = some u := fun W hW j u hu => by
    obtain ⟨g', e, k⟩ := hcell j u hu
    injection e with e
    injection e with e
    subst e
    exact (hW.cell (p := ⟨g, j, none⟩) (World.block_lt_of_cell? _ _ k)).trans k
  have HS1 : Hid (∀ W, Below w.heap.size w W → Src Tryz.prog 1 29 (.slice (some ⟨g, 0, none⟩) a c) a (us.take a) W) := Lib.hid (fun W hW => Src.ofSlice _ Tryz.underlying29 ⟨g, 0, none⟩ a c (us.take a) (by rw [List.length_take]; omega) (fun j u hu => by
    rw [List.getElem?_take] at hu
    split at hu
    · rw [add0]; exact hcellg W hW j u hu
    · cases hu) (fun u hu => hones u (List.mem_of_mem_take hu)))
  have HS2 : Hid (∀ W, Below w.heap.size w W → Src Tryz.prog 1 29 lv Q.length ql W) := Lib.hid (fun W hW => row_src (hQ.row.below hW) (fun u hu => by
    obtain ⟨q, _, h⟩ := hQ.at_ hu
    exact h.one))
  have HS3 : Hid (∀ W x k, Below w.heap.size w W → (us.drop b ≠ [] → x = ⟨g, b, none⟩) → Src Tryz.prog 1 29 (.slice (some x) (P.length - b) k) (P.length - b) (us.drop b) W) := Lib.hid (fun W x k hW hx => Src.ofSlice _ Tryz.underlying29 x (P.length - b) k (us.drop b) (by rw [List.length_drop]; omega) (fun j u hu => by
    obtain rfl := hx (fun e => by rw [e] at hu; simp at hu)
    rw [List.getElem?_drop] at hu
    have hadd : (⟨g, b, none⟩ : Addr).add j = ⟨g, b + j, none⟩ := by unfold Addr.add; split <;> simp_all
    rw [hadd]
    exact hcellg W hW _ u hu) (fun u hu => hones u (List.mem_of_mem_drop hu)))
  have HX : Hid (∀ x : Addr, c ≤ b → us.drop b ≠ [] → x = ⟨g, b, none⟩) := Lib.hid (fun x h1 h2 => absurd (List.drop_eq_nil_of_le (by omega)) h2)
  have HRC : Hid (∀ W, Below w.heap.size w W → W.cell? ⟨r, 1, none⟩ = some (.slice (some ⟨g, 0, none⟩) P.length c) ∧ W.frozen? ⟨r, 1, none⟩ = false) := Lib.hid (fun W hW => ⟨(hW.cell (p := ⟨r, 1, none⟩) (World.block_lt_of_cell? _ _ ks)).trans ks, free0 ((hW.block r (heap_lt h.at_.head)).trans h.at_.head) 1⟩)
  have hra : a ≤ P.length := by omega
  have HFIN : Hid (∀ W v', Below w.heap.size w W → RowIs W 1 v' (a + Q.length + (P.length - b)) (us.take a ++ ql ++ us.drop b) → (∀ k, v'.ownBlock = some k → w.heap.size ≤ k) → RSt (W.setCell ⟨r, 1, none⟩ v') r most v' (us.take a ++ ql ++ us.drop b) (swapP P a b Q) ∧ Touch (fun k => k = r) w (W.setCell ⟨r, 1, none⟩ v')) := Lib.hid (fun W v' hW hrow hown => by
    have hrs := heap_lt h.at_.head
    have hhead : W.heap[r]? = _ := (hW.block r hrs).trans h.at_.head
    have ht2 : Touch (fun k => k = r) W (W.setCell ⟨r, 1, none⟩ v') := Touch.setCell (S := fun k => k = r) (Touch.refl _ _) ⟨r, 1, none⟩ (fun _ => rfl) _
    have hvr : v'.ownBlock ≠ some r := fun e => by have := hown _ e; omega
    have hswl : (swapP P a b Q).length = a + Q.length + (P.length - b) := by
      unfold swapP
      rw [List.length_append, List.length_append, List.length_take, List.length_drop]
      omega
    have hsl : ∀ (i : Nat) (p : List Row), (swapP P a b Q)[i]? = some p → ∃ u, (us.take a ++ ql ++ us.drop b)[i]? = some u ∧ Sl w u p := fun i p hp => by
      unfold swapP at hp
      by_cases h1 : i < a
      · rw [List.append_assoc, List.getElem?_append_left (by rw [List.length_take]; omega), List.getElem?_take_of_lt h1] at hp
        obtain ⟨u, hu, h2⟩ := h.at_.each i p hp
        exact ⟨u, by rw [List.append_assoc, List.getElem?_append_left (by rw [List.length_take]; omega), List.getElem?_take_of_lt h1]; exact hu, h2⟩
      · by_cases h2 : i < a + Q.length
        · rw [List.getElem?_append_left (by rw [List.length_append, List.length_take]; omega), List.getElem?_append_right (by rw [List.length_take]; omega)] at hp
          rw [List.length_take, Nat.min_eq_left hra] at hp
          obtain ⟨u, hu, h3⟩ := hQ.each _ p hp
          refine ⟨u, ?_, h3⟩
          rw [List.getElem?_append_left (by rw [List.length_append, List.length_take, hQ.len]; omega), List.getElem?_append_right (by rw [List.length_take]; omega), List.length_take, hlen, Nat.min_eq_left hra]
          exact hu
        · rw [List.getElem?_append_right (by rw [List.length_append, List.length_take]; omega), List.length_append, List.length_take, Nat.min_eq_left hra, List.getElem?_drop] at hp
          obtain ⟨u, hu, h3⟩ := h.at_.each _ p hp
          refine ⟨u, ?_, h3⟩
          rw [List.getElem?_append_right (by rw [List.length_append, List.length_take, hQ.len]; omega), List.length_append, List.length_take, hlen, Nat.min_eq_left hra, hQ.len, List.getElem?_drop]
          exact hu
    have hblk : ∀ u ∈ us.take a ++ ql ++ us.drop b, ∀ k, blkOf u = some k → k ≠ r ∧ k < w.heap.size := fun u hu k hk => by
      have hus : u ∈ us → k ≠ r ∧ k < w.heap.size := fun h1 => ⟨(h.offs u h1 k hk).1, h.owns_lt k (.inr (.inr ⟨u, h1, hk⟩))⟩
      rcases List.mem_append.1 hu with hu | hu
      · rcases List.mem_append.1 hu with hu | hu
        · exact hus (List.mem_of_mem_take hu)
        · obtain ⟨q, _, h2⟩ := hQ.at_ hu
          exact ⟨fun e => hqo u hu (e ▸ hk), h2.blk k hk⟩
      · exact hus (List.mem_of_mem_drop hu)
    refine ⟨⟨⟨by simpa using set_at hhead 1 v', ?_, fun i p hp => ?_⟩, hvr, fun u hu k hk => ?_⟩, (Touch.of_below hW).trans ht2 (fun i _ e => e)⟩
    · rw [hswl]
      exact RowIs.touch hrow ht2 (fun k e e2 => hvr (e2 ▸ e))
    · obtain ⟨u, hu, h2⟩ := hsl i p hp
      exact ⟨u, hu, (h2.below hW).touch ht2 (fun k e => (hblk u (List.mem_of_getElem? hu) k e).1)⟩
    · obtain ⟨h1, h2⟩ := hblk u hu k hk
      exact ⟨h1, fun e => by have := hown _ e; omega⟩)
  have hlv : ∃ A2 c2, lv = .slice A2 Q.length c2 := by
    obtain ⟨A2, c2, e, _⟩ := RowIs.form hQ.row
    exact ⟨A2, c2, e⟩
  obtain ⟨A2, c2, rfl⟩ := hlv
  have haI : (a : Int) ≤ 256 := by omega
  have hbI : (b : Int) ≤ (P.length : Int) := by omega
  have hlI : (P.length : Int) ≤ 256 := by omega
  have hac : (a : Int) ≤ (c : Int) := by omega
  have hac2 : a ≤ c := by omega
  have hbc2 : b ≤ c := by omega
  obtain ⟨ks1, f1⟩ := HRC.out w (Below.refl _ _)
  have hdl : us.length = P.length := hlen
  obtain ⟨nP, hnP⟩ : ∃ nP, P.length = nP := ⟨_, rfl⟩
  have HNP := Lib.hid hnP
  have HDL := Lib.hid hdl
  rw [hnP] at ks1 hbI hlI HRC HS3 HFIN hl hb hPl hra hc1
  clear h hP hQ hones hcell hcellg hv hAn hAs ks hlen hqo hdl hnP
  go_enter Tryz.func55, Tryz.ntmps55
  go_wp2_with (at_builtin; refine wpList_append_row _ _ Tryz.underlying29 infoP rfl (by decide) (by decide) _ rfl _ _ 29 rfl 0 a [] (us.take a) _ _ rfl rfl (RowIs.nil _ _) (HS1.out _ (Below.refl _ _)) ?_ ?_)
  all_goals first | omega | skip
  intro v1 w1 hr1 hg1 hb1'
  have hbel1 : Below w.heap.size w w1 := push_below hg1 (fun k e => by cases e) (Nat.le_refl _)
  have hown1 : ∀ k, v1.ownBlock = some k → w.heap.size ≤ k := fun k e => by
    rcases hb1' with h | h
    · rw [h] at e; cases e
    · have : w.heap.size = k := Option.some.inj (h.symm.trans e); omega
  have HR1 := Lib.hid hr1
  have HB1 := Lib.hid (And.intro hbel1 hown1)
  obtain ⟨A1, c1, rfl, _⟩ := hr1.form
  clear hr1 hg1 hb1' hbel1 hown1 ks1 f1
  go_wp2_with (at_builtin; refine wpList_append_row _ _ Tryz.underlying29 infoP rfl (by decide) (by decide) _ rfl _ _ 29 rfl a Q.length (us.take a) ql _ _ rfl rfl HR1.out (HS2.out _ HB1.out.1) ?_ ?_)
  all_goals first | omega | skip
  intro v2 w2 hr2 hg2 hb2'
  have hbel2 : Below w.heap.size w w2 := HB1.out.1.trans (push_below hg2 HB1.out.2 HB1.out.1.size)
  have hown2 : ∀ k, v2.ownBlock = some k → w.heap.size ≤ k := fun k e => by
    rcases hb2' with h | h
    · exact HB1.out.2 k (h ▸ e)
    · have : w1.heap.size = k := Option.some.inj (h.symm.trans e); have := HB1.out.1.size; omega
  obtain ⟨l2, hl2⟩ : ∃ l2, us.take a ++ ql = l2 := ⟨_, rfl⟩
  obtain ⟨n2, hn2⟩ : ∃ n2, a + Q.length = n2 := ⟨_, rfl⟩
  rw [hl2, hn2] at hr2 HFIN
  have hn2I : n2 ≤ 258 := by omega
  have HR2 := Lib.hid hr2
  have HL2 := Lib.hid hl2
  have HB2 := Lib.hid (And.intro hbel2 hown2)
  obtain ⟨ks2, f2⟩ := HRC.out w2 hbel2
  obtain ⟨A3, c3, rfl, _⟩ := hr2.form
  clear hr2 hg2 hb2' hbel2 hown2 hl2 hn2
  rcases Nat.lt_or_ge b c with hbc | hbc
  all_goals go_wp2_with (at_builtin; refine wpList_append_row _ _ Tryz.underlying29 infoP rfl (by decide) (by decide) _ rfl _ _ 29 rfl n2 (nP - b) l2 (us.drop b) _ _ rfl rfl HR2.out (HS3.out _ _ _ HB2.out.1 (by first | exact fun _ => rfl | exact HX.out _ (by omega))) ?_ ?_)
  all_goals first | omega | skip
  all_goals (
    intro v3 w3 hr3 hg3 hb3'
    have hbel3 : Below w.heap.size w w3 := HB2.out.1.trans (push_below hg3 HB2.out.2 HB2.out.1.size)
    have hown3 : ∀ k, v3.ownBlock = some k → w.heap.size ≤ k := fun k e => by
      rcases hb3' with h | h
      · exact HB2.out.2 k (h ▸ e)
      · have : w2.heap.size = k := Option.some.inj (h.symm.trans e); have := HB2.out.1.size; omega
    obtain ⟨ks3, f3⟩ := HRC.out w3 hbel3
    have H := Lib.hid (HFIN.out w3 v3 hbel3 hr3 hown3)
    have HO3 := Lib.hid hown3
    obtain ⟨A4, c4, rfl, _⟩ := hr3.form
    clear hr3 hg3 hb3' hbel3 hown3
    go_wp2
    go_end0
    exact ⟨rfl, _, by rw [HL2.out]; exact H.out.1, H.out.2, HO3.out⟩)
end Go.Proofs.YtkkembbeejlomaaGreatDoor

namespace Go.Proofs.YtkkembbeejlomaaGreatDoor
open Go.RowKit Go.Shelf Go.Sort Go.Lib

/-- What a call leaves: other pages, in new blocks beside those that there were. -/
def RPost (w : World) (r : Nat) (most : Int) (v : Value) (us : List Value) (P : List (List Row)) (w' : World) : Prop := ∃ v' us', RSt w' r most v' us' P ∧ Touch (fun k => k = r) w w' ∧ ∀ k, ROwns r v' us' k → ROwns r v us k ∨ w.heap.size ≤ k
theorem RPost.refl {w w' : World} {r : Nat} {most : Int} {v : Value} {us : List Value} {P : List (List Row)} (h : RSt w r most v us P) (hb : Below w.heap.size w w') : RPost w r most v us P w' :=
  ⟨v, us, h.below hb, .of_below hb, fun _ h => .inl h⟩
theorem RPost.size {w w' : World} {r : Nat} {most : Int} {v : Value} {us : List Value} {P : List (List Row)} (h : RPost w r most v us P w') : w.heap.size ≤ w'.heap.size := by
  obtain ⟨_, _, _, h, _⟩ := h
  exact h.size
theorem pgIn_new {W : World} {b n : Nat} {ql : List Value} {Q : List (List Row)} (hb : W.heap[b]? = some (.cells ql.toArray 40 (0, 0))) (hl : ql.length = n) (hn : Q.length = n) (hn2 : n ≤ 2) (hE : ∀ (i : Nat) (q : List Row), Q[i]? = some q → ∃ u, ql[i]? = some u ∧ Sl W u q) : PgIn W (.slice (some ⟨b, 0, none⟩) n n) ql Q := by
  have hones : ∀ u ∈ ql, u.oneCell' = true := fun u hu => by
    obtain ⟨i, hi⟩ := List.getElem?_of_mem hu
    have hil := (List.getElem?_eq_some_iff.1 hi).1
    obtain ⟨u', h1, h2⟩ := hE i _ (List.getElem?_eq_getElem (by omega))
    rw [hi] at h1
    obtain rfl := Option.some.inj h1
    exact h2.one
  have hA : Area W 1 b 0 n ql := Area.block hb (by simp [hl]) (by unfold maxLen; omega) (by omega) (fun j u hj => by simpa using hj) hones
  subst hn
  exact ⟨hA.row (n := Q.length) (by omega) (Nat.le_refl _), hE⟩
theorem RSt.first {w w1 : World} {r b1 b2 : Nat} {most : Int} {v : Value} {us : List Value} {P : List (List Row)} {x : Row} (h : RSt w r most v us P) (hb : Below w.heap.size w w1) (h1 : w1.heap[b1]? = some (.cells #[strV x.k, .int .i64 x.n] 42 (0, 0))) (h2 : w1.heap[b2]? = some (.cells #[.slice (some ⟨b1, 0, none⟩) 1 1] 40 (0, 0))) (hb1 : w.heap.size ≤ b1) (hb2 : w.heap.size ≤ b2) (hne : b1 ≠ b2) :
    RPost w r most v us [[x]] (w1.setCell ⟨r, 1, none⟩ (.slice (some ⟨b2, 0, none⟩) 1 1)) := by
  have hsl := heap_lt h.at_.head
  have hh := (hb.block r hsl).trans h.at_.head
  have hT : Touch (fun k => k = r) w1 (w1.setCell ⟨r, 1, none⟩ (.slice (some ⟨b2, 0, none⟩) 1 1)) := Touch.setCell (S := fun k => k = r) (Touch.refl _ _) ⟨r, 1, none⟩ (fun _ => rfl) _
  have hS : Sl w1 (.slice (some ⟨b1, 0, none⟩) 1 1) [x] := .inr ⟨b1, 0, 1, rfl, heap_lt h1, Nat.le_refl _, by unfold maxLen; omega, fun j u hj => by
    rw [Nat.zero_add, cell_of h1 j]
    simpa [pgC, rowV] using hj⟩
  have hP := pgIn_new (Q := [[x]]) (ql := [.slice (some ⟨b1, 0, none⟩) 1 1]) (n := 1) h2 rfl rfl (by omega) (fun i q hq => by
    cases i with
    | zero =>
      obtain rfl := Option.some.inj hq
      exact ⟨_, rfl, hS⟩
    | succ i => simp at hq)
  refine ⟨_, [.slice (some ⟨b1, 0, none⟩) 1 1], ⟨⟨set_at hh 1 _, RowIs.touch hP.row hT (fun k e e2 => ?_), fun i p hp => ?_⟩, fun e => ?_, fun u hu k hk => ?_⟩, (Touch.of_below hb).trans hT (fun k _ e => e), fun k hk => ?_⟩
  · have e : b2 = k := Option.some.inj e
    omega
  · obtain ⟨u, hu, h3⟩ := hP.each i p hp
    obtain rfl := List.mem_singleton.1 (List.mem_of_getElem? hu)
    exact ⟨_, hu, h3.touch hT (fun k e => by have e : b1 = k := Option.some.inj e; show ¬ k = r; omega)⟩
  · have e : b2 = r := Option.some.inj e
    omega
  · obtain rfl := List.mem_singleton.1 hu
    have e : b1 = k := Option.some.inj hk
    exact ⟨by omega, fun e2 => by have e2 : b2 = k := Option.some.inj e2; omega⟩
  · rcases hk with rfl | hk | ⟨u, hu, hk⟩
    · exact .inl (.inl rfl)
    · have e : b2 = k := Option.some.inj hk
      right; omega
    · obtain rfl := List.mem_singleton.1 hu
      have e : b1 = k := Option.some.inj hk
      right; omega
theorem RowsIs.blk {w : World} {B : Nat} {v : Value} {p : List Row} (h : RowsIs w B v p) : ∀ k, blkOf v = some k → B ≤ k := by
  obtain ⟨A, c, rfl, _, _, _, h4, _⟩ := RowIs.form h.1
  intro k hk
  cases A with
  | none => cases hk
  | some a =>
    obtain ⟨g, rfl, e⟩ := h4 a rfl
    have e2 : g = k := Option.some.inj hk
    subst e2
    exact h.2 _ e
/-- with, behind more memory. -/
theorem with_post {w W : World} {r : Nat} {most : Int} {v lv : Value} {us ql : List Value} {P Q : List (List Row)} {a b : Nat} (h : RSt w r most v us P) (hW : Below w.heap.size w W) (hP : P ≠ []) (hl : P.length ≤ 256) (hab : a ≤ b) (hb1 : 1 ≤ b) (hb : b ≤ P.length) (hQ : PgIn W lv ql Q) (hQl : Q.length ≤ 2) (hqn : ∀ u ∈ ql, ∀ k, blkOf u = some k → w.heap.size ≤ k) :
    Calls Tryz.prog 55 #[.pointer (some ⟨r, 0, none⟩), .int .i64 (a : Int), .int .i64 (b : Int), lv] W fun e w' => e = .returned (.tuple #[]) ∧ RPost w r most v us (swapP P a b Q) w' := by
  have hrs := heap_lt h.at_.head
  refine (with_any (h.below hW) hP hl hab hb1 hb hQ hQl (fun u hu e => by have := hqn u hu _ e; omega)).mono ?_
  rintro e w' ⟨he, v', h1, h2, h3⟩
  refine ⟨he, v', _, h1, (Touch.of_below hW).trans h2 (fun i _ e => e), fun k hk => ?_⟩
  have := hW.size
  rcases hk with rfl | hk | ⟨u, hu, hk⟩
  · exact .inl (.inl rfl)
  · exact .inr (by have := h3 k hk; omega)
  · rcases List.mem_append.1 hu with hu | hu
    · rcases List.mem_append.1 hu with hu | hu
      · exact .inl (.inr (.inr ⟨u, List.mem_of_mem_take hu, hk⟩))
      · exact .inr (hqn u hu k hk)
    · exact .inl (.inr (.inr ⟨u, List.mem_of_mem_drop hu, hk⟩))
theorem RPost.trans {w w1 w2 : World} {r : Nat} {most : Int} {v v1 : Value} {us us1 : List Value} {P : List (List Row)} (ht : Touch (fun k => k = r) w w1) (ho : ∀ k, ROwns r v1 us1 k → ROwns r v us k ∨ w.heap.size ≤ k) (h : RPost w1 r most v1 us1 P w2) : RPost w r most v us P w2 := by
  obtain ⟨v2, us2, h1, h2, h3⟩ := h
  refine ⟨v2, us2, h1, ht.trans h2 (fun i _ e => e), fun k hk => ?_⟩
  have := ht.size
  rcases h3 k hk with h | h
  · exact ho k h
  · exact .inr (by omega)
theorem withS_len {p : List Row} (hp : Rise p) (hne : p ≠ []) (hl : p.length ≤ 64) {k : K} {n : Int} (hk : k.length ≤ 16) : (withS k n true p).length ≤ p.length + 1 := by
  rw [with_page hp hne hl hk]
  split
  · rw [List.length_set]; omega
  · unfold insAt
    rw [List.length_append, List.length_cons, List.length_take, List.length_drop]
    omega
set_option maxRecDepth 100000 in
set_option maxHeartbeats 8000000 in
theorem RPut_any {w : World} {r most : Nat} {v : Value} {us : List Value} {P : List (List Row)} (h : RSt w r most v us P) (hF : Fine most P) {k : K} (hkl : k.length ≤ maxLen) (n : Int) :
    Calls Tryz.prog 27 #[.pointer (some ⟨r, 0, none⟩), strV k, .int .i64 n] w fun e w' => e = .returned (.int .i64 (putP most P ⟨k, n⟩).2) ∧ RPost w r most v us (putP most P ⟨k, n⟩).1 w' := by
  unfold maxLen at hkl
  by_cases hk : 16 < k.length
  · have hkI : (16 : Int) < (k.length : Int) := by omega
    have HE : Hid (putP most P ⟨k, n⟩ = (P, 2)) := Lib.hid (by unfold putP; rw [if_pos hk])
    have H := Lib.hid h
    clear h hF
    unfold strV
    go_enter Tryz.func27, Tryz.ntmps27
    go_wp2_with fail
    go_ret
    exact ⟨by rw [HE.out]; rfl, by rw [HE.out]; exact RPost.refl H.out (Below.refl _ _)⟩
  · have hk16 : k.length ≤ 16 := by omega
    have hkI : ¬ (16 : Int) < (k.length : Int) := by omega
    have hlP := hF.len
    have htot := hF.total
    have hmost := hF.most
    have hones := h.at_.ones
    obtain ⟨A, c, hv, hc1, hc2, hAn, hAs, hcell⟩ := h.at_.row.form
    unfold maxLen at hc2
    have ks : w.cell? ⟨r, 1, none⟩ = some v := cell_of h.at_.head 1
    have ks0 : w.cell? ⟨r, 0, none⟩ = some (.int .i64 most) := cell_of h.at_.head 0
    rw [hv] at ks
    have HRO : Hid (∀ W, Below w.heap.size w W → Calls Tryz.prog 21 #[.pointer (some ⟨r, 0, none⟩)] W fun e w' => ∃ v', e = .returned v' ∧ RowsIs w' W.heap.size v' P.flatten ∧ Below W.heap.size W w') := Lib.hid (fun W hW => rrows_any (h.at_.below hW) (by omega) (by omega))
    have HRC : Hid (∀ W, Below w.heap.size w W → W.cell? ⟨r, 1, none⟩ = some (.slice A P.length c) ∧ W.cell? ⟨r, 0, none⟩ = some (.int .i64 most) ∧ W.frozen? ⟨r, 1, none⟩ = false) := Lib.hid (fun W hW => ⟨(hW.cell (p := ⟨r, 1, none⟩) (World.block_lt_of_cell? _ _ ks)).trans ks, (hW.cell (p := ⟨r, 0, none⟩) (World.block_lt_of_cell? _ _ ks0)).trans ks0, free0 ((hW.block r (heap_lt h.at_.head)).trans h.at_.head) 1⟩)
    have HGE : Hid (∀ W u, RowOf W u P.flatten → Calls Tryz.prog 29 #[u, strV k] W fun e w' => e = .returned (.tuple #[.int .i64 (getR P.flatten k).1, .bool (getR P.flatten k).2]) ∧ Below W.heap.size W w') := Lib.hid (fun W u hu => RGet_any hu (by omega) k)
    have H := Lib.hid h
    have HF := Lib.hid hF
    obtain ⟨F, hFl⟩ : ∃ F, P.flatten = F := ⟨_, rfl⟩
    obtain ⟨g, t, hgt⟩ : ∃ g t, getR F k = (g, t) := ⟨_, _, rfl⟩
    have hcase : (t = false ∧ 256 ≤ F.length) ∨ (t = false ∧ F.length < 256 ∧ P = []) ∨ (t = true ∧ P ≠ []) ∨ (t = false ∧ F.length < 256 ∧ P ≠ []) := by
      cases t with
      | true =>
        refine .inr (.inr (.inl ⟨rfl, fun e => ?_⟩))
        subst e
        rw [← hFl] at hgt
        cases hgt
      | false =>
        by_cases h1 : 256 ≤ F.length
        · exact .inl ⟨rfl, h1⟩
        · by_cases h2 : P = []
          · exact .inr (.inl ⟨rfl, by omega, h2⟩)
          · exact .inr (.inr (.inr ⟨rfl, by omega, h2⟩))
    rw [hFl] at HRO HGE htot
    rw [hgt] at HGE
    have HFL := Lib.hid hFl
    have HGT := Lib.hid hgt
    have HCELL := Lib.hid hcell
    have HG0 : Hid (P ≠ [] → ∃ g0, A = some ⟨g0, 0, none⟩) := Lib.hid (fun hP => by
      cases A with
      | none => exact absurd (List.length_eq_zero_iff.1 (hAn rfl).1) hP
      | some x => obtain ⟨g0, e, _⟩ := hAs x rfl; exact ⟨g0, by rw [e]⟩)
    have hFI : (F.length : Int) ≤ 256 := by omega
    have hPI : (P.length : Int) ≤ 256 := by omega
    clear h hF hcell hAn hAs hones ks ks0 hv hFl hgt
    unfold strV at HGE ⊢
    go_enter Tryz.func27, Tryz.ntmps27
    go_wp2_with fail
    refine (HRO.out _ (Below.refl _ _)).mono ?_
    rintro e w1 ⟨v1, rfl, hr1, hb1⟩
    have HB1 := Lib.hid hb1
    have HR1 := Lib.hid hr1
    obtain ⟨A1, c1, rfl, _⟩ := hr1.1.form
    clear hr1 hb1
    go_wp2_with fail
    refine (HGE.out _ _ HR1.out.1).mono ?_
    rintro e w2 ⟨rfl, hb2⟩
    have HB2 := Lib.hid (HB1.out.trans (hb2.mono HB1.out.size))
    clear hb2
    rcases hcase with ⟨rfl, hfull⟩ | ⟨rfl, hroom, hP⟩ | ⟨rfl, hP⟩ | ⟨rfl, hroom, hP⟩
    · have hfI : (256 : Int) ≤ (F.length : Int) := by omega
      go_wp2_with fail
      refine (HRO.out _ HB2.out).mono ?_
      rintro e w3 ⟨v3, rfl, hr3, hb3⟩
      have HB3 := Lib.hid (HB2.out.trans (hb3.mono HB2.out.size))
      obtain ⟨A3, c3, rfl, _⟩ := hr3.1.form
      clear hr3 hb3
      go_wp2_with fail
      go_ret
      have e := rput_not (n := n) HF.out hk16 (by rw [HFL.out, HGT.out]) (by rw [HFL.out]; exact hfull)
      exact ⟨by rw [e]; rfl, by rw [e]; exact RPost.refl H.out HB3.out⟩
    · have hPl : P.length = 0 := by rw [hP]; rfl
      rw [hPl] at HRC
      have hroomI : ¬ (256 : Int) ≤ (F.length : Int) := by omega
      go_wp2_with fail
      refine (HRO.out _ HB2.out).mono ?_
      rintro e w3 ⟨v3, rfl, hr3, hb3⟩
      have HB3 := Lib.hid (HB2.out.trans (hb3.mono HB2.out.size))
      obtain ⟨A3, c3, rfl, _⟩ := hr3.1.form
      clear hr3 hb3
      have hwb := HB3.out
      have hsl := heap_lt H.out.at_.head
      have hq1 := below_new (w := w3) (.cells #[.string ⟨k.toArray⟩, .int .i64 n] 42)
      have hq2 : Below w3.heap.size w3 ((w3.alloc (.cells #[.string ⟨k.toArray⟩, .int .i64 n] 42)).alloc (.cells #[.slice (some ⟨w3.heap.size, 0, none⟩) 1 1] 40)) := hq1.trans ((below_new _).mono (by rw [asz]; omega))
      obtain ⟨ks, ks0, fr⟩ := HRC.out _ HB3.out
      obtain ⟨kS, _, kF⟩ := HRC.out _ (HB3.out.trans (hq2.mono HB3.out.size))
      have HFIN := Lib.hid (H.out.first (x := ⟨k, n⟩) (b1 := w3.heap.size) (b2 := w3.heap.size + 1) (hwb.trans (hq2.mono hwb.size)) (((below_new _).block w3.heap.size (by rw [asz]; omega)).trans (alloc_at w3 _)) (by have := alloc_at (w3.alloc (.cells #[.string ⟨k.toArray⟩, .int .i64 n] 42)) (.cells #[.slice (some ⟨w3.heap.size, 0, none⟩) 1 1] 40); rw [asz] at this; exact this) hwb.size (by have := hwb.size; omega) (by omega))
      clear hwb hq1 hq2
      go_wp2
      go_ret
      have e : putP most P ⟨k, n⟩ = ([[⟨k, n⟩]], 0) := by rw [hP, putP_not hk16 rfl]; rfl
      rw [e]
      exact ⟨rfl, HFIN.out⟩
    all_goals obtain ⟨g0, rfl⟩ := HG0.out hP
    all_goals have HPG := Lib.hid (fun W (hW : Below w.heap.size w W) => rpage_any (H.out.at_.below hW) HF.out hP k)
    all_goals obtain ⟨p, hp⟩ : ∃ p, P[pageP P k]? = some p := ⟨_, List.getElem?_eq_getElem (page_lt (List.length_pos_iff.2 hP))⟩
    all_goals obtain ⟨hrise, hp1, hp64⟩ := HF.out.page hp
    all_goals obtain ⟨u, hu, hsl⟩ := H.out.at_.each _ _ hp
    all_goals obtain ⟨m, hm⟩ : ∃ m, pageP P k = m := ⟨_, rfl⟩
    all_goals obtain ⟨A6, c6, rfl, _⟩ := hsl.form
    all_goals have HWI := Lib.hid (fun W (hW : Below w.heap.size w W) => SWith_any (hsl.below hW) (by omega) k n true)
    all_goals have hml := page_lt (k := k) (List.length_pos_iff.2 hP)
    all_goals have HKM := Lib.hid (HCELL.out _ _ hu)
    all_goals rw [hm] at hml HPG HKM
    all_goals have HKC : Hid (∀ W, Below w.heap.size w W → W.cell? ⟨g0, m, none⟩ = some (.slice A6 p.length c6)) := Lib.hid (fun W hW => by
      obtain ⟨g', e, k1⟩ := HKM.out
      injection e with e
      injection e with e
      subst e
      exact (hW.cell (p := ⟨g0, m, none⟩) (World.block_lt_of_cell? _ _ k1)).trans k1)
    all_goals have hPl0 : ¬ (P.length : Int) = 0 := by omega
    all_goals have hmw : IntKind.i64.wrap ((m : Int) + 1) = ((m : Int) + 1) := IntWalk.i64_in _ (by omega)
    all_goals have hmI : (m : Int) < (P.length : Int) := by omega
    all_goals have hwl := withS_len (n := n) hrise (List.length_pos_iff.1 hp1) hp64 hk16
    all_goals have HEQ : Hid (putP most P ⟨k, n⟩ = _) := Lib.hid (rput_eq HF.out hk16 hP (by rw [HFL.out, HGT.out]; first | exact .inl rfl | exact .inr hroom) hp)
    all_goals obtain ⟨q, hq⟩ : ∃ q, withS k n true p = q := ⟨_, rfl⟩
    all_goals rw [hq] at HWI HEQ hwl
    all_goals rw [hm] at HEQ
    all_goals have hqI : (q.length : Int) ≤ 65 := by omega
    all_goals have HSW : Hid (∀ (W : World) (Q : List (List Row)) (lv : Value) (ql : List Value), Below w.heap.size w W → PgIn W lv ql Q → Q.length ≤ 2 → (∀ u ∈ ql, ∀ k, blkOf u = some k → w.heap.size ≤ k) → Calls Tryz.prog 55 #[.pointer (some ⟨r, 0, none⟩), .int .i64 (m : Int), .int .i64 (m + 1 : Int), lv] W fun e w' => e = .returned (.tuple #[]) ∧ RPost w r most v us (swapP P m (m + 1) Q) w') := Lib.hid (fun W Q lv ql hW hQ hl hn => with_post (a := m) (b := m + 1) H.out hW hP hlP (by omega) (by omega) (by omega) hQ hl hn)
    all_goals clear hu hsl hp hq hrise HKM
    · obtain ⟨ks, _, _⟩ := HRC.out _ HB2.out
      go_wp2_with fail
      refine (HPG.out _ HB2.out).mono ?_
      rintro e w4 ⟨rfl, hb4⟩
      have HB4 := Lib.hid (HB2.out.trans (hb4.mono HB2.out.size))
      obtain ⟨ks4, _, _⟩ := HRC.out _ HB4.out
      have kc := HKC.out _ HB4.out
      clear hb4
      go_wp2_with fail
      refine (HWI.out _ HB4.out).mono ?_
      rintro e w5 ⟨v5, rfl, hr5, hb5⟩
      have HB5 := Lib.hid (HB4.out.trans (hb5.mono HB4.out.size))
      have HR5 := Lib.hid hr5
      have HS4 := Lib.hid HB4.out.size
      obtain ⟨A5, c5, rfl, hc5, hc6, _⟩ := hr5.1.form
      unfold maxLen at hc6
      obtain ⟨_, ks5, _⟩ := HRC.out _ HB5.out
      clear hr5 hb5 ks4 kc
      by_cases hbig : most < q.length
      · have hbI : (most : Int) < (q.length : Int) := by omega
        obtain ⟨g5, hg5⟩ : ∃ g5, A5 = some ⟨g5, 0, none⟩ := by
          obtain ⟨_, _, e, _, _, h3, h4, _⟩ := RowIs.form HR5.out.1
          injection e with e
          subst e
          cases A5 with
          | none => have := (h3 rfl).1; omega
          | some a => obtain ⟨g, e, _⟩ := h4 a rfl; exact ⟨g, by rw [e]⟩
        subst hg5
        obtain ⟨hh, hhe⟩ : ∃ hh, q.length / 2 = hh := ⟨_, rfl⟩
        have hmI2 : (q.length : Int).tdiv 2 = (hh : Int) := by rw [Int.tdiv_eq_ediv_of_nonneg (by omega)]; omega
        have hhw : IntKind.i64.wrap (hh : Int) = (hh : Int) := IntWalk.i64_in _ (by omega)
        have hh0 : (0 : Int) ≤ (hh : Int) := by omega
        have hh1 : (hh : Int) ≤ (q.length : Int) := by omega
        have hh2 : (hh : Int) ≤ (c5 : Int) := by omega
        have hh3 : hh < c5 := by omega
        have hh4 : hh ≤ q.length := by omega
        have hqc : (q.length : Int) ≤ (c5 : Int) := by omega
        have hq1 : Below w5.heap.size w5 (w5.alloc (.cells #[.slice (some ⟨g5, 0, none⟩) hh c5, .slice (some ⟨g5, hh * 2, none⟩) (q.length - hh) (c5 - hh)] 40)).drew := below_drew (below_new _)
        have HPI := Lib.hid (pgIn_new (W := (w5.alloc (.cells #[.slice (some ⟨g5, 0, none⟩) hh c5, .slice (some ⟨g5, hh * 2, none⟩) (q.length - hh) (c5 - hh)] 40)).drew) (n := 2) (ql := [.slice (some ⟨g5, 0, none⟩) hh c5, .slice (some ⟨g5, hh * 2, none⟩) (q.length - hh) (c5 - hh)]) (Q := [q.take hh, q.drop hh]) (alloc_at w5 (.cells #[.slice (some ⟨g5, 0, none⟩) hh c5, .slice (some ⟨g5, hh * 2, none⟩) (q.length - hh) (c5 - hh)] 40)) rfl rfl (by omega) (fun i x hx => by
          have hne : q ≠ [] := fun e => by rw [e] at hbig; simp at hbig
          have hs := RowOf.sl HR5.out.1
          cases i with
          | zero =>
            obtain rfl := Option.some.inj hx
            have h1 := Sl.part hs hne (lo := 0) (hi := hh) (by omega) (by omega)
            simp only [Nat.zero_mul, Nat.add_zero, Nat.sub_zero, List.drop_zero] at h1
            exact ⟨_, rfl, h1.below hq1⟩
          | succ i =>
            cases i with
            | zero =>
              obtain rfl := Option.some.inj hx
              have h1 := Sl.part hs hne (lo := hh) (hi := q.length) (by omega) (by omega)
              rw [List.take_length, Nat.zero_add] at h1
              exact ⟨_, rfl, h1.below hq1⟩
            | succ i => simp at hx))
        have HBA := Lib.hid (HB5.out.trans (hq1.mono HB5.out.size))
        have HHE := Lib.hid hhe
        have HQN : Hid (∀ u ∈ [Value.slice (some ⟨g5, 0, none⟩) hh c5, .slice (some ⟨g5, hh * 2, none⟩) (q.length - hh) (c5 - hh)], ∀ k, blkOf u = some k → w.heap.size ≤ k) := Lib.hid (fun u hu k hk => by
          have h1 := HR5.out.blk g5 rfl
          have h2 := HS4.out
          have e : g5 = k := by
            rcases List.mem_cons.1 hu with rfl | hu
            · exact Option.some.inj hk
            · obtain rfl := List.mem_singleton.1 hu
              exact Option.some.inj hk
          omega)
        clear hq1 hhe
        go_wp2_with fail
        refine wp_only ?_
        refine wp_region_held_drew (S := fun W => True) (by kernel_rfl) trivial (fun hHeld => ?_)
        refine wpAnyH_take (i := 0) (oi := { dst := some 64, op := Op.move (Operand.tmp 0), type := 28, pos := "ref.go:58", after := #[], guard := none }) (v := ?vv1) rfl (by kernel_rfl) (by kernel_rfl) (by kernel_rfl) (fun _ _ _ h => h) ?hy1 (by assumption) ?rest1
        case hy1 => (refine Or.inl ⟨by rfl, ?_⟩; intro W hSw; (try dsimp only at hSw); go_simp; (try with_reducible rfl))
        try simp only [Act.put, List.setIfInBounds_toArray, List.set_cons_zero, List.set_cons_succ]
        refine wpAnyH_take (i := 1) (oi := { dst := some 65, op := Op.move (Operand.tmp 9), type := 3, pos := "ref.go:58", after := #[], guard := none }) (v := ?vv2) rfl (by kernel_rfl) (by kernel_rfl) (by kernel_rfl) (fun _ _ _ h => h) ?hy2 (by assumption) ?rest2
        case hy2 => (refine Or.inl ⟨by rfl, ?_⟩; intro W hSw; (try dsimp only at hSw); go_simp; (try with_reducible rfl))
        try simp only [Act.put, List.setIfInBounds_toArray, List.set_cons_zero, List.set_cons_succ]
        refine wpAnyH_take (i := 2) (oi := { dst := some 66, op := Op.move (Operand.tmp 9), type := 3, pos := "ref.go:58", after := #[], guard := none }) (v := ?vv3) rfl (by kernel_rfl) (by kernel_rfl) (by kernel_rfl) (fun _ _ _ h => h) ?hy3 (by assumption) ?rest3
        case hy3 => (refine Or.inl ⟨by rfl, ?_⟩; intro W hSw; (try dsimp only at hSw); go_simp; (try with_reducible rfl))
        try simp only [Act.put, List.setIfInBounds_toArray, List.set_cons_zero, List.set_cons_succ]
        refine wpAnyH_take (i := 3) (oi := { dst := some 67, op := Op.binOp BinOp.add 3 (Operand.tmp 66) (Operand.const (Value.int IntKind.i64 1)) 3, type := 3, pos := "ref.go:58", after := #[{ on := 2, ground := Ground.data }], guard := none }) (v := ?vv4) rfl (by kernel_rfl) (by kernel_rfl) (by kernel_rfl) (fun _ _ _ h => h) ?hy4 (by assumption) ?rest4
        case hy4 => (refine Or.inl ⟨by rfl, ?_⟩; intro W hSw; (try dsimp only at hSw); go_simp; (try with_reducible rfl))
        try simp only [Act.put, List.setIfInBounds_toArray, List.set_cons_zero, List.set_cons_succ]
        refine wpAnyH_take (i := 4) (oi := { dst := some 68, op := Op.move (Operand.tmp 10), type := 40, pos := "ref.go:58", after := #[], guard := none }) (v := ?vv5) rfl (by kernel_rfl) (by kernel_rfl) (by kernel_rfl) (fun _ _ _ h => h) ?hy5 (by assumption) ?rest5
        case hy5 => (refine Or.inl ⟨by rfl, ?_⟩; intro W hSw; (try dsimp only at hSw); go_simp; (try with_reducible rfl))
        try simp only [Act.put, List.setIfInBounds_toArray, List.set_cons_zero, List.set_cons_succ]
        refine wpAnyH_take (i := 5) (oi := { dst := some 69, op := Op.move (Operand.tmp 10), type := 40, pos := "ref.go:58", after := #[], guard := none }) (v := ?vv6) rfl (by kernel_rfl) (by kernel_rfl) (by kernel_rfl) (fun _ _ _ h => h) ?hy6 (by assumption) ?rest6
        case hy6 => (refine Or.inl ⟨by rfl, ?_⟩; intro W hSw; (try dsimp only at hSw); go_simp; (try with_reducible rfl))
        try simp only [Act.put, List.setIfInBounds_toArray, List.set_cons_zero, List.set_cons_succ]
        refine wpAnyH_take (i := 6) (oi := { dst := some 70, op := Op.call { callee := Callee.builtin Builtin.len, args := #[Operand.tmp 69], argTypes := #[40] }, type := 3, pos := "ref.go:58", after := #[{ on := 5, ground := Ground.data }], guard := none }) (v := ?vv7) rfl (by kernel_rfl) (by kernel_rfl) (by kernel_rfl) (fun _ _ _ h => h) ?hy7 (by assumption) ?rest7
        case hy7 => (refine Or.inl ⟨by rfl, ?_⟩; intro W hSw; (try dsimp only at hSw); go_simp; (try with_reducible rfl))
        try simp only [Act.put, List.setIfInBounds_toArray, List.set_cons_zero, List.set_cons_succ]
        refine wpAnyH_take (i := 7) (oi := { dst := some 71, op := Op.binOp BinOp.quo 3 (Operand.tmp 70) (Operand.const (Value.int IntKind.i64 2)) 3, type := 3, pos := "ref.go:58", after := #[{ on := 6, ground := Ground.data }], guard := none }) (v := (.int .i64 (hh : Int))) rfl (by kernel_rfl) (by kernel_rfl) (by kernel_rfl) (fun _ _ _ h => h) ?hy8 (by assumption) ?rest8
        case hy8 => ((refine Or.inl ⟨by rfl, ?_⟩; intro W hSw; (try dsimp only at hSw); go_simp; (try with_reducible rfl)))
        try simp only [Act.put, List.setIfInBounds_toArray, List.set_cons_zero, List.set_cons_succ]
        refine wpAnyH_take (i := 8) (oi := { dst := some 72, op := Op.slice 40 (Operand.tmp 68) none (some (Operand.tmp 71)) none, type := 40, pos := "ref.go:58", after := #[{ on := 4, ground := Ground.data }, { on := 7, ground := Ground.data }], guard := none }) (v := (.slice (some ⟨g5, 0, none⟩) hh c5)) rfl (by kernel_rfl) (by kernel_rfl) (by kernel_rfl) (fun _ _ _ h => h) ?hy9 (by assumption) ?rest9
        case hy9 => ((refine Or.inl ⟨by rfl, ?_⟩; intro W hSw; (try dsimp only at hSw); go_simp; (try with_reducible rfl)))
        try simp only [Act.put, List.setIfInBounds_toArray, List.set_cons_zero, List.set_cons_succ]
        refine wpAnyH_take (i := 9) (oi := { dst := some 73, op := Op.move (Operand.tmp 10), type := 40, pos := "ref.go:58", after := #[], guard := none }) (v := ?vv10) rfl (by kernel_rfl) (by kernel_rfl) (by kernel_rfl) (fun _ _ _ h => h) ?hy10 (by assumption) ?rest10
        case hy10 => (refine Or.inl ⟨by rfl, ?_⟩; intro W hSw; (try dsimp only at hSw); go_simp; (try with_reducible rfl))
        try simp only [Act.put, List.setIfInBounds_toArray, List.set_cons_zero, List.set_cons_succ]
        refine wpAnyH_take (i := 10) (oi := { dst := some 74, op := Op.move (Operand.tmp 10), type := 40, pos := "ref.go:58", after := #[], guard := none }) (v := ?vv11) rfl (by kernel_rfl) (by kernel_rfl) (by kernel_rfl) (fun _ _ _ h => h) ?hy11 (by assumption) ?rest11
        case hy11 => (refine Or.inl ⟨by rfl, ?_⟩; intro W hSw; (try dsimp only at hSw); go_simp; (try with_reducible rfl))
        try simp only [Act.put, List.setIfInBounds_toArray, List.set_cons_zero, List.set_cons_succ]
        refine wpAnyH_take (i := 11) (oi := { dst := some 75, op := Op.call { callee := Callee.builtin Builtin.len, args := #[Operand.tmp 74], argTypes := #[40] }, type := 3, pos := "ref.go:58", after := #[{ on := 10, ground := Ground.data }], guard := none }) (v := ?vv12) rfl (by kernel_rfl) (by kernel_rfl) (by kernel_rfl) (fun _ _ _ h => h) ?hy12 (by assumption) ?rest12
        case hy12 => (refine Or.inl ⟨by rfl, ?_⟩; intro W hSw; (try dsimp only at hSw); go_simp; (try with_reducible rfl))
        try simp only [Act.put, List.setIfInBounds_toArray, List.set_cons_zero, List.set_cons_succ]
        refine wpAnyH_take (i := 12) (oi := { dst := some 76, op := Op.binOp BinOp.quo 3 (Operand.tmp 75) (Operand.const (Value.int IntKind.i64 2)) 3, type := 3, pos := "ref.go:58", after := #[{ on := 11, ground := Ground.data }], guard := none }) (v := (.int .i64 (hh : Int))) rfl (by kernel_rfl) (by kernel_rfl) (by kernel_rfl) (fun _ _ _ h => h) ?hy13 (by assumption) ?rest13
        case hy13 => ((refine Or.inl ⟨by rfl, ?_⟩; intro W hSw; (try dsimp only at hSw); go_simp; (try with_reducible rfl)))
        try simp only [Act.put, List.setIfInBounds_toArray, List.set_cons_zero, List.set_cons_succ]
        refine wpAnyH_take (i := 13) (oi := { dst := some 77, op := Op.slice 40 (Operand.tmp 73) (some (Operand.tmp 76)) none none, type := 40, pos := "ref.go:58", after := #[{ on := 9, ground := Ground.data }, { on := 12, ground := Ground.data }], guard := none }) (v := (.slice (some ⟨g5, hh * 2, none⟩) (q.length - hh) (c5 - hh))) rfl (by kernel_rfl) (by kernel_rfl) (by kernel_rfl) (fun _ _ _ h => h) ?hy14 (by assumption) ?rest14
        case hy14 => ((refine Or.inl ⟨by rfl, ?_⟩; intro W hSw; (try dsimp only at hSw); go_simp; (try with_reducible rfl); (try omega)))
        try simp only [Act.put, List.setIfInBounds_toArray, List.set_cons_zero, List.set_cons_succ]
        refine wpAnyH_ready (rs := [14]) (by kernel_rfl) (by simp) ?_
        refine AllReadyH.cons (o := { dst := some 78, op := Op.buildSlice 29 2 #[(0, Operand.tmp 72), (1, Operand.tmp 77)], type := 29, pos := "ref.go:58", after := #[{ on := 8, ground := Ground.data }, { on := 13, ground := Ground.data }], guard := none }) rfl (fun K hK => ?step15) ?more15
        case more15 => exact AllReadyH.nil
        ((go_simp))
        refine hK.out _ _ ?hS15 (fun hHeld => ?rr15)
        case hS15 => (trivial)
        clear hK K
        try simp only [Act.put, List.setIfInBounds_toArray, List.set_cons_zero, List.set_cons_succ]
        refine wpAnyH_ready (rs := [15]) (by kernel_rfl) (by simp) ?_
        refine AllReadyH.cons (o := { dst := some 79, op := Op.call { callee := Callee.value (Operand.func 55), args := #[Operand.tmp 64, Operand.tmp 65, Operand.tmp 67, Operand.tmp 78], argTypes := #[28, 3, 3, 29] }, type := 0, pos := "ref.go:58", after := #[{ on := 0, ground := Ground.data }, { on := 1, ground := Ground.data }, { on := 3, ground := Ground.data }, { on := 14, ground := Ground.data }], guard := none }) rfl (fun K hK => ?step16) ?more16
        case more16 => exact AllReadyH.nil
        ((go_simp; go_at_call 55; refine (HSW.out _ _ _ _ HBA.out HPI.out (by simp) HQN.out).mono ?_; rintro e w6 ⟨rfl, hpost⟩; have HPO := Lib.hid hpost; clear hpost; go_wp2_with fail))
        refine hK.out _ _ ?hS16 (fun hHeld => ?rr16)
        case hS16 => (trivial)
        clear hK K
        try simp only [Act.put, List.setIfInBounds_toArray, List.set_cons_zero, List.set_cons_succ]
        refine wpAnyH_done (by kernel_rfl) ?_ _
        dsimp only [onlyN]
        clear hHeld
        go_wp2_with fail
        go_ret
        rw [HEQ.out, if_pos hbig]
        exact ⟨rfl, by rw [HHE.out]; exact HPO.out⟩
      · have hbI : ¬ (most : Int) < (q.length : Int) := by omega
        have hq1 := below_new (w := w5) (.cells #[.slice A5 q.length c5] 40)
        have HPI := Lib.hid (pgIn_new (n := 1) (ql := [.slice A5 q.length c5]) (Q := [q]) (alloc_at w5 (.cells #[.slice A5 q.length c5] 40)) rfl rfl (by omega) (fun i x hx => by
          cases i with
          | zero =>
            obtain rfl := Option.some.inj hx
            exact ⟨_, rfl, (RowOf.sl HR5.out.1).below hq1⟩
          | succ i => simp at hx))
        have HBA := Lib.hid (HB5.out.trans (hq1.mono HB5.out.size))
        clear hq1
        go_wp2_with fail
        refine (HSW.out _ _ _ _ HBA.out HPI.out (by simp) (fun u hu k hk => by
          obtain rfl := List.mem_singleton.1 hu
          exact Nat.le_trans HS4.out (HR5.out.blk k hk))).mono ?_
        rintro e w6 ⟨rfl, hpost⟩
        have HPO := Lib.hid hpost
        clear hpost
        go_wp2_with fail
        go_ret
        rw [HEQ.out, if_neg hbig]
        exact ⟨rfl, HPO.out⟩
    · have hroomI : ¬ (256 : Int) ≤ (F.length : Int) := by omega
      go_wp2_with fail
      refine (HRO.out _ HB2.out).mono ?_
      rintro e w3 ⟨v3, rfl, hr3, hb3⟩
      have HB3 := Lib.hid (HB2.out.trans (hb3.mono HB2.out.size))
      obtain ⟨A3, c3, rfl, _⟩ := hr3.1.form
      clear hr3 hb3
      obtain ⟨ks, _, _⟩ := HRC.out _ HB3.out
      go_wp2_with fail
      refine (HPG.out _ HB3.out).mono ?_
      rintro e w4 ⟨rfl, hb4⟩
      have HB4 := Lib.hid (HB3.out.trans (hb4.mono HB3.out.size))
      obtain ⟨ks4, _, _⟩ := HRC.out _ HB4.out
      have kc := HKC.out _ HB4.out
      clear hb4
      go_wp2_with fail
      refine (HWI.out _ HB4.out).mono ?_
      rintro e w5 ⟨v5, rfl, hr5, hb5⟩
      have HB5 := Lib.hid (HB4.out.trans (hb5.mono HB4.out.size))
      have HR5 := Lib.hid hr5
      have HS4 := Lib.hid HB4.out.size
      obtain ⟨A5, c5, rfl, hc5, hc6, _⟩ := hr5.1.form
      unfold maxLen at hc6
      obtain ⟨_, ks5, _⟩ := HRC.out _ HB5.out
      clear hr5 hb5 ks4 kc
      by_cases hbig : most < q.length
      · have hbI : (most : Int) < (q.length : Int) := by omega
        obtain ⟨g5, hg5⟩ : ∃ g5, A5 = some ⟨g5, 0, none⟩ := by
          obtain ⟨_, _, e, _, _, h3, h4, _⟩ := RowIs.form HR5.out.1
          injection e with e
          subst e
          cases A5 with
          | none => have := (h3 rfl).1; omega
          | some a => obtain ⟨g, e, _⟩ := h4 a rfl; exact ⟨g, by rw [e]⟩
        subst hg5
        obtain ⟨hh, hhe⟩ : ∃ hh, q.length / 2 = hh := ⟨_, rfl⟩
        have hmI2 : (q.length : Int).tdiv 2 = (hh : Int) := by rw [Int.tdiv_eq_ediv_of_nonneg (by omega)]; omega
        have hhw : IntKind.i64.wrap (hh : Int) = (hh : Int) := IntWalk.i64_in _ (by omega)
        have hh0 : (0 : Int) ≤ (hh : Int) := by omega
        have hh1 : (hh : Int) ≤ (q.length : Int) := by omega
        have hh2 : (hh : Int) ≤ (c5 : Int) := by omega
        have hh3 : hh < c5 := by omega
        have hh4 : hh ≤ q.length := by omega
        have hqc : (q.length : Int) ≤ (c5 : Int) := by omega
        have hq1 : Below w5.heap.size w5 (w5.alloc (.cells #[.slice (some ⟨g5, 0, none⟩) hh c5, .slice (some ⟨g5, hh * 2, none⟩) (q.length - hh) (c5 - hh)] 40)).drew := below_drew (below_new _)
        have HPI := Lib.hid (pgIn_new (W := (w5.alloc (.cells #[.slice (some ⟨g5, 0, none⟩) hh c5, .slice (some ⟨g5, hh * 2, none⟩) (q.length - hh) (c5 - hh)] 40)).drew) (n := 2) (ql := [.slice (some ⟨g5, 0, none⟩) hh c5, .slice (some ⟨g5, hh * 2, none⟩) (q.length - hh) (c5 - hh)]) (Q := [q.take hh, q.drop hh]) (alloc_at w5 (.cells #[.slice (some ⟨g5, 0, none⟩) hh c5, .slice (some ⟨g5, hh * 2, none⟩) (q.length - hh) (c5 - hh)] 40)) rfl rfl (by omega) (fun i x hx => by
          have hne : q ≠ [] := fun e => by rw [e] at hbig; simp at hbig
          have hs := RowOf.sl HR5.out.1
          cases i with
          | zero =>
            obtain rfl := Option.some.inj hx
            have h1 := Sl.part hs hne (lo := 0) (hi := hh) (by omega) (by omega)
            simp only [Nat.zero_mul, Nat.add_zero, Nat.sub_zero, List.drop_zero] at h1
            exact ⟨_, rfl, h1.below hq1⟩
          | succ i =>
            cases i with
            | zero =>
              obtain rfl := Option.some.inj hx
              have h1 := Sl.part hs hne (lo := hh) (hi := q.length) (by omega) (by omega)
              rw [List.take_length, Nat.zero_add] at h1
              exact ⟨_, rfl, h1.below hq1⟩
            | succ i => simp at hx))
        have HBA := Lib.hid (HB5.out.trans (hq1.mono HB5.out.size))
        have HHE := Lib.hid hhe
        have HQN : Hid (∀ u ∈ [Value.slice (some ⟨g5, 0, none⟩) hh c5, .slice (some ⟨g5, hh * 2, none⟩) (q.length - hh) (c5 - hh)], ∀ k, blkOf u = some k → w.heap.size ≤ k) := Lib.hid (fun u hu k hk => by
          have h1 := HR5.out.blk g5 rfl
          have h2 := HS4.out
          have e : g5 = k := by
            rcases List.mem_cons.1 hu with rfl | hu
            · exact Option.some.inj hk
            · obtain rfl := List.mem_singleton.1 hu
              exact Option.some.inj hk
          omega)
        clear hq1 hhe
        go_wp2_with fail
        refine wp_only ?_
        refine wp_region_held_drew (S := fun W => True) (by kernel_rfl) trivial (fun hHeld => ?_)
        refine wpAnyH_take (i := 0) (oi := { dst := some 64, op := Op.move (Operand.tmp 0), type := 28, pos := "ref.go:58", after := #[], guard := none }) (v := ?vv17) rfl (by kernel_rfl) (by kernel_rfl) (by kernel_rfl) (fun _ _ _ h => h) ?hy17 (by assumption) ?rest17
        case hy17 => (refine Or.inl ⟨by rfl, ?_⟩; intro W hSw; (try dsimp only at hSw); go_simp; (try with_reducible rfl))
        try simp only [Act.put, List.setIfInBounds_toArray, List.set_cons_zero, List.set_cons_succ]
        refine wpAnyH_take (i := 1) (oi := { dst := some 65, op := Op.move (Operand.tmp 9), type := 3, pos := "ref.go:58", after := #[], guard := none }) (v := ?vv18) rfl (by kernel_rfl) (by kernel_rfl) (by kernel_rfl) (fun _ _ _ h => h) ?hy18 (by assumption) ?rest18
        case hy18 => (refine Or.inl ⟨by rfl, ?_⟩; intro W hSw; (try dsimp only at hSw); go_simp; (try with_reducible rfl))
        try simp only [Act.put, List.setIfInBounds_toArray, List.set_cons_zero, List.set_cons_succ]
        refine wpAnyH_take (i := 2) (oi := { dst := some 66, op := Op.move (Operand.tmp 9), type := 3, pos := "ref.go:58", after := #[], guard := none }) (v := ?vv19) rfl (by kernel_rfl) (by kernel_rfl) (by kernel_rfl) (fun _ _ _ h => h) ?hy19 (by assumption) ?rest19
        case hy19 => (refine Or.inl ⟨by rfl, ?_⟩; intro W hSw; (try dsimp only at hSw); go_simp; (try with_reducible rfl))
        try simp only [Act.put, List.setIfInBounds_toArray, List.set_cons_zero, List.set_cons_succ]
        refine wpAnyH_take (i := 3) (oi := { dst := some 67, op := Op.binOp BinOp.add 3 (Operand.tmp 66) (Operand.const (Value.int IntKind.i64 1)) 3, type := 3, pos := "ref.go:58", after := #[{ on := 2, ground := Ground.data }], guard := none }) (v := ?vv20) rfl (by kernel_rfl) (by kernel_rfl) (by kernel_rfl) (fun _ _ _ h => h) ?hy20 (by assumption) ?rest20
        case hy20 => (refine Or.inl ⟨by rfl, ?_⟩; intro W hSw; (try dsimp only at hSw); go_simp; (try with_reducible rfl))
        try simp only [Act.put, List.setIfInBounds_toArray, List.set_cons_zero, List.set_cons_succ]
        refine wpAnyH_take (i := 4) (oi := { dst := some 68, op := Op.move (Operand.tmp 10), type := 40, pos := "ref.go:58", after := #[], guard := none }) (v := ?vv21) rfl (by kernel_rfl) (by kernel_rfl) (by kernel_rfl) (fun _ _ _ h => h) ?hy21 (by assumption) ?rest21
        case hy21 => (refine Or.inl ⟨by rfl, ?_⟩; intro W hSw; (try dsimp only at hSw); go_simp; (try with_reducible rfl))
        try simp only [Act.put, List.setIfInBounds_toArray, List.set_cons_zero, List.set_cons_succ]
        refine wpAnyH_take (i := 5) (oi := { dst := some 69, op := Op.move (Operand.tmp 10), type := 40, pos := "ref.go:58", after := #[], guard := none }) (v := ?vv22) rfl (by kernel_rfl) (by kernel_rfl) (by kernel_rfl) (fun _ _ _ h => h) ?hy22 (by assumption) ?rest22
        case hy22 => (refine Or.inl ⟨by rfl, ?_⟩; intro W hSw; (try dsimp only at hSw); go_simp; (try with_reducible rfl))
        try simp only [Act.put, List.setIfInBounds_toArray, List.set_cons_zero, List.set_cons_succ]
        refine wpAnyH_take (i := 6) (oi := { dst := some 70, op := Op.call { callee := Callee.builtin Builtin.len, args := #[Operand.tmp 69], argTypes := #[40] }, type := 3, pos := "ref.go:58", after := #[{ on := 5, ground := Ground.data }], guard := none }) (v := ?vv23) rfl (by kernel_rfl) (by kernel_rfl) (by kernel_rfl) (fun _ _ _ h => h) ?hy23 (by assumption) ?rest23
        case hy23 => (refine Or.inl ⟨by rfl, ?_⟩; intro W hSw; (try dsimp only at hSw); go_simp; (try with_reducible rfl))
        try simp only [Act.put, List.setIfInBounds_toArray, List.set_cons_zero, List.set_cons_succ]
        refine wpAnyH_take (i := 7) (oi := { dst := some 71, op := Op.binOp BinOp.quo 3 (Operand.tmp 70) (Operand.const (Value.int IntKind.i64 2)) 3, type := 3, pos := "ref.go:58", after := #[{ on := 6, ground := Ground.data }], guard := none }) (v := (.int .i64 (hh : Int))) rfl (by kernel_rfl) (by kernel_rfl) (by kernel_rfl) (fun _ _ _ h => h) ?hy24 (by assumption) ?rest24
        case hy24 => ((refine Or.inl ⟨by rfl, ?_⟩; intro W hSw; (try dsimp only at hSw); go_simp; (try with_reducible rfl)))
        try simp only [Act.put, List.setIfInBounds_toArray, List.set_cons_zero, List.set_cons_succ]
        refine wpAnyH_take (i := 8) (oi := { dst := some 72, op := Op.slice 40 (Operand.tmp 68) none (some (Operand.tmp 71)) none, type := 40, pos := "ref.go:58", after := #[{ on := 4, ground := Ground.data }, { on := 7, ground := Ground.data }], guard := none }) (v := (.slice (some ⟨g5, 0, none⟩) hh c5)) rfl (by kernel_rfl) (by kernel_rfl) (by kernel_rfl) (fun _ _ _ h => h) ?hy25 (by assumption) ?rest25
        case hy25 => ((refine Or.inl ⟨by rfl, ?_⟩; intro W hSw; (try dsimp only at hSw); go_simp; (try with_reducible rfl)))
        try simp only [Act.put, List.setIfInBounds_toArray, List.set_cons_zero, List.set_cons_succ]
        refine wpAnyH_take (i := 9) (oi := { dst := some 73, op := Op.move (Operand.tmp 10), type := 40, pos := "ref.go:58", after := #[], guard := none }) (v := ?vv26) rfl (by kernel_rfl) (by kernel_rfl) (by kernel_rfl) (fun _ _ _ h => h) ?hy26 (by assumption) ?rest26
        case hy26 => (refine Or.inl ⟨by rfl, ?_⟩; intro W hSw; (try dsimp only at hSw); go_simp; (try with_reducible rfl))
        try simp only [Act.put, List.setIfInBounds_toArray, List.set_cons_zero, List.set_cons_succ]
        refine wpAnyH_take (i := 10) (oi := { dst := some 74, op := Op.move (Operand.tmp 10), type := 40, pos := "ref.go:58", after := #[], guard := none }) (v := ?vv27) rfl (by kernel_rfl) (by kernel_rfl) (by kernel_rfl) (fun _ _ _ h => h) ?hy27 (by assumption) ?rest27
        case hy27 => (refine Or.inl ⟨by rfl, ?_⟩; intro W hSw; (try dsimp only at hSw); go_simp; (try with_reducible rfl))
        try simp only [Act.put, List.setIfInBounds_toArray, List.set_cons_zero, List.set_cons_succ]
        refine wpAnyH_take (i := 11) (oi := { dst := some 75, op := Op.call { callee := Callee.builtin Builtin.len, args := #[Operand.tmp 74], argTypes := #[40] }, type := 3, pos := "ref.go:58", after := #[{ on := 10, ground := Ground.data }], guard := none }) (v := ?vv28) rfl (by kernel_rfl) (by kernel_rfl) (by kernel_rfl) (fun _ _ _ h => h) ?hy28 (by assumption) ?rest28
        case hy28 => (refine Or.inl ⟨by rfl, ?_⟩; intro W hSw; (try dsimp only at hSw); go_simp; (try with_reducible rfl))
        try simp only [Act.put, List.setIfInBounds_toArray, List.set_cons_zero, List.set_cons_succ]
        refine wpAnyH_take (i := 12) (oi := { dst := some 76, op := Op.binOp BinOp.quo 3 (Operand.tmp 75) (Operand.const (Value.int IntKind.i64 2)) 3, type := 3, pos := "ref.go:58", after := #[{ on := 11, ground := Ground.data }], guard := none }) (v := (.int .i64 (hh : Int))) rfl (by kernel_rfl) (by kernel_rfl) (by kernel_rfl) (fun _ _ _ h => h) ?hy29 (by assumption) ?rest29
        case hy29 => ((refine Or.inl ⟨by rfl, ?_⟩; intro W hSw; (try dsimp only at hSw); go_simp; (try with_reducible rfl)))
        try simp only [Act.put, List.setIfInBounds_toArray, List.set_cons_zero, List.set_cons_succ]
        refine wpAnyH_take (i := 13) (oi := { dst := some 77, op := Op.slice 40 (Operand.tmp 73) (some (Operand.tmp 76)) none none, type := 40, pos := "ref.go:58", after := #[{ on := 9, ground := Ground.data }, { on := 12, ground := Ground.data }], guard := none }) (v := (.slice (some ⟨g5, hh * 2, none⟩) (q.length - hh) (c5 - hh))) rfl (by kernel_rfl) (by kernel_rfl) (by kernel_rfl) (fun _ _ _ h => h) ?hy30 (by assumption) ?rest30
        case hy30 => ((refine Or.inl ⟨by rfl, ?_⟩; intro W hSw; (try dsimp only at hSw); go_simp; (try with_reducible rfl); (try omega)))
        try simp only [Act.put, List.setIfInBounds_toArray, List.set_cons_zero, List.set_cons_succ]
        refine wpAnyH_ready (rs := [14]) (by kernel_rfl) (by simp) ?_
        refine AllReadyH.cons (o := { dst := some 78, op := Op.buildSlice 29 2 #[(0, Operand.tmp 72), (1, Operand.tmp 77)], type := 29, pos := "ref.go:58", after := #[{ on := 8, ground := Ground.data }, { on := 13, ground := Ground.data }], guard := none }) rfl (fun K hK => ?step31) ?more31
        case more31 => exact AllReadyH.nil
        ((go_simp))
        refine hK.out _ _ ?hS31 (fun hHeld => ?rr31)
        case hS31 => (trivial)
        clear hK K
        try simp only [Act.put, List.setIfInBounds_toArray, List.set_cons_zero, List.set_cons_succ]
        refine wpAnyH_ready (rs := [15]) (by kernel_rfl) (by simp) ?_
        refine AllReadyH.cons (o := { dst := some 79, op := Op.call { callee := Callee.value (Operand.func 55), args := #[Operand.tmp 64, Operand.tmp 65, Operand.tmp 67, Operand.tmp 78], argTypes := #[28, 3, 3, 29] }, type := 0, pos := "ref.go:58", after := #[{ on := 0, ground := Ground.data }, { on := 1, ground := Ground.data }, { on := 3, ground := Ground.data }, { on := 14, ground := Ground.data }], guard := none }) rfl (fun K hK => ?step32) ?more32
        case more32 => exact AllReadyH.nil
        ((go_simp; go_at_call 55; refine (HSW.out _ _ _ _ HBA.out HPI.out (by simp) HQN.out).mono ?_; rintro e w6 ⟨rfl, hpost⟩; have HPO := Lib.hid hpost; clear hpost; go_wp2_with fail))
        refine hK.out _ _ ?hS32 (fun hHeld => ?rr32)
        case hS32 => (trivial)
        clear hK K
        try simp only [Act.put, List.setIfInBounds_toArray, List.set_cons_zero, List.set_cons_succ]
        refine wpAnyH_done (by kernel_rfl) ?_ _
        dsimp only [onlyN]
        clear hHeld
        go_wp2_with fail
        go_ret
        rw [HEQ.out, if_pos hbig]
        exact ⟨rfl, by rw [HHE.out]; exact HPO.out⟩
      · have hbI : ¬ (most : Int) < (q.length : Int) := by omega
        have hq1 := below_new (w := w5) (.cells #[.slice A5 q.length c5] 40)
        have HPI := Lib.hid (pgIn_new (n := 1) (ql := [.slice A5 q.length c5]) (Q := [q]) (alloc_at w5 (.cells #[.slice A5 q.length c5] 40)) rfl rfl (by omega) (fun i x hx => by
          cases i with
          | zero =>
            obtain rfl := Option.some.inj hx
            exact ⟨_, rfl, (RowOf.sl HR5.out.1).below hq1⟩
          | succ i => simp at hx))
        have HBA := Lib.hid (HB5.out.trans (hq1.mono HB5.out.size))
        clear hq1
        go_wp2_with fail
        refine (HSW.out _ _ _ _ HBA.out HPI.out (by simp) (fun u hu k hk => by
          obtain rfl := List.mem_singleton.1 hu
          exact Nat.le_trans HS4.out (HR5.out.blk k hk))).mono ?_
        rintro e w6 ⟨rfl, hpost⟩
        have HPO := Lib.hid hpost
        clear hpost
        go_wp2_with fail
        go_ret
        rw [HEQ.out, if_neg hbig]
        exact ⟨rfl, HPO.out⟩
end Go.Proofs.YtkkembbeejlomaaGreatDoor
