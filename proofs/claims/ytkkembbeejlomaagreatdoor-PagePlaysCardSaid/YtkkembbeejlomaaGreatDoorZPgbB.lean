/- The rows of a store, one taken away. All rows of a store. Scan. -/
import Derived.Test.YtkkembbeejlomaaGreatDoorZPagT
import Derived.Test.YtkkembbeejlomaaGreatDoorZPagZ
import Derived.Test.YtkkembbeejlomaaGreatDoorZPagX
set_option linter.unusedSimpArgs false
set_option linter.unusedVariables false
set_option linter.unnecessarySimpa false
namespace Go.Proofs.YtkkembbeejlomaaGreatDoor
open Go.RowKit Go.Shelf Go.Sort Go.Lib

theorem join_split {P : List (List Row)} {j : Nat} {a b : List Row} (ha : P[j]? = some a) (hb : P[j + 1]? = some b) : P = P.take j ++ a :: b :: P.drop (j + 2) ∧ joinP P j = P.take j ++ (a ++ b) :: P.drop (j + 2) := by
  have h1 := (set_split (q := a ++ b) ha)
  have hbl := (List.getElem?_eq_some_iff.1 hb).1
  have hd : P.drop (j + 1) = b :: P.drop (j + 2) := by
    rw [List.drop_eq_getElem_cons hbl, (List.getElem?_eq_some_iff.1 hb).2]
  rw [hd] at h1
  refine ⟨h1.1, ?_⟩
  unfold joinP
  rw [ha, hb]
  simp only [Option.getD_some]
  rw [h1.2]
  have hl : (P.take j).length = j := by rw [List.length_take]; omega
  rw [List.eraseIdx_append_of_length_le (by omega), hl, show j + 1 - j = 1 by omega]
  rfl
/-- What a page that lost a row leaves behind is fine, and holds the same rows. -/
theorem fine_tidy {most : Nat} {P : List (List Row)} {i : Nat} {p : List Row} (hp : P[i]? = some p) (hne : ∀ (j : Nat) (q : List Row), P[j]? = some q → j ≠ i → q ≠ []) (hfull : ∀ q ∈ P, q.length ≤ most) (hr : Rise P.flatten) (ht : P.flatten.length ≤ 256) (hm : 2 ≤ most ∧ most ≤ 64) :
    Fine most (tidyP most P i) ∧ (tidyP most P i).flatten = P.flatten := by
  have hT : tidyP most P i = if p.length = 0 then P.eraseIdx i else if most / 2 ≤ p.length then P else if joinsP most P (i : Int) = true then joinP P i else if joinsP most P ((i : Int) - 1) = true then joinP P (i - 1) else P := by
    unfold tidyP
    rw [hp]
    rfl
  have hall : p.length ≠ 0 → ∀ q ∈ P, q ≠ [] := fun h0 q hq => by
    obtain ⟨j, hj⟩ := List.getElem?_of_mem hq
    by_cases hji : j = i
    · subst hji
      obtain rfl := Option.some.inj (hp.symm.trans hj)
      exact fun e => h0 (by rw [e]; rfl)
    · exact hne j q hj hji
  have hself : p.length ≠ 0 → Fine most P := fun h0 => ⟨hall h0, hfull, hr, ht, hm⟩
  have hjoin : ∀ j : Nat, p.length ≠ 0 → joinsP most P (j : Int) = true → Fine most (joinP P j) ∧ (joinP P j).flatten = P.flatten := fun j h0 hj => by
    obtain ⟨j', a, b, e, h1, h2, h3⟩ := joins_at hj
    obtain rfl : j = j' := by omega
    obtain ⟨e1, e2⟩ := join_split h1 h2
    have hfl : (joinP P j).flatten = P.flatten := by
      conv => rhs; rw [e1]
      rw [e2]
      simp
    have han := hall h0 a (List.mem_of_getElem? h1)
    refine ⟨⟨fun q hq => ?_, fun q hq => ?_, by rw [hfl]; exact hr, by rw [hfl]; exact ht, hm⟩, hfl⟩
    · rw [e2] at hq
      rcases List.mem_append.1 hq with hq | hq
      · exact hall h0 q (List.mem_of_mem_take hq)
      · rcases List.mem_cons.1 hq with rfl | hq
        · intro e; exact han (List.append_eq_nil_iff.1 e).1
        · exact hall h0 q (List.mem_of_mem_drop hq)
    · rw [e2] at hq
      rcases List.mem_append.1 hq with hq | hq
      · exact hfull q (List.mem_of_mem_take hq)
      · rcases List.mem_cons.1 hq with rfl | hq
        · rw [List.length_append]; exact h3
        · exact hfull q (List.mem_of_mem_drop hq)
  rw [hT]
  split
  · rename_i h0
    obtain rfl := List.length_eq_zero_iff.1 h0
    have hfl : (P.eraseIdx i).flatten = P.flatten := by
      rw [List.eraseIdx_eq_take_drop_succ, (flat_mid (q := []) hp).2]
      simp
    refine ⟨⟨fun q hq => ?_, fun q hq => hfull q (List.mem_of_mem_eraseIdx hq), by rw [hfl]; exact hr, by rw [hfl]; exact ht, hm⟩, hfl⟩
    obtain ⟨j, hji, hj⟩ := List.mem_eraseIdx_iff_getElem?.1 hq
    exact hne j q hj hji
  · rename_i h0
    split
    · exact ⟨hself h0, rfl⟩
    · split
      · rename_i hj
        exact hjoin i h0 hj
      · split
        · rename_i hj
          obtain ⟨j', _, _, e, _⟩ := joins_at hj
          have hji : ((i : Int) - 1) = ((i - 1 : Nat) : Int) := by omega
          rw [hji] at hj
          exact hjoin (i - 1) h0 hj
        · exact ⟨hself h0, rfl⟩
/-- Del, in plain words: the key's row is gone. -/
theorem del_ok {most : Nat} {P : List (List Row)} (hF : Fine most P) {k : K} :
    Fine most (delP most P k).1 ∧ (delP most P k).2 = (findP P k).2.2 ∧ ∀ r, r ∈ (delP most P k).1.flatten ↔ r ∈ P.flatten ∧ r.k ≠ k := by
  cases ht : (findP P k).2.2 with
  | false =>
    have hn := (find_not hF).1 ht
    have hg : delP most P k = (P, false) := by
      unfold delP
      generalize findP P k = f at ht
      obtain ⟨i, at_, t⟩ := f
      simp only at ht
      subst ht
      rfl
    rw [hg]
    exact ⟨hF, rfl, fun r => ⟨fun hr => ⟨hr, hn r hr⟩, fun hr => hr.1⟩⟩
  | true =>
    have hP : P ≠ [] := fun e => by subst e; cases ht
    obtain ⟨p, hp, hf, hr, hfl⟩ := flat_at hF hP (k := k)
    obtain ⟨h1, h2⟩ := page_split hF (k := k)
    have hA : ∀ r ∈ (P.take (pageP P k)).flatten, r.k ≠ k := fun r hr e => by
      have := h1 r hr
      rw [e] at this
      exact absurd this (List.lt_irrefl _)
    have hB : ∀ r ∈ (P.drop (pageP P k + 1)).flatten, r.k ≠ k := fun r hr e => by
      have := h2 r hr
      rw [e] at this
      exact absurd this (List.lt_irrefl _)
    rw [hf] at ht
    simp only at ht
    obtain ⟨y, hy, hyk⟩ := has_at ht
    have e : delP most P k = (tidyP most (P.set (pageP P k) (p.eraseIdx (lowP p k))) (pageP P k), true) := by
      unfold delP
      rw [hf, ht]
      simp only [hp, Option.getD_some]
    rw [e]
    have hil := (List.getElem?_eq_some_iff.1 hp).1
    have hset : (P.set (pageP P k) (p.eraseIdx (lowP p k)))[pageP P k]? = some (p.eraseIdx (lowP p k)) := List.getElem?_set_self hil
    have hsub : (P.set (pageP P k) (p.eraseIdx (lowP p k))).flatten.Sublist P.flatten := by
      rw [(flat_mid hp).1, hfl]
      exact List.Sublist.append_left (List.Sublist.append_right (List.eraseIdx_sublist _ _) _) _
    obtain ⟨h3, h4⟩ := fine_tidy (most := most) hset (fun j q hj hji => by
      rw [List.getElem?_set_ne (fun e => hji e.symm)] at hj
      exact hF.ne q (List.mem_of_getElem? hj)) (fun q hq => (List.mem_or_eq_of_mem_set hq).elim (hF.full q) (fun e => by
        rw [e]
        exact Nat.le_trans (List.eraseIdx_sublist _ _).length_le (hF.full p (List.mem_of_getElem? hp)))) (List.Pairwise.sublist hsub hF.rise) (Nat.le_trans hsub.length_le hF.total) hF.most
    refine ⟨h3, rfl, fun r => ?_⟩
    show r ∈ (tidyP most (P.set (pageP P k) (p.eraseIdx (lowP p k))) (pageP P k)).flatten ↔ _
    rw [h4, (flat_mid hp).1, hfl]
    have hm : r ∈ p.eraseIdx (lowP p k) ↔ r ∈ p ∧ r.k ≠ k := by
      rw [List.mem_eraseIdx_iff_getElem?]
      constructor
      · rintro ⟨j, hji, hj⟩
        refine ⟨List.mem_of_getElem? hj, fun e => hji ?_⟩
        have hry := rise_key hr (List.mem_of_getElem? hj) (List.mem_of_getElem? hy) (e.trans hyk.symm)
        subst hry
        obtain ⟨hjl, hjv⟩ := List.getElem?_eq_some_iff.1 hj
        obtain ⟨hyl, hyv⟩ := List.getElem?_eq_some_iff.1 hy
        have hpw := List.pairwise_iff_getElem.1 hr
        rcases Nat.lt_trichotomy j (lowP p k) with hlt | he | hlt
        · have := hpw _ _ hjl hyl hlt
          rw [hjv, hyv] at this
          exact absurd this (List.lt_irrefl _)
        · exact he
        · have := hpw _ _ hyl hjl hlt
          rw [hjv, hyv] at this
          exact absurd this (List.lt_irrefl _)
      · rintro ⟨hm, hk⟩
        obtain ⟨j, hj⟩ := List.getElem?_of_mem hm
        refine ⟨j, fun e => ?_, hj⟩
        subst e
        rw [hy] at hj
        obtain rfl := Option.some.inj hj
        exact hk hyk
    simp only [List.mem_append, hm]
    constructor
    · rintro (h | h | h)
      · exact ⟨.inl h, hA r h⟩
      · exact ⟨.inr (.inl h.1), h.2⟩
      · exact ⟨.inr (.inr h), hB r h⟩
    · rintro ⟨h | h | h, hk⟩
      · exact .inl h
      · exact .inr (.inl ⟨h, hk⟩)
      · exact .inr (.inr h)
end Go.Proofs.YtkkembbeejlomaaGreatDoor

namespace Go.Proofs.YtkkembbeejlomaaGreatDoor
open Go.RowKit Go.Shelf Go.Sort Go.Lib

set_option maxRecDepth 100000 in
set_option maxHeartbeats 4000000 in
theorem Grow_zero {w : World} :
    Calls Tryz.prog 93 #[.slice none 0 0, .int .i64 0] w fun e w' => e = .returned (.slice none 0 0) ∧ Below w.heap.size w w' := by
  go_enter Tryz.func93, Tryz.ntmps93
  go_wp2_with fail
  go_ret
  exact ⟨rfl, Below.refl _ _⟩
set_option maxRecDepth 100000 in
set_option maxHeartbeats 4000000 in
theorem Concat_zero {w : World} {A : Option Addr} {c : Nat} (hc : c ≤ maxLen) :
    Calls Tryz.prog 76 #[.slice A 0 c] w fun e w' => e = .returned (.slice none 0 0) ∧ Below w.heap.size w w' := by
  have HG := Lib.hid (Grow_zero (w := w))
  unfold maxLen at hc
  go_enter Tryz.func76, Tryz.ntmps76
  go_wp2_with fail
  go_loopw [3, 11] (fun nv iv wr => iv = .int .i64 0 ∧ nv = .int .i64 0 ∧ w = wr) (fun _ iv _ => 0)
  case atStart => exact ⟨rfl, rfl, rfl⟩
  case round =>
    obtain ⟨rfl, rfl, rfl⟩ := hrel
    go_wp2_with fail
    refine (HG.out).mono ?_
    rintro e w2 ⟨rfl, hb2⟩
    have HB2 := Lib.hid hb2
    clear hb2 HG
    go_wp2_with fail
    go_loopw [6, 27] (fun nv iv wr => iv = .int .i64 0 ∧ nv = .slice none 0 0 ∧ w2 = wr) (fun _ iv _ => 0)
    case atStart => exact ⟨rfl, rfl, rfl⟩
    case round =>
      obtain ⟨rfl, rfl, rfl⟩ := hrel
      go_wp2_with fail
      go_ret
      exact ⟨rfl, HB2.out⟩
set_option maxRecDepth 100000 in
set_option maxHeartbeats 4000000 in
theorem Concat_all {w : World} {s most : Nat} {v : Value} {L : List Pl} {P : List (List Row)} (h : St w s most v L P) (hF : Fine most P) (hP : P ≠ []) :
    Calls Tryz.prog 76 #[v] w fun e w' => ∃ G, P.flatten.length ≤ G ∧ e = .returned (.slice (some ⟨w.heap.size, 0, none⟩) P.flatten.length G) ∧ Area w' 2 w.heap.size 0 G (pgC P.flatten) ∧ Below w.heap.size w w' := by
  have hPl : 0 < P.length := List.length_pos_iff.2 hP
  have hfl := flat_len P hF.ne
  have htot := hF.total
  have HG := Lib.hid (Grow_nil (w := w) (n := P.flatten.length) (by omega) (by omega))
  have hpg := fun i p (hp : P[i]? = some p) => hF.page hp
  obtain ⟨a0, g, c, _, rfl, hc1, hc2, _⟩ := row_page h (List.getElem?_eq_getElem hPl)
  unfold maxLen at hc2
  have H := Lib.hid h
  have hlen := hF.len
  have hlI : (P.length : Int) ≤ 256 := by omega
  obtain ⟨N, hN⟩ : ∃ N, P.flatten.length = N := ⟨_, rfl⟩
  have HN := Lib.hid hN
  rw [hN] at HG hfl htot ⊢
  have htI : (N : Int) ≤ 256 := by omega
  have hfle : ∀ i, (P.take i).flatten.length ≤ N := fun i => by rw [← hN]; exact flat_le i
  clear h hN
  go_enter Tryz.func76, Tryz.ntmps76
  go_wp2_with fail
  go_loopw [3, 11] (fun nv iv wr => ∃ i : Nat, i ≤ P.length ∧ iv = .int .i64 i ∧ nv = .int .i64 ((P.take i).flatten.length : Nat) ∧ w = wr) (fun _ iv _ => P.length - (intOf iv).toNat)
  case atStart => exact ⟨0, Nat.zero_le _, rfl, by simp, rfl⟩
  case round =>
    obtain ⟨i, hi, rfl, rfl, rfl⟩ := hrel
    by_cases hlt : i < P.length
    · have hp : P[i]? = some P[i] := List.getElem?_eq_getElem hlt
      generalize P[i] = p at hp
      obtain ⟨a, g', c', ha, hv2, _, _, kc, hA, hac⟩ := row_page H.out hp
      injection hv2 with e1 _ e3
      injection e1 with e1
      injection e1 with e1
      subst e1 e3
      have h1 := flat_take hp
      have h2 := hfle (i + 1)
      have HT := Lib.hid h1
      have hiI : (i : Int) < (P.length : Int) := by omega
      have hn : ((P.take i).flatten.length : Int) + (p.length : Int) ≤ 256 := by omega
      obtain ⟨n, hn1⟩ : ∃ n, (P.take i).flatten.length = n := ⟨_, rfl⟩
      rw [hn1] at hn HT ⊢
      have hw : IntKind.i64.wrap ((n : Int) + (p.length : Int)) = (n : Int) + (p.length : Int) := IntWalk.i64_in _ (by omega)
      have hw0 : ¬ (n : Int) + (p.length : Int) < 0 := by omega
      have HLT := Lib.hid hlt
      clear h1 h2 hA hac hp ha hn1 hlt
      go_wp2_with fail
      go_roundw
      case rel => exact ⟨i + 1, HLT.out, by go_num, by rw [HT.out]; simp, trivial⟩
      case measure => have := HLT.out; simp [intOf]; omega
    · obtain rfl : i = P.length := by omega
      rw [List.take_length, HN.out]
      go_wp2_with fail
      refine (HG.out).mono ?_
      rintro e w2 ⟨G, hG, rfl, hA0, hb2⟩
      have HA0 := Lib.hid hA0
      have HB2 := Lib.hid hb2
      have hGm := hA0.max
      unfold maxLen at hGm
      clear hA0 hb2 HG
      go_wp2_with fail
      go_loopw [6, 27] (fun nv iv wr => ∃ i : Nat, i ≤ P.length ∧ iv = .int .i64 i ∧ nv = .slice (some ⟨w.heap.size, 0, none⟩) ((P.take i).flatten.length) G ∧ Area wr 2 w.heap.size 0 G (pgC (P.take i).flatten) ∧ Below w.heap.size w wr) (fun _ iv _ => P.length - (intOf iv).toNat)
      case atStart => exact ⟨0, Nat.zero_le _, rfl, rfl, HA0.out, HB2.out⟩
      case round =>
        obtain ⟨i, hi, rfl, rfl, hE, hbw⟩ := hrel
        by_cases hlt : i < P.length
        · have hp : P[i]? = some P[i] := List.getElem?_eq_getElem hlt
          generalize P[i] = p at hp
          obtain ⟨a, g', c', ha, hv2, _, _, kc, hA, hac⟩ := row_page (H.out.below hbw) hp
          injection hv2 with e1 _ e3
          injection e1 with e1
          injection e1 with e1
          subst e1 e3
          have h2 := hfle (i + 1)
          have h1 := flat_take hp
          have hpl := (hF.page hp).2.2
          obtain ⟨hrun, hE2, hT⟩ := app_roomN (ty := 40) (n := (P.take i).flatten.length) (m := p.length) hE (by rw [pgC_len]) (hA.src (by rw [pgC_len]) a.cap) (by omega)
          rw [Nat.zero_add] at hrun hE2 hT
          have HE : Hid (Area (wr.setCells w.heap.size ((P.take i).flatten.length * 2) (pgC p)) 2 w.heap.size 0 G (pgC (P.take (i + 1)).flatten) ∧ Below w.heap.size w (wr.setCells w.heap.size ((P.take i).flatten.length * 2) (pgC p))) := Lib.hid ⟨by rw [flat_app hp, pgC_append]; exact hE2, hT.fresh (Nat.le_refl _) hbw⟩
          have HT := Lib.hid h1
          have hiI : (i : Int) < (P.length : Int) := by omega
          have hacm := hA.max
          unfold maxLen at hacm
          have HLT := Lib.hid hlt
          generalize (P.take i).flatten.length = n at hrun HT HE ⊢
          clear hE hE2 hT hbw h1 h2 hA hp ha hlt
          go_wp2_with (at_builtin; refine wpList_app_run rfl _ _ _ _ rfl rfl rfl hrun ?_)
          go_roundw
          case rel => exact ⟨i + 1, HLT.out, by go_num, by rw [HT.out], HE.out.1, HE.out.2⟩
          case measure => have := HLT.out; simp [intOf]; omega
        · obtain rfl : i = P.length := by omega
          rw [List.take_length] at hE ⊢
          rw [HN.out]
          have HE := Lib.hid (And.intro hE hbw)
          clear hE hbw
          go_wp2_with fail
          go_ret
          exact ⟨G, hG, rfl, HE.out.1, HE.out.2⟩
end Go.Proofs.YtkkembbeejlomaaGreatDoor

namespace Go.Proofs.YtkkembbeejlomaaGreatDoor
open Go.RowKit Go.Shelf Go.Sort Go.Lib

/-- Rows as a slice. -/
def RowsIs (w : World) (B : Nat) (v : Value) (p : List Row) : Prop := RowIs w 2 v p.length (pgC p) ∧ ∀ b, v.ownBlock = some b → B ≤ b
theorem RowsIs.below {w w' : World} {B : Nat} {v : Value} {p : List Row} (h : RowsIs w B v p) (hb : Below w.heap.size w w') : RowsIs w' B v p := ⟨h.1.below hb, h.2⟩
set_option maxRecDepth 100000 in
set_option maxHeartbeats 4000000 in
theorem rows_any {w : World} {s most : Nat} {v : Value} {L : List Pl} {P : List (List Row)} (h : St w s most v L P) (hF : Fine most P) :
    Calls Tryz.prog 48 #[.pointer (some ⟨s, 0, none⟩)] w fun e w' => ∃ v', e = .returned v' ∧ RowsIs w' w.heap.size v' P.flatten ∧ Below w.heap.size w w' := by
  obtain ⟨A, c, hv, hc1, hc2, _⟩ := h.row.form
  have ks : w.cell? ⟨s, 1, none⟩ = some v := cell_of h.head 1
  have HC : Hid (Calls Tryz.prog 76 #[v] w fun e w' => ∃ v', e = .returned v' ∧ RowsIs w' w.heap.size v' P.flatten ∧ Below w.heap.size w w') := Lib.hid (by
    by_cases hP : P = []
    · subst hP
      rw [hv]
      refine (Concat_zero hc2).mono ?_
      rintro e w' ⟨rfl, hb⟩
      exact ⟨_, rfl, ⟨RowIs.nil _ _, fun b e => by cases e⟩, hb⟩
    · refine (Concat_all h hF hP).mono ?_
      rintro e w' ⟨G, hG, rfl, hA, hb⟩
      exact ⟨_, rfl, ⟨hA.row (by rw [pgC_len]) hG, fun b e => by have e : w.heap.size = b := Option.some.inj e; omega⟩, hb⟩)
  rw [hv] at ks HC
  unfold maxLen at hc2
  clear h hv hF
  generalize P.flatten = l at HC ⊢
  go_enter Tryz.func48, Tryz.ntmps48
  go_wp2_with fail
  refine (HC.out).mono ?_
  rintro e w2 ⟨v', rfl, hr, hb2⟩
  have HF := Lib.hid (And.intro hr hb2)
  obtain ⟨A', c', rfl, _⟩ := hr.1.form
  clear hr hb2 HC
  go_wp2_with fail
  go_ret
  exact ⟨_, rfl, HF.out.1, HF.out.2⟩
theorem push_below {W W' : World} {B : Nat} {v : Value} (hg : W.grownBy W' v.ownBlock) (hv : ∀ b, v.ownBlock = some b → B ≤ b) (hB : B ≤ W.heap.size) : Below B W W' :=
  (Touch.grown (S := fun k => B ≤ k) (Touch.refl _ _) hg (fun k e _ => hv k e)).below (fun _ e => e) hB
theorem pgC_snoc (p : List Row) (r : Row) : pgC (p ++ [r]) = pgC p ++ [strV r.k, .int .i64 r.n] := by rw [pgC_append]; rfl
/-- What an append of one row leaves. -/
theorem push_rows {W W' : World} {B : Nat} {v v' : Value} {p : List Row} {r : Row} (h : RowsIs W B v p) (hB : B ≤ W.heap.size) (h1 : RowIs W' 2 v' (p.length + 1) (pgC p ++ [strV r.k, .int .i64 r.n])) (h2 : W.grownBy W' v.ownBlock) (h3 : v'.ownBlock = v.ownBlock ∨ v'.ownBlock = some W.heap.size) : RowsIs W' B v' (p ++ [r]) ∧ Below B W W' := by
  refine ⟨⟨by rw [pgC_snoc, List.length_append]; exact h1, fun b e => ?_⟩, push_below h2 h.2 hB⟩
  rcases h3 with h3 | h3
  · exact h.2 b (h3 ▸ e)
  · have : W.heap.size = b := Option.some.inj (h3.symm.trans e)
    omega
theorem src_lit {w : World} {b : Nat} {k : K} {n : Int} (h : w.heap[b]? = some (.cells #[.string ⟨k.toArray⟩, .int .i64 n] 42 (0, 0))) : Src Tryz.prog 2 40 (.slice (some ⟨b, 0, none⟩) 1 1) 1 [strV k, .int .i64 n] w :=
  Src.ofSlice _ Tryz.underlying40 ⟨b, 0, none⟩ 1 1 [strV k, .int .i64 n] rfl (fun j u hu => by
    have hadd : (⟨b, 0, none⟩ : Addr).add j = ⟨b, j, none⟩ := by unfold Addr.add; split <;> simp_all
    rw [hadd, cell_of h j]
    simpa [strV] using hu) (fun u hu => by
    rcases List.mem_cons.1 hu with rfl | hu
    · rfl
    · rcases List.mem_cons.1 hu with rfl | hu
      · rfl
      · cases hu)
/-- The rows from a key on and below another one; an empty one is no end. -/
def scanR (a b : K) (r : Row) : Bool := !decide (r.k < a) && (decide (b = []) || decide (r.k < b))
set_option maxRecDepth 100000 in
set_option maxHeartbeats 4000000 in
theorem Scan_any {w : World} {s most : Nat} {v : Value} {L : List Pl} {P : List (List Row)} (h : St w s most v L P) (hF : Fine most P) (a b : K) :
    Calls Tryz.prog 24 #[.pointer (some ⟨s, 0, none⟩), strV a, strV b] w fun e w' => ∃ v', e = .returned v' ∧ RowsIs w' w.heap.size v' (P.flatten.filter (scanR a b)) ∧ Below w.heap.size w w' := by
  have HR := Lib.hid (rows_any h hF)
  obtain ⟨l, hl⟩ : ∃ l, P.flatten = l := ⟨_, rfl⟩
  have htot := hF.total
  rw [hl] at HR htot ⊢
  clear h hF hl
  unfold strV
  go_enter Tryz.func24, Tryz.ntmps24
  go_wp2_with fail
  refine (HR.out).mono ?_
  rintro e w2 ⟨v', rfl, hr, hb2⟩
  obtain ⟨A, c, rfl, hc1, hc2, _, _, hcell⟩ := hr.1.form
  have HR2 := Lib.hid hr
  have HB2 := Lib.hid hb2
  unfold maxLen at hc2
  have hlI : (l.length : Int) ≤ 256 := by omega
  clear hr hb2 HR
  go_wp2_with fail
  go_loopw [7, 13] (fun lv iv wr => ∃ i : Nat, i ≤ l.length ∧ iv = .int .i64 i ∧ RowsIs wr w2.heap.size lv ((l.take i).filter (scanR a b)) ∧ Below w2.heap.size w2 wr) (fun _ iv _ => l.length - (intOf iv).toNat)
  case atStart => exact ⟨0, Nat.zero_le _, rfl, ⟨RowIs.nil _ _, fun b e => by cases e⟩, Below.refl _ _⟩
  case round =>
    obtain ⟨i, hi, rfl, hrw, hbw⟩ := hrel
    by_cases hlt : i < l.length
    · have hp : l[i]? = some l[i] := List.getElem?_eq_getElem hlt
      generalize l[i] = r at hp
      obtain ⟨q1, q2⟩ := pgC_at hp
      obtain ⟨g, rfl, k1⟩ := hcell _ _ q1
      obtain ⟨_, e1, k2⟩ := hcell _ _ q2
      injection e1 with e1
      injection e1 with e1
      subst e1
      replace k1 := (hbw.cell (World.block_lt_of_cell? _ _ k1)).trans k1
      replace k2 := (hbw.cell (World.block_lt_of_cell? _ _ k2)).trans k2
      have hiI : (i : Int) < (l.length : Int) := by omega
      have hT : (l.take (i + 1)).filter (scanR a b) = (l.take i).filter (scanR a b) ++ if scanR a b r then [r] else [] := by
        rw [List.take_add_one, hp, List.filter_append]
        simp [List.filter_cons]
      have HT := Lib.hid hT
      have HLT := Lib.hid hlt
      have HRW := Lib.hid (And.intro hrw hbw)
      obtain ⟨Al, cl, hlv, _⟩ := hrw.1.form
      subst hlv
      unfold strV at k1
      have hfl : ((l.take i).filter (scanR a b)).length ≤ l.length := Nat.le_trans (List.length_filter_le ..) (by rw [List.length_take]; omega)
      generalize (l.take i).filter (scanR a b) = acc at HT HRW hfl ⊢
      clear hrw hbw hT hlt hp q1 q2
      have hW1 := below_new (w := wr) (.cells #[.string ⟨r.k.toArray⟩, .int .i64 r.n] 42)
      have HSKIP : Hid (scanR a b r = false → ∃ i' : Nat, i' ≤ l.length ∧ (Value.int .i64 ((i : Int) + 1)) = .int .i64 i' ∧ RowsIs (wr.alloc (.cells #[.string ⟨r.k.toArray⟩, .int .i64 r.n] 42)) w2.heap.size (.slice Al acc.length cl) ((l.take i').filter (scanR a b)) ∧ Below w2.heap.size w2 (wr.alloc (.cells #[.string ⟨r.k.toArray⟩, .int .i64 r.n] 42))) := Lib.hid (fun hq => ⟨i + 1, HLT.out, by simp, by rw [HT.out, hq]; simpa using HRW.out.1.below hW1, HRW.out.2.trans (hW1.mono HRW.out.2.size)⟩)
      have hW2 := below_new (w := wr.alloc (.cells #[.string ⟨r.k.toArray⟩, .int .i64 r.n] 42)) (.cells #[.string ⟨r.k.toArray⟩, .int .i64 r.n] 42)
      have hW12 := hW1.trans (hW2.mono hW1.size)
      have HROW := Lib.hid (HRW.out.1.below hW12)
      have HBW := Lib.hid (HRW.out.2.trans (hW12.mono HRW.out.2.size))
      have hat := alloc_at (wr.alloc (.cells #[.string ⟨r.k.toArray⟩, .int .i64 r.n] 42)) (.cells #[.string ⟨r.k.toArray⟩, .int .i64 r.n] 42)
      rw [asz] at hat
      have HSRC := Lib.hid (src_lit hat)
      clear hW1 hW2 hW12 hat HRW
      by_cases h1 : r.k < a
      · have hb1 : Op.bytesLess r.k a = true := by rw [bytesLess_eq]; simpa using h1
        have hq : scanR a b r = false := by unfold scanR; simp [h1]
        go_wp2_with fail
        go_roundw
        case rel => exact HSKIP.out hq
        case measure => have := HLT.out; simp [intOf]; omega
      · have hb1 : Op.bytesLess r.k a = false := by rw [bytesLess_eq]; simpa using h1
        by_cases h2 : b = [] ∨ r.k < b
        · have hq : scanR a b r = true := by unfold scanR; simp [h1, h2]
          have hacI : (acc.length : Int) ≤ 256 := by omega
          have hT2 : (l.take (i + 1)).filter (scanR a b) = acc ++ [r] := by rw [HT.out, hq]; rfl
          have HT2 := Lib.hid hT2
          clear HT HSKIP hT2 hq
          cases b with
          | nil =>
            go_wp2_with (at_builtin; refine wpList_append_row _ _ Tryz.underlying40 infoR rfl (by decide) (by decide) _ rfl _ _ 40 rfl acc.length 1 (pgC acc) [strV r.k, .int .i64 r.n] _ _ rfl rfl HROW.out.1 HSRC.out ?_ ?_)
            all_goals first | omega | skip
            intro v' w' hrow hgrow hblk
            obtain ⟨h5, h6⟩ := push_rows HROW.out HBW.out.size hrow hgrow (by rw [asz, asz]; exact hblk)
            have H5 := Lib.hid h5
            have H6 := Lib.hid (HBW.out.trans h6)
            clear hrow hgrow hblk h5 h6
            go_wp2_with fail
            go_roundw
            case rel => exact ⟨i + 1, HLT.out, by go_num, by rw [HT2.out]; exact H5.out, H6.out⟩
            case measure => have := HLT.out; simp [intOf]; omega
          | cons x t =>
            have hb2 : Op.bytesLess r.k (x :: t) = true := by
              rw [bytesLess_eq]
              rcases h2 with e | h2
              · cases e
              · simpa using h2
            go_wp2_with (at_builtin; refine wpList_append_row _ _ Tryz.underlying40 infoR rfl (by decide) (by decide) _ rfl _ _ 40 rfl acc.length 1 (pgC acc) [strV r.k, .int .i64 r.n] _ _ rfl rfl HROW.out.1 HSRC.out ?_ ?_)
            all_goals first | omega | skip
            intro v' w' hrow hgrow hblk
            obtain ⟨h5, h6⟩ := push_rows HROW.out HBW.out.size hrow hgrow (by rw [asz, asz]; exact hblk)
            have H5 := Lib.hid h5
            have H6 := Lib.hid (HBW.out.trans h6)
            clear hrow hgrow hblk h5 h6
            go_wp2_with fail
            go_roundw
            case rel => exact ⟨i + 1, HLT.out, by go_num, by rw [HT2.out]; exact H5.out, H6.out⟩
            case measure => have := HLT.out; simp [intOf]; omega
        · have hq : scanR a b r = false := by
            have h3 : b ≠ [] := fun e => h2 (.inl e)
            have h4 : ¬ r.k < b := fun e => h2 (.inr e)
            unfold scanR
            simp [h3, h4]
          obtain ⟨x, t, rfl⟩ : ∃ x t, b = x :: t := by
            cases b with
            | nil => exact absurd (.inl rfl) h2
            | cons x t => exact ⟨x, t, rfl⟩
          have hb2 : Op.bytesLess r.k (x :: t) = false := by
            rw [bytesLess_eq]
            have h4 : ¬ r.k < x :: t := fun e => h2 (.inr e)
            simpa using h4
          go_wp2_with fail
          go_roundw
          case rel => exact HSKIP.out hq
          case measure => have := HLT.out; simp [intOf]; omega
    · obtain rfl : i = l.length := by omega
      rw [List.take_length] at hrw
      obtain ⟨Al, cl, rfl, _⟩ := hrw.1.form
      have HF := Lib.hid (And.intro hrw hbw)
      clear hrw hbw
      go_wp2_with fail
      go_ret
      exact ⟨_, rfl, ⟨HF.out.1.1, fun b e => Nat.le_trans HB2.out.size (HF.out.1.2 b e)⟩, HB2.out.trans (HF.out.2.mono HB2.out.size)⟩
end Go.Proofs.YtkkembbeejlomaaGreatDoor
