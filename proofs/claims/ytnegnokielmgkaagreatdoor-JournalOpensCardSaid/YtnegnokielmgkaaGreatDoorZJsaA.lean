/- JournalSaves in plain words: what calls leave while there is room and power, and a checkpoint behind them. A checkpoint while there is room and power: what it leaves, behind a crash too. A law's own journal beside the reference's size. JournalSaves: the law's small calls. -/
import Derived.Test.YtnegnokielmgkaaGreatDoorZJouX
set_option linter.unusedSimpArgs false
set_option linter.unusedVariables false
set_option linter.unnecessarySimpa false
namespace Go.Proofs.YtnegnokielmgkaaGreatDoor

/-- A tape with power, whose segments have numbers below n, and m bytes at most. -/
structure Good (p : Pl) (n m : Nat) : Prop where
  room : p.room = 20000
  fuse : p.fuse = -1
  down : p.down = false
  rises : Rises p.A
  names : ∀ x ∈ p.A, 0 ≤ x.1 ∧ x.1 < (n : Int)
  size : sizeS p.A ≤ m
theorem Good.mono {p : Pl} {n n' m m' : Nat} (h : Good p n m) (hn : n ≤ n') (hm : m ≤ m') : Good p n' m' := ⟨h.room, h.fuse, h.down, h.rises, fun x hx => ⟨(h.names x hx).1, by have := (h.names x hx).2; omega⟩, Nat.le_trans h.size hm⟩
theorem rises_len : ∀ (A : List Sg) (i n : Int), Rises A → (∀ x ∈ A, i ≤ x.1 ∧ x.1 < n) → (A.length : Int) ≤ max (n - i) 0
  | [], i, n, _, _ => by simp; omega
  | x :: A, i, n, h, hA => by
    unfold Rises at h
    rw [List.pairwise_cons] at h
    have h1 := hA x (List.mem_cons_self ..)
    have h2 := rises_len A (x.1 + 1) n h.2 (fun y hy => ⟨by have := h.1 y hy; omega, (hA y (List.mem_cons_of_mem _ hy)).2⟩)
    rw [List.length_cons]
    omega
theorem Good.len {p : Pl} {n m : Nat} (h : Good p n m) : p.A.length ≤ n := by
  have := rises_len p.A 0 n h.rises (fun x hx => h.names x hx)
  omega
theorem burnP_of {p : Pl} (h : p.fuse = -1) : burnP p = p := by unfold burnP; rw [if_neg (by rw [h]; omega)]
theorem sizeS_cons (x : Sg) (A : List Sg) : sizeS (x :: A) = x.2.1.length + sizeS A := by simp [sizeS]
theorem sizeS_rise (A : List Sg) : sizeS (riseA A) = sizeS A := sizeS_perm (riseA_perm A)
theorem sizeS_dropS {A : List Sg} (h : (numsOf A).Nodup) (n : Int) : sizeS (dropS A n) + ((lookS A n).getD ([], 0)).1.length = sizeS A := by
  induction A with
  | nil => rfl
  | cons x A ih =>
    unfold numsOf at h
    rw [List.map_cons, List.nodup_cons] at h
    have ih' := ih h.2
    by_cases hx : x.1 = n
    · subst hx
      have hno : ∀ y ∈ A, y.1 ≠ x.1 := fun y hy e => h.1 (List.mem_map.2 ⟨y, hy, e⟩)
      have e1 : dropS (x :: A) x.1 = A := by
        have := dropS_none hno
        unfold dropS at *
        rw [List.filter_cons, if_neg (by simp), this]
      have e2 : lookS (x :: A) x.1 = some x.2 := by unfold lookS; simp
      rw [e1, e2, sizeS_cons]
      show sizeS A + x.2.1.length = _
      omega
    · have e1 : dropS (x :: A) n = x :: dropS A n := by unfold dropS; rw [List.filter_cons, if_pos (by simpa using hx)]
      have e2 : lookS (x :: A) n = lookS A n := by unfold lookS; simp [hx]
      rw [e1, e2, sizeS_cons, sizeS_cons]
      omega
theorem sizeS_putS {A : List Sg} (h : (numsOf A).Nodup) (n : Int) (b : List UInt8) (s : Nat) : sizeS (putS A (n, b, s)) + ((lookS A n).getD ([], 0)).1.length = sizeS A + b.length := by
  have := sizeS_dropS h n
  unfold putS
  rw [sizeS_cons]
  show b.length + sizeS (dropS A n) + _ = _
  omega
theorem mem_rise {A : List Sg} {x : Sg} : x ∈ riseA A ↔ x ∈ A := (riseA_perm A).mem_iff
theorem names_lookS {A : List Sg} {n : Int} {y : List UInt8 × Nat} (h : lookS A n = some y) : ∃ x ∈ A, x.1 = n := ⟨(n, y), lookS_some h, rfl⟩
section
variable {p : Pl} {n m : Nat}
theorem Good.of {p' : Pl} {n' m' : Nat} (h : Good p n m) (hr : p'.room = p.room) (hf : p'.fuse = p.fuse) (hd : p'.down = p.down) (hn : (numsOf p'.A).Nodup) (hx : ∀ x ∈ p'.A, 0 ≤ x.1 ∧ x.1 < (n' : Int)) (hs : sizeS p'.A ≤ m') : Good (rise p') n' m' :=
  ⟨hr.trans h.room, hf.trans h.fuse, hd.trans h.down, riseA_rises hn, fun x hx' => hx x (mem_rise.1 hx'), by show sizeS (riseA _) ≤ _; rw [sizeS_rise]; exact hs⟩
theorem Good.same (h : Good p n m) : Good (rise p) n m := h.of rfl rfl rfl h.rises.nodup h.names h.size
theorem Good.app (h : Good p n m) {s : Int} (h0 : 0 ≤ s) (h1 : s < (n : Int) + 1) (b : List UInt8) : Good (doS p 0 s 0 b).2 (n + 1) (m + b.length) := by
  have hsame : Good (rise p) (n + 1) (m + b.length) := h.same.mono (by omega) (by omega)
  have hb := burnP_of h.fuse
  unfold doS doP
  show Good (rise (ite _ _ _ : Int × Pl).2) _ _
  split
  · exact hsame
  split
  · exact hsame
  split
  · exact hsame
  split
  · exact hsame
  split
  · exact hsame
  split
  · rename_i hf; rw [h.fuse] at hf; omega
  · unfold doneP
    rw [hb]
    refine h.of rfl rfl rfl (putS_nodup h.rises.nodup _) (fun x hx => ?_) ?_
    · rcases List.mem_cons.1 hx with rfl | hx
      · exact ⟨h0, by show s < _; omega⟩
      · have := h.names x (mem_dropS.1 hx).1
        exact ⟨this.1, by omega⟩
    · have := sizeS_putS h.rises.nodup s (((lookS p.A s).getD ([], 0)).1 ++ b) ((lookS p.A s).getD ([], 0)).2
      rw [List.length_append] at this
      have := h.size
      show sizeS (putS p.A _) ≤ _
      omega
theorem Good.sync (h : Good p n m) (s : Int) : Good (doS p 1 s 0 []).2 n m := by
  have hb := burnP_of h.fuse
  unfold doS doP
  show Good (rise (ite _ _ _ : Int × Pl).2) _ _
  split
  · exact h.same
  split
  · exact h.same
  split
  · exact h.same
  split
  · exact h.same
  split
  · exact h.same
  split
  · rename_i hf; rw [h.fuse] at hf; omega
  · rename_i hl _ _ _
    unfold doneP
    rw [hb]
    have hlk : lookS p.A s ≠ none := fun e => hl ⟨e, by decide⟩
    obtain ⟨y, hy⟩ := Option.ne_none_iff_exists'.1 hlk
    refine h.of rfl rfl rfl (putS_nodup h.rises.nodup _) (fun x hx => ?_) ?_
    · rcases List.mem_cons.1 hx with rfl | hx
      · obtain ⟨z, hz, e⟩ := names_lookS hy
        have := h.names z hz
        rw [e] at this
        exact this
      · exact h.names x (mem_dropS.1 hx).1
    · have := sizeS_putS h.rises.nodup s ((lookS p.A s).getD ([], 0)).1 ((lookS p.A s).getD ([], 0)).1.length
      have := h.size
      show sizeS (putS p.A _) ≤ _
      omega
theorem Good.drop (h : Good p n m) (s : Int) : Good (doS p 3 s 0 []).2 n m := by
  have hb := burnP_of h.fuse
  unfold doS doP
  show Good (rise (ite _ _ _ : Int × Pl).2) _ _
  split
  · exact h.same
  split
  · exact h.same
  split
  · exact h.same
  split
  · exact h.same
  split
  · exact h.same
  split
  · rename_i hf; rw [h.fuse] at hf; omega
  · unfold doneP
    rw [hb]
    refine h.of rfl rfl rfl (dropS_nodup h.rises.nodup _) (fun x hx => h.names x (mem_dropS.1 hx).1) ?_
    have := sizeS_dropS h.rises.nodup s
    have := h.size
    show sizeS (dropS p.A _) ≤ _
    omega
theorem Good.cur (h : Good p n m) {s : Int} (hs : curP p = some s) : 0 ≤ s ∧ s < (n : Int) := by
  obtain ⟨x, hx, rfl⟩ := List.mem_map.1 (curP_mem hs)
  exact h.names x hx
theorem Good.settle (h : Good p n m) : 0 ≤ (settleP p).1 ∧ (settleP p).1 < (n : Int) + 1 ∧ Good (settleP p).2.2 n m := by
  unfold settleP
  cases hc : curP p with
  | none => exact ⟨by show (0 : Int) ≤ 0; omega, by show (0 : Int) < _; omega, h⟩
  | some s =>
    have := h.cur hc
    exact ⟨by show 0 ≤ s + 1; omega, by show s + 1 < _; omega, h.sync s⟩
theorem placeP_some {S mx : Nat} {s : Int} (hc : curP p = some s) : placeP p S mx = if lenP p s = 0 ∨ lenP p s + S ≤ mx then (s, 0, p) else settleP p := by
  unfold placeP
  rw [hc]
theorem placeP_none {S mx : Nat} (hc : curP p = none) : placeP p S mx = (0, 0, p) := by
  unfold placeP
  rw [hc]
theorem Good.place (h : Good p n m) (S mx : Nat) : 0 ≤ (placeP p S mx).1 ∧ (placeP p S mx).1 < (n : Int) + 1 ∧ Good (placeP p S mx).2.2 n m := by
  cases hc : curP p with
  | none =>
    rw [placeP_none hc]
    exact ⟨by show (0 : Int) ≤ 0; omega, by show (0 : Int) < _; omega, h⟩
  | some s =>
    have := h.cur hc
    rw [placeP_some hc]
    split
    · exact ⟨by show 0 ≤ s; omega, by show s < _; omega, h⟩
    · exact h.settle
theorem Good.drops (ahead : Int) : ∀ (l : List Int) {p : Pl}, Good p n m → Good (dropsP ahead l p).2 n m
  | [], p, h => h
  | s :: l, p, h => by
    rw [dropsP_cons]
    split
    · exact h
    split
    · exact h.drop s
    · exact Good.drops ahead l (h.drop s)
end
theorem good_add {J : Js} {n m : Nat} (h : Good J.p n m) (recs : List (List UInt8)) : Good (addP J recs).2.p (n + 1) (m + (framesB 0 recs).flatten.length) ∧ (addP J recs).2.seg = J.seg ∧ (addP J recs).2.rs.length ≤ J.rs.length + recs.length := by
  have hw : Good J.p (n + 1) (m + (framesB 0 recs).flatten.length) := h.mono (by omega) (by omega)
  obtain ⟨p1, p2, p3⟩ := h.place (framesB 0 recs).flatten.length J.seg
  have h4 := p3.app p1 p2 (framesB 0 recs).flatten
  unfold addP
  split
  · exact ⟨hw, rfl, Nat.le_add_right _ _⟩
  split
  · exact ⟨hw, rfl, Nat.le_add_right _ _⟩
  split
  · exact ⟨p3.mono (by omega) (by omega), rfl, by show J.rs.length ≤ _; omega⟩
  split
  · exact ⟨h4, rfl, by show J.rs.length ≤ _; omega⟩
  · exact ⟨h4, rfl, by show (J.rs ++ recs).length ≤ _; rw [List.length_append]; omega⟩
theorem good_sync {J : Js} {n m : Nat} (h : Good J.p n m) : Good (syncP J).2.p n m := h.settle.2.2
theorem good_write {J : Js} {n m : Nat} (h : Good J.p n m) (recs : List (List UInt8)) : Good (writeP J recs).2.p (n + 1) (m + (framesB 0 recs).flatten.length) ∧ (writeP J recs).2.seg = J.seg ∧ (writeP J recs).2.rs.length ≤ J.rs.length + recs.length := by
  have h1 := good_add h recs
  unfold writeP
  split
  · exact h1
  · exact ⟨good_sync h1.1, h1.2.1, h1.2.2⟩
theorem good_save {J : Js} {n m : Nat} (h : Good J.p n m) (st : List UInt8) : Good (saveP J st).2.p (n + 1) (m + (st.length + 8)) ∧ (saveP J st).2.seg = J.seg ∧ (saveP J st).2.rs.length ≤ J.rs.length := by
  have hw : Good J.p (n + 1) (m + (st.length + 8)) := h.mono (by omega) (by omega)
  obtain ⟨p1, p2, p3⟩ := h.settle
  have hst : Good (startP (settleP J.p).2.2 (settleP J.p).1 (frameB (1 :: st))).2 (n + 1) (m + (st.length + 8)) := by
    have h4 := p3.app p1 p2 (frameB (1 :: st))
    rw [frameB_len, List.length_cons] at h4
    unfold startP
    split
    · exact h4.sync _
    · exact h4
  unfold saveP
  split
  · exact ⟨hw, rfl, Nat.le_refl _⟩
  split
  · exact ⟨p3.mono (by omega) (by omega), rfl, Nat.le_refl _⟩
  split
  · exact ⟨hst.drop _, rfl, Nat.le_refl _⟩
  · exact ⟨Good.drops _ _ hst, rfl, Nat.zero_le _⟩
end Go.Proofs.YtnegnokielmgkaaGreatDoor

namespace Go.Proofs.YtnegnokielmgkaaGreatDoor

theorem riseA_uniq {X B : List Sg} (hB : Rises B) (h : X.Perm B) : riseA X = B := (riseA_rises ((numsOf_perm h).nodup_iff.2 hB.nodup)).uniq hB ((riseA_perm X).trans h)
theorem nameP_of {s : Int} (h0 : 0 ≤ s) (h1 : s ≤ 1048576) : nameP s = true := by unfold nameP; simp [h0, h1]
theorem rises_append {A : List Sg} {x : Sg} (h : Rises A) (hx : ∀ y ∈ A, y.1 < x.1) : Rises (A ++ [x]) := by
  unfold Rises at *
  rw [List.pairwise_append]
  exact ⟨h, List.pairwise_singleton _ _, fun a ha b hb => by rw [List.mem_singleton.1 hb]; exact hx a ha⟩
theorem lookS_last {A : List Sg} {x : Sg} (hx : ∀ y ∈ A, y.1 < x.1) : lookS (A ++ [x]) x.1 = some x.2 := by
  unfold lookS
  rw [List.find?_append, List.find?_eq_none.2 (fun y hy => by have := hx y hy; simp; omega)]
  simp
section
variable {p : Pl} {n m : Nat}
theorem app_last (h : Good p n m) {s : Int} (h0 : 0 ≤ s) (h1 : s ≤ 1048576) (hs : ∀ y ∈ p.A, y.1 < s) (hn : n < 64) {b : List UInt8} (hb : m + b.length ≤ 20000) : doS p 0 s 0 b = (0, { p with A := p.A ++ [(s, b, 0)] }) := by
  have hno : lookS p.A s = none := lookS_none fun y hy => by have := hs y hy; omega
  have hF : Fine p 0 s 0 b := ⟨nameP_of h0 h1, h.down, fun c => absurd rfl c, fun _ => ⟨by have := h.size; rw [h.room]; omega, fun _ => by have := h.len; omega⟩, fun c => by cases c⟩
  unfold doS
  rw [doP_app hF (by rw [h.fuse]; omega) (y := ([], 0)) (by rw [hno]; rfl), burnP_of h.fuse]
  have e : riseA (putS p.A (s, [] ++ b, 0)) = p.A ++ [(s, b, 0)] := by
    refine riseA_uniq (rises_append h.rises hs) ?_
    unfold putS
    show ((s, [] ++ b, 0) :: dropS p.A s).Perm _
    rw [dropS_none (fun y hy => by have := hs y hy; omega), List.nil_append]
    exact (List.perm_append_singleton _ _).symm
  show (_, rise { p with A := putS p.A (s, [] ++ b, 0) }) = _
  unfold rise
  rw [e]
theorem sync_last {A : List Sg} {s : Int} {b : List UInt8} {k : Nat} {room : Nat} (hA : Rises A) (h0 : 0 ≤ s) (h1 : s ≤ 1048576) (hs : ∀ y ∈ A, y.1 < s) : doS ⟨room, A ++ [(s, b, k)], -1, false⟩ 1 s 0 [] = (0, ⟨room, A ++ [(s, b, b.length)], -1, false⟩) := by
  have hl : lookS (A ++ [(s, b, k)]) s = some (b, k) := lookS_last (x := (s, b, k)) hs
  have hF : Fine ⟨room, A ++ [(s, b, k)], -1, false⟩ 1 s 0 [] := ⟨nameP_of h0 h1, rfl, fun _ => by show lookS (A ++ [(s, b, k)]) s ≠ none; rw [hl]; simp, (fun c => by cases c), (fun c => by cases c)⟩
  unfold doS
  rw [doP_sync hF (by show (-1 : Int) ≠ 0; omega) (y := (b, k)) hl, burnP_of rfl]
  have e : riseA (putS (A ++ [(s, b, k)]) (s, b, b.length)) = A ++ [(s, b, b.length)] := by
    refine riseA_uniq (rises_append hA hs) ?_
    unfold putS
    show ((s, b, b.length) :: dropS (A ++ [(s, b, k)]) s).Perm _
    have : dropS (A ++ [(s, b, k)]) s = A := by
      have := dropS_none (A := A) (n := s) (fun y hy => by have := hs y hy; omega)
      unfold dropS at *
      rw [List.filter_append, this, List.filter_cons, if_neg (by simp), List.filter_nil, List.append_nil]
    rw [this]
    exact (List.perm_append_singleton _ _).symm
  show (_, rise ⟨room, putS (A ++ [(s, b, k)]) (s, b, b.length), -1, false⟩) = _
  unfold rise
  rw [e]
theorem drop_first {A : List Sg} {y : Sg} {room : Nat} (hA : Rises (y :: A)) (h0 : 0 ≤ y.1) (h1 : y.1 ≤ 1048576) : doS ⟨room, y :: A, -1, false⟩ 3 y.1 0 [] = (0, ⟨room, A, -1, false⟩) := by
  have hl : lookS (y :: A) y.1 = some y.2 := by unfold lookS; simp
  have hF : Fine ⟨room, y :: A, -1, false⟩ 3 y.1 0 [] := ⟨nameP_of h0 h1, rfl, fun _ => by show lookS (y :: A) y.1 ≠ none; rw [hl]; simp, (fun c => by cases c), (fun c => by cases c)⟩
  unfold doS
  rw [doP_drop hF (by show (-1 : Int) ≠ 0; omega), burnP_of rfl]
  unfold Rises at hA
  rw [List.pairwise_cons] at hA
  have e : riseA (dropS (y :: A) y.1) = A := by
    refine riseA_uniq hA.2 ?_
    have := dropS_none (A := A) (n := y.1) (fun z hz => by have := hA.1 z hz; omega)
    unfold dropS at *
    rw [List.filter_cons, if_neg (by simp), this]
  show (_, rise ⟨room, dropS (y :: A) y.1, -1, false⟩) = _
  unfold rise
  rw [e]
theorem drops_last {x : Sg} {room : Nat} : ∀ (A : List Sg), Rises (A ++ [x]) → (∀ y ∈ A, 0 ≤ y.1 ∧ y.1 ≤ 1048576 ∧ y.1 < x.1) → dropsP x.1 (numsOf (A ++ [x])) ⟨room, A ++ [x], -1, false⟩ = (0, ⟨room, [x], -1, false⟩)
  | [], _, _ => by
    show dropsP x.1 [x.1] _ = _
    rw [dropsP_cons, if_pos (Int.le_refl _)]
    rfl
  | y :: A, h, hA => by
    have hy := hA y (List.mem_cons_self ..)
    show dropsP x.1 (y.1 :: numsOf (A ++ [x])) ⟨room, y :: (A ++ [x]), -1, false⟩ = _
    have hd := drop_first (A := A ++ [x]) (room := room) h hy.1 hy.2.1
    rw [dropsP_cons, if_neg (by omega), hd, if_neg (by simp)]
    have h' : Rises (A ++ [x]) := by
      have h2 : Rises (y :: (A ++ [x])) := h
      unfold Rises at *
      rw [List.pairwise_cons] at h2
      exact h2.2
    exact drops_last A h' (fun z hz => hA z (List.mem_cons_of_mem _ hz))
theorem good_form (h : Good p n m) : p = ⟨20000, p.A, -1, false⟩ := by
  obtain ⟨a, b, c, d⟩ := p
  have h1 := h.room
  have h2 := h.fuse
  have h3 := h.down
  simp only at h1 h2 h3
  rw [h1, h2, h3]
theorem settle_ok (h : Good p n m) (hn : n ≤ 1000000) : ∃ next p2, settleP p = (next, 0, p2) ∧ Good p2 n m ∧ 0 ≤ next ∧ next ≤ n ∧ ∀ y ∈ p2.A, y.1 < next := by
  cases hc : curP p with
  | none =>
    have hA : p.A = [] := by
      unfold curP numsOf at hc
      simpa using hc
    refine ⟨0, p, ?_, h, Int.le_refl _, by omega, fun y hy => by rw [hA] at hy; cases hy⟩
    unfold settleP
    rw [hc]
  | some s =>
    have hb := h.cur hc
    rcases List.eq_nil_or_concat p.A with hA | ⟨B, x, hA⟩
    · unfold curP numsOf at hc
      rw [hA] at hc
      cases hc
    · rw [List.concat_eq_append] at hA
      have hs : s = x.1 := by
        unfold curP numsOf at hc
        rw [hA] at hc
        simp at hc
        exact hc.symm
      subst hs
      have hr := h.rises
      rw [hA] at hr
      have hr2 := hr
      unfold Rises at hr2
      rw [List.pairwise_append] at hr2
      have hB : ∀ y ∈ B, y.1 < x.1 := fun y hy => hr2.2.2 y hy x (List.mem_singleton.2 rfl)
      have hp := good_form h
      rw [hA] at hp
      obtain ⟨xn, xb, xs⟩ := x
      have hd : doS p 1 xn 0 [] = (0, ⟨20000, B ++ [(xn, xb, xb.length)], -1, false⟩) := by
        rw [hp]
        exact sync_last hr2.1 hb.1 (by have := hb.2; show xn ≤ _; omega) hB
      have hg := h.sync xn
      rw [hd] at hg
      refine ⟨xn + 1, _, ?_, hg, by have := hb.1; show 0 ≤ xn + 1; omega, by have := hb.2; show xn + 1 ≤ _; omega, fun y hy => ?_⟩
      · unfold settleP
        rw [hc]
        show (xn + 1, doS p 1 xn 0 []) = _
        rw [hd]
      · rcases List.mem_append.1 hy with hy | hy
        · have : y.1 < xn := hB y hy
          omega
        · rw [List.mem_singleton.1 hy]
          show xn < _
          omega
end
def savedP (next : Int) (st : List UInt8) : Pl := ⟨20000, [(next, frameB (1 :: st), (frameB (1 :: st)).length)], -1, false⟩
theorem save_ok {J : Js} {n m : Nat} (h : Good J.p n m) (hn : n < 60) {st : List UInt8} (hs : st.length ≤ 60) (hm : m ≤ 19000) : ∃ next : Int, 0 ≤ next ∧ next ≤ 60 ∧ saveP J st = (0, ⟨savedP next st, J.seg, st, []⟩) := by
  obtain ⟨next, p2, h1, h2, h3, h4, h5⟩ := settle_ok h (by omega)
  have hfl : (frameB (1 :: st)).length = st.length + 8 := by rw [frameB_len, List.length_cons]
  have ha := app_last h2 h3 (by omega) h5 (by omega) (b := frameB (1 :: st)) (by rw [hfl]; omega)
  have hp2 := good_form h2
  have hst : startP p2 next (frameB (1 :: st)) = (0, ⟨20000, p2.A ++ [(next, frameB (1 :: st), (frameB (1 :: st)).length)], -1, false⟩) := by
    unfold startP
    rw [ha, if_pos rfl]
    have : ({ p2 with A := p2.A ++ [(next, frameB (1 :: st), 0)] } : Pl) = ⟨20000, p2.A ++ [(next, frameB (1 :: st), 0)], -1, false⟩ := by
      rw [h2.room.symm, h2.fuse.symm, h2.down.symm]
    rw [this]
    exact sync_last h2.rises h3 (by omega) h5
  refine ⟨next, h3, by omega, ?_⟩
  exact saveP_ok (by omega) h1 hst (drops_last (x := (next, frameB (1 :: st), (frameB (1 :: st)).length)) p2.A (rises_append h2.rises h5) (fun y hy => ⟨(h2.names y hy).1, by have := (h2.names y hy).2; omega, h5 y hy⟩))
theorem crash_saved (next : Int) (st : List UInt8) (ks : List Int) : crashP (savedP next st) ks = savedP next st := by
  unfold crashP savedP
  have hl : lastS (next, frameB (1 :: st), (frameB (1 :: st)).length) (ks[0]?.getD 0) = (frameB (1 :: st)).length := by
    unfold lastS
    show (frameB (1 :: st)).length + min _ ((frameB (1 :: st)).length - (frameB (1 :: st)).length) = _
    omega
  have hk : crI [(next, frameB (1 :: st), (frameB (1 :: st)).length)] ks 1 = [(next, frameB (1 :: st), (frameB (1 :: st)).length)] := by
    rw [crI_succ ks (x := (next, frameB (1 :: st), (frameB (1 :: st)).length)) rfl, crI_zero, List.nil_append, keptS_some (by rw [hl, frameB_len]; omega), hl]
    show [(next, (frameB (1 :: st)).take (frameB (1 :: st)).length, _)] = _
    rw [List.take_length]
  show (⟨20000, crI _ ks 1, -1, false⟩ : Pl) = _
  rw [hk]
theorem load_saved (next : Int) (st : List UInt8) (seg : Nat) (hs : st.length ≤ 16383) : loadP (savedP next st) seg = (0, ⟨savedP next st, seg, st, []⟩) := by
  have hfr : frmB (frameB (1 :: st)) = [1 :: st] := by
    have := frmB_frs (ls := [1 :: st]) (fun m hm => by rw [List.mem_singleton.1 hm, List.length_cons]; omega)
    rwa [show frs [1 :: st] = frameB (1 :: st) from by simp [frs]] at this
  have hend : endP [1 :: st] = (frameB (1 :: st)).length := by
    unfold endP
    rw [show frs [1 :: st] = frameB (1 :: st) from by simp [frs]]
  have hm : mendP (savedP next st).A (savedP next st).A.length (savedP next st) = (0, savedP next st, 1) := by
    show mendP [(next, frameB (1 :: st), (frameB (1 :: st)).length)] (0 + 1) _ = _
    rw [mendP_some (x := (next, frameB (1 :: st), (frameB (1 :: st)).length)) rfl (by show ¬ frmB (frameB (1 :: st)) = []; rw [hfr]; simp)]
    unfold trimP
    show ((if endP (frmB (frameB (1 :: st))) = (frameB (1 :: st)).length then _ else _ : Int × Pl).1, _, _) = _
    rw [hfr, if_pos hend]
  have hb : beginP (savedP next st).A 1 = 0 := rfl
  have hd : dropsP (headN (savedP next st).A (beginP (savedP next st).A 1)) (numsOf (savedP next st).A) (savedP next st) = (0, savedP next st) := by
    rw [hb]
    show dropsP next [next] _ = _
    rw [dropsP_cons, if_pos (Int.le_refl _)]
  rw [loadP_ok hm (by decide) hd, hb]
  have h1 : headS (savedP next st).A 0 = st := by
    show (checkB (frmB (frameB (1 :: st)))).getD [] = st
    rw [hfr]
    rfl
  have h2 : recsOf (((savedP next st).A.take 1).drop 0) = [] := by
    show recsOf [(next, frameB (1 :: st), (frameB (1 :: st)).length)] = []
    unfold recsOf recsB
    rw [List.flatMap_cons, List.flatMap_nil, hfr]
    rfl
  rw [h1, h2]
end Go.Proofs.YtnegnokielmgkaaGreatDoor

namespace Go.Proofs.YtnegnokielmgkaaGreatDoor
open Go.RowKit

/-- A journal of the law's own, and the reference's, of which the size alone is asked. -/
def JAwq (w0 w : World) (N j t q : Nat) (J : Js) : Prop := Glob w0 ∧ Mov w0 ∧ Below w0.heap.size w0 w ∧ N ≤ w.heap.size ∧ w0.heap.size ≤ q ∧ q < w.heap.size ∧ w.cell? ⟨q, 1, none⟩ = some (.int .i64 (J.seg : Int)) ∧ ∃ T sv rv xs, JAt w j t T J sv rv xs ∧ ∀ k, JB j t T rv k → w0.heap.size ≤ k ∧ k < N ∧ k ≠ q
theorem JAwq.awk {w0 w : World} {N j t q : Nat} {J : Js} (h : JAwq w0 w N j t q J) : JAwk w0 w N j t J := by
  obtain ⟨h1, h2, h3, h4, _, _, _, T, sv, rv, xs, h5, h6⟩ := h
  exact ⟨h1, h2, h3, h4, T, sv, rv, xs, h5, fun k hk => ⟨(h6 k hk).1, (h6 k hk).2.1⟩⟩
theorem JAwq.keep {w0 w w' : World} {N j t q : Nat} {J : Js} (h : JAwq w0 w N j t q J) (hb : Below w.heap.size w w') : JAwq w0 w' N j t q J := by
  obtain ⟨h1, h2, h3, h4, h7, h8, h9, T, sv, rv, xs, h5, h6⟩ := h
  exact ⟨h1, h2, h3.trans (hb.mono h3.size), Nat.le_trans h4 hb.size, h7, Nat.lt_of_lt_of_le h8 hb.size, (hb.cell (p := ⟨q, 1, none⟩) h8).trans h9, T, sv, rv, xs, h5.below hb, h6⟩
theorem JAwq.below {w0 w : World} {N j t q : Nat} {J : Js} (h : JAwq w0 w N j t q J) : Below w0.heap.size w0 w := h.2.2.1
theorem JAwq.step {w0 w w' : World} {N j t q : Nat} {T : Tp} {J J' : Js} {rv : Value} (h1 : Glob w0) (h2 : Mov w0) (h3 : Below w0.heap.size w0 w) (h7 : w0.heap.size ≤ q) (h8 : q < w.heap.size) (h9 : w.cell? ⟨q, 1, none⟩ = some (.int .i64 (J.seg : Int))) (h6 : ∀ k, JB j t T rv k → w0.heap.size ≤ k ∧ k < N ∧ k ≠ q) (hd : JD w (JB j t T rv) j t J' w') (hs : J'.seg = J.seg) : JAwq w0 w' w'.heap.size j t q J' := by
  obtain ⟨T', sv', rv', xs', k1, k2, k3⟩ := hd
  have hsz := h3.size
  refine ⟨h1, h2, h3.trans (k2.below (fun k hk => (h6 k hk).1) hsz), Nat.le_refl _, h7, Nat.lt_of_lt_of_le h8 k2.size, ?_, T', sv', rv', xs', k1, fun k hk => ⟨(k3 k hk).elim (fun e => (h6 k e).1) (fun e => by omega), k1.lt k hk, (k3 k hk).elim (fun e => (h6 k e).2.2) (fun e => by omega)⟩⟩
  rw [hs]
  exact cell_touch h9 k2 (fun hc => (h6 q hc).2.2 rfl)
/-- What lay ahead of the law, or lies from N on, but for the reference's. -/
def Old (w0 w : World) (N : Nat) (w' : World) : Prop := w.heap.size ≤ w'.heap.size ∧ ∀ k, k < w.heap.size → (k < w0.heap.size ∨ N ≤ k) → w'.heap[k]? = w.heap[k]?
section
variable {w0 w : World} {N j t q : Nat} {J : Js}
theorem jaq_append (h : JAwq w0 w N j t q J) {A : Option Addr} {c : Nat} {recs : List (List UInt8)} (hP : ∀ w', Old w0 w N w' → PIs w' (.slice A recs.length c) recs) (hl : recs.length ≤ 1000) (hJl : J.rs.length ≤ 900000) (hs : (addP J recs).2.seg = J.seg) :
    Calls Tryz.prog 31 #[.pointer (some ⟨j, 0, none⟩), .slice A recs.length c] w fun e w' => e = .returned (.int .i64 (addP J recs).1) ∧ JAwq w0 w' w'.heap.size j t q (addP J recs).2 := by
  obtain ⟨h1, h2, h3, h4, h7, h8, h9, T, sv, rv, xs, h5, h6⟩ := h
  refine (jappend h5 (ok2_awk h1 h2 h3 (fun k hk => ⟨(h6 k hk).1, (h6 k hk).2.1⟩)) (fun w' ht => hP w' ⟨ht.size, fun k hk hor => ht.block k hk fun hc => by have := h6 k hc; omega⟩) hl hJl).mono fun e w' ⟨e1, hd⟩ => ?_
  exact ⟨e1, JAwq.step h1 h2 h3 h7 h8 h9 h6 hd hs⟩
theorem jaq_write (h : JAwq w0 w N j t q J) {A : Option Addr} {c : Nat} {recs : List (List UInt8)} (hP : ∀ w', Old w0 w N w' → PIs w' (.slice A recs.length c) recs) (hl : recs.length ≤ 1000) (hJl : J.rs.length ≤ 900000) (hs : (writeP J recs).2.seg = J.seg) :
    Calls Tryz.prog 32 #[.pointer (some ⟨j, 0, none⟩), .slice A recs.length c] w fun e w' => e = .returned (.int .i64 (writeP J recs).1) ∧ JAwq w0 w' w'.heap.size j t q (writeP J recs).2 := by
  obtain ⟨h1, h2, h3, h4, h7, h8, h9, T, sv, rv, xs, h5, h6⟩ := h
  refine (jwrite h5 (ok2_awk h1 h2 h3 (fun k hk => ⟨(h6 k hk).1, (h6 k hk).2.1⟩)) (fun w' ht => hP w' ⟨ht.size, fun k hk hor => ht.block k hk fun hc => by have := h6 k hc; omega⟩) hl hJl).mono fun e w' ⟨e1, hd⟩ => ?_
  exact ⟨e1, JAwq.step h1 h2 h3 h7 h8 h9 h6 hd hs⟩
theorem jaq_save (h : JAwq w0 w N j t q J) {A : Option Addr} {c : Nat} {st : List UInt8} (hP : ∀ w', Old w0 w N w' → BIs w' (.slice A st.length c) st) (hl : st.length ≤ 1000000) (hs : (saveP J st).2.seg = J.seg) :
    Calls Tryz.prog 34 #[.pointer (some ⟨j, 0, none⟩), .slice A st.length c] w fun e w' => e = .returned (.int .i64 (saveP J st).1) ∧ JAwq w0 w' w'.heap.size j t q (saveP J st).2 := by
  obtain ⟨h1, h2, h3, h4, h7, h8, h9, T, sv, rv, xs, h5, h6⟩ := h
  refine (jsave h5 (ok2_awk h1 h2 h3 (fun k hk => ⟨(h6 k hk).1, (h6 k hk).2.1⟩)) (fun w' ht => hP w' ⟨ht.size, fun k hk hor => ht.block k hk fun hc => by have := h6 k hc; omega⟩) hl).mono fun e w' ⟨e1, hd⟩ => ?_
  exact ⟨e1, JAwq.step h1 h2 h3 h7 h8 h9 h6 hd hs⟩
end
/-! some, first -/
def someB (ls : List (List UInt8)) : List (List UInt8) := (ls.take 4).map (·.take 60)
def firstB (ls : List (List UInt8)) : List UInt8 := ls.head?.getD []
/-- Values that read as bytes in the law's first world. -/
def OldB (w0 : World) (xs : List Value) (ls : List (List UInt8)) : Prop := xs.length = ls.length ∧ ∀ (i : Nat) (x : Value) (l : List UInt8), xs[i]? = some x → ls[i]? = some l → BIs w0 x l
/-- A slice of such values. -/
def OldP (w0 w : World) (v : Value) (ls : List (List UInt8)) : Prop := ∃ A cap, v = .slice A ls.length cap ∧ ls.length ≤ cap ∧ cap ≤ maxLen ∧ ∀ i l, ls[i]? = some l → ∃ (a : Addr) (x : Value), A = some a ∧ a.block < w.heap.size ∧ w.cell? (a.add i) = some x ∧ BIs w0 x l
theorem OldP.below {w0 w w' : World} {v : Value} {ls : List (List UInt8)} (h : OldP w0 w v ls) (hb : Below w.heap.size w w') : OldP w0 w' v ls := by
  obtain ⟨A, cap, e, h1, h2, h3⟩ := h
  refine ⟨A, cap, e, h1, h2, fun i l hi => ?_⟩
  obtain ⟨a, x, k1, k2, k3, k4⟩ := h3 i l hi
  exact ⟨a, x, k1, Nat.lt_of_lt_of_le k2 hb.size, (hb.cell (p := a.add i) (by rw [add_block]; exact k2)).trans k3, k4⟩
theorem PIs.old {w0 : World} {v : Value} {ls : List (List UInt8)} (h : PIs w0 v ls) : OldP w0 w0 v ls := h
theorem bis_old {w0 w' : World} {x : Value} {l : List UInt8} (h : BIs w0 x l) (hs : w0.heap.size ≤ w'.heap.size) (hk : ∀ k, k < w0.heap.size → w'.heap[k]? = w0.heap[k]?) : BIs w' x l := by
  obtain ⟨A, cap, e, h1, h2, h3⟩ := h
  refine ⟨A, cap, e, h1, h2, fun i b hi => ?_⟩
  obtain ⟨a, q1, q2, q3⟩ := h3 i b hi
  exact ⟨a, q1, Nat.lt_of_lt_of_le q2 hs, (World.cell?_of_block (a := a.add i) (by rw [add_block]; exact hk _ q2)).trans q3⟩
theorem pis_old {w0 w w' : World} {N base : Nat} {v : Value} {xs : List Value} {ls : List (List UInt8)} (hb : Below w0.heap.size w0 w) (ho : OwnS w base v xs) (hN : N ≤ base) (hx : OldB w0 xs ls) (h : Old w0 w N w') : PIs w' v ls := by
  have hv := (ho.vis.mono (G := fun k => N ≤ k) (fun k _ hk => Nat.le_trans hN hk)).keep h.1 (fun k hk hf => h.2 k hk (.inr hf))
  obtain ⟨A, cap, rfl, h1, h2, h3, h4⟩ := hv
  refine ⟨A, cap, by rw [hx.1], by rw [← hx.1]; exact h1, h2, fun i l hl => ?_⟩
  have hi : i < xs.length := by rw [hx.1]; exact (List.getElem?_eq_some_iff.1 hl).1
  obtain ⟨a, rfl, hc⟩ := h4 i _ (List.getElem?_eq_getElem hi)
  exact ⟨a, _, rfl, (h3 a rfl).2, hc, bis_old (hx.2 i _ l (List.getElem?_eq_getElem hi) hl) (Nat.le_trans hb.size h.1) (fun k hk => (h.2 k (Nat.lt_of_lt_of_le hk hb.size) (.inl hk)).trans (hb.block k hk))⟩
theorem someB_len (ls : List (List UInt8)) : (someB ls).length ≤ 4 := by unfold someB; rw [List.length_map, List.length_take]; omega
theorem someB_le (ls : List (List UInt8)) : ∀ l ∈ someB ls, l.length ≤ 60 := by
  intro l hl
  unfold someB at hl
  obtain ⟨m, _, rfl⟩ := List.mem_map.1 hl
  rw [List.length_take]
  omega
def SomeP (w0 w : World) (ls : List (List UInt8)) (e : Ending) (w' : World) : Prop := ∃ v xs, e = .returned v ∧ OwnS w' w.heap.size v xs ∧ OldB w0 xs (someB ls) ∧ Below w.heap.size w w'
set_option maxRecDepth 100000 in
set_option maxHeartbeats 2000000 in
theorem some_any {w0 w : World} {v : Value} {ls : List (List UInt8)} (h : OldP w0 w v ls) : Calls Tryz.prog 20 #[v] w (SomeP w0 w ls) := by
  have HP := Lib.hid h
  obtain ⟨A, cap, rfl, h1, h2, h3⟩ := h
  unfold maxLen at h2
  clear h3
  go_enter Tryz.func20, Tryz.ntmps20
  go_wp2_with fail
  go_loopw [3, 8] (fun o i wr => ∃ (k : Nat) (xs : List Value), k ≤ ls.length ∧ k ≤ 4 ∧ i = .int .i64 k ∧ OwnS wr w.heap.size o xs ∧ OldB w0 xs (someB (ls.take k)) ∧ Below w.heap.size w wr) (fun _ i _ => ls.length - (intOf i).toNat)
  case atStart => exact ⟨0, [], by omega, by omega, rfl, .inl ⟨rfl, rfl⟩, ⟨rfl, fun i x l hx => by simp at hx⟩, Below.refl _ _⟩
  case round =>
    obtain ⟨k, xs, hk, hk4, rfl, hown, hold, hb⟩ := hrel
    have HOW := Lib.hid hown
    have HOL := Lib.hid hold
    have HB := Lib.hid hb
    have HK := Lib.hid hk
    have HK4 := Lib.hid hk4
    clear hown hold hb
    by_cases hlt : k < ls.length
    · obtain ⟨A', c', e', _, _, h3'⟩ := HP.out.below HB.out
      injection e' with e' e2 e3
      subst e'
      have hlk : ls[k]? = some ls[k] := List.getElem?_eq_getElem hlt
      have HLK := Lib.hid hlk
      obtain ⟨a, x, rfl, hab, hc, hbx⟩ := h3' k _ hlk
      generalize ls[k] = l at *
      have HBX := Lib.hid hbx
      obtain ⟨Ax, cx, rfl, g1, g2, _⟩ := hbx
      have HLT := Lib.hid hlt
      have l1 : (k : Int) < (ls.length : Int) := by omega
      clear hlk h3' e2 e3 hk
      by_cases h4 : k = 4
      · have l2 : (4 : Int) ≤ (k : Int) := by omega
        have H4 := Lib.hid h4
        clear h4
        go_wp2_with fail
        go_ret
        refine ⟨_, xs, rfl, HOW.out, ?_, HB.out⟩
        have := HOL.out
        rw [H4.out] at this
        unfold someB at this ⊢
        rwa [List.take_take, Nat.min_self] at this
      · have l2 : ¬ (4 : Int) ≤ (k : Int) := by omega
        have hsn : someB (ls.take (k + 1)) = someB (ls.take k) ++ [l.take 60] := by
          unfold someB
          rw [List.take_take, List.take_take, Nat.min_eq_right (by omega), Nat.min_eq_right (by omega), List.take_add_one, HLK.out]
          simp
        have HSN := Lib.hid hsn
        have HK5 : Hid (k + 1 ≤ 4) := Lib.hid (by omega)
        have app : ∀ (m : List UInt8) (mv : Value), BIs w0 mv m → l.take 60 = m → OldB w0 (xs ++ [mv]) (someB (ls.take (k + 1))) := fun m mv hm he => by
          rw [hsn, he]
          refine ⟨by simp [HOL.out.1], fun i y z hy hz => ?_⟩
          by_cases hi : i < xs.length
          · rw [List.getElem?_append_left hi] at hy
            rw [List.getElem?_append_left (by rw [← HOL.out.1]; exact hi)] at hz
            exact HOL.out.2 i y z hy hz
          · rw [List.getElem?_append_right (by omega)] at hy
            rw [List.getElem?_append_right (by rw [← HOL.out.1]; omega), ← HOL.out.1] at hz
            have h0 : i - xs.length = 0 := by
              rcases Nat.eq_zero_or_pos (i - xs.length) with h | h
              · exact h
              · rw [List.getElem?_eq_none (by simp; omega)] at hy; cases hy
            rw [h0] at hy hz
            obtain rfl : mv = y := by simpa using hy
            obtain rfl : m = z := by simpa using hz
            exact hm
        have APP := Lib.hid app
        have hxl : xs.length ≤ 4 := by rw [HOL.out.1]; exact someB_len _
        have HXL := Lib.hid hxl
        clear hsn app hxl h4
        by_cases h60 : 60 < l.length
        · have l3 : (60 : Int) < (l.length : Int) := by omega
          have hcx : 60 ≤ cx := by omega
          have hbt : BIs w0 (.slice Ax 60 cx) (l.take 60) := by
            have := bis_upto HBX.out 60 (by omega)
            exact this
          have HBT := Lib.hid hbt
          have hA := Below.new (w := wr) (.cells #[.slice Ax 60 cx] 32)
          have HO3 := Lib.hid (HOW.out.below hA)
          have HB3 := Lib.hid (HB.out.trans (hA.mono HB.out.size))
          have src : Hid (Src Tryz.prog 1 42 (.slice (some ⟨wr.heap.size, 0, none⟩) 1 1) [Value.slice Ax 60 cx].length [.slice Ax 60 cx] (wr.alloc (.cells #[.slice Ax 60 cx] 32))) :=
            Src.ofSlice _ Tryz.underlying42 ⟨wr.heap.size, 0, none⟩ 1 1 [.slice Ax 60 cx] rfl (one_new _ _ rfl _ _) (by simp [Value.oneCell'])
          clear hA hbt h60
          go_wp2_with (at_builtin; refine wpList_append_vals _ rfl _ _ 42 rfl w.heap.size xs [.slice Ax 60 cx] _ _ rfl rfl HO3.out src.out ?_ HB3.out.size ?_)
          · have := HXL.out; simp; omega
          intro v' w' hown' hgrow hblk
          have HOF := Lib.hid hown'
          have HBG := Lib.hid (HB3.out.grown hgrow HB3.out.size (fun k hk => (HO3.out.lt k hk).1))
          clear hown' hgrow hblk hc
          go_wp2_with fail
          go_roundw
          case rel => exact ⟨k + 1, _, HLT.out, HK5.out, by go_num, HOF.out, APP.out _ _ HBT.out rfl, HBG.out⟩
          case measure => simp [intOf]; omega
        · have l3 : ¬ (60 : Int) < (l.length : Int) := by omega
          have ht : l.take 60 = l := List.take_of_length_le (by omega)
          have HT := Lib.hid ht
          have hA := Below.new (w := wr) (.cells #[.slice Ax l.length cx] 32)
          have HO3 := Lib.hid (HOW.out.below hA)
          have HB3 := Lib.hid (HB.out.trans (hA.mono HB.out.size))
          have src : Hid (Src Tryz.prog 1 42 (.slice (some ⟨wr.heap.size, 0, none⟩) 1 1) [Value.slice Ax l.length cx].length [.slice Ax l.length cx] (wr.alloc (.cells #[.slice Ax l.length cx] 32))) :=
            Src.ofSlice _ Tryz.underlying42 ⟨wr.heap.size, 0, none⟩ 1 1 [.slice Ax l.length cx] rfl (one_new _ _ rfl _ _) (by simp [Value.oneCell'])
          clear hA ht h60
          go_wp2_with (at_builtin; refine wpList_append_vals _ rfl _ _ 42 rfl w.heap.size xs [.slice Ax l.length cx] _ _ rfl rfl HO3.out src.out ?_ HB3.out.size ?_)
          · have := HXL.out; simp; omega
          intro v' w' hown' hgrow hblk
          have HOF := Lib.hid hown'
          have HBG := Lib.hid (HB3.out.grown hgrow HB3.out.size (fun k hk => (HO3.out.lt k hk).1))
          clear hown' hgrow hblk hc
          go_wp2_with fail
          go_roundw
          case rel => exact ⟨k + 1, _, HLT.out, HK5.out, by go_num, HOF.out, APP.out _ _ HBX.out HT.out, HBG.out⟩
          case measure => simp [intOf]; omega
    · obtain rfl : k = ls.length := by omega
      go_wp2_with fail
      go_ret
      have := HOL.out
      rw [List.take_length] at this
      exact ⟨_, xs, rfl, HOW.out, this, HB.out⟩
end Go.Proofs.YtnegnokielmgkaaGreatDoor

namespace Go.Proofs.YtnegnokielmgkaaGreatDoor
open Go.RowKit

theorem sized_cases (s : Int) : ∃ n : Nat, 16 ≤ n ∧ n ≤ 115 ∧ ((s.tmod 100 < 0 ∧ (n : Int) = -(s.tmod 100) + 16) ∨ (¬ s.tmod 100 < 0 ∧ (n : Int) = s.tmod 100 + 16)) := by
  have h1 : s.tmod 100 < 100 := Int.tmod_lt_of_pos s (by omega)
  have h2 : -100 < s.tmod 100 := by
    have := Int.lt_tmod_of_pos s (b := 100) (by omega)
    omega
  by_cases h : s.tmod 100 < 0
  · exact ⟨(-(s.tmod 100) + 16).toNat, by omega, by omega, .inl ⟨h, by omega⟩⟩
  · exact ⟨(s.tmod 100 + 16).toNat, by omega, by omega, .inr ⟨h, by omega⟩⟩
set_option maxRecDepth 100000 in
theorem sized_any (w : World) (s : Int) : Calls Tryz.prog 29 #[.int .i64 s] w fun e w' => ∃ n : Nat, 16 ≤ n ∧ n ≤ 115 ∧ e = .returned (.int .i64 n) ∧ w = w' := by
  obtain ⟨n, h1, h2, h3⟩ := sized_cases s
  rcases h3 with ⟨h3, h4⟩ | ⟨h3, h4⟩
  · have e1 : IntKind.i64.wrap (-(s.tmod 100)) = -(s.tmod 100) := IntWalk.i64_in _ (by omega)
    have e2 : IntKind.i64.wrap (-(s.tmod 100) + 16) = (n : Int) := by rw [h4]; exact IntWalk.i64_in _ (by omega)
    have H := Lib.hid (And.intro h1 h2)
    clear h4
    go_enter Tryz.func29, Tryz.ntmps29
    go_wp2_with fail
    go_ret
    exact ⟨n, H.out.1, H.out.2, by simp_all, rfl⟩
  · have e2 : IntKind.i64.wrap (s.tmod 100 + 16) = (n : Int) := by rw [h4]; exact IntWalk.i64_in _ (by omega)
    have H := Lib.hid (And.intro h1 h2)
    clear h4
    go_enter Tryz.func29, Tryz.ntmps29
    go_wp2_with fail
    go_ret
    exact ⟨n, H.out.1, H.out.2, by simp_all, rfl⟩
/-- The first of a row of one's own. -/
def headV (xs : List Value) : Value := xs.head?.getD (.slice none 0 0)
set_option maxRecDepth 100000 in
theorem jfirst_any {w : World} {base : Nat} {v : Value} {xs : List Value} (h : OwnS w base v xs) (hc : xs.length ≤ 1000) : Calls Tryz.prog 19 #[v] w fun e w' => e = .returned (headV xs) ∧ w = w' := by
  cases xs with
  | nil =>
    obtain ⟨A, c, rfl, _⟩ := h.vis
    go_enter Tryz.func19, Tryz.ntmps19
    go_wp2_with fail
    go_ret
    exact ⟨rfl, rfl⟩
  | cons x xs =>
    obtain ⟨A, c, rfl, h1, h2, h3, h4⟩ := h.vis
    obtain ⟨a, rfl, hcell⟩ := h4 0 _ rfl
    rw [List.length_cons] at *
    generalize hk : xs.length + 1 = k at *
    have l0 : ¬ (k : Int) = 0 := by omega
    have l1 : ((k : Int) == 0) = false := by rw [beq_eq_false_iff_ne]; exact l0
    have l2 : (0 : Int) < (k : Int) := by omega
    have l3 : 0 < k := by omega
    have hz : w.cell? a = some x := by
      have := hcell
      rwa [show a.add 0 = a from by simp [Addr.add]] at this
    clear h h3 h4 hk
    go_enter Tryz.func19, Tryz.ntmps19
    go_wp2_with fail
    go_ret
    exact ⟨rfl, rfl⟩
theorem head_old {w0 : World} {xs : List Value} {ls : List (List UInt8)} (h : OldB w0 xs ls) : BIs w0 (headV xs) (firstB ls) := by
  cases xs with
  | nil =>
    cases ls with
    | nil => exact ⟨none, 0, rfl, Nat.le_refl _, by unfold maxLen; omega, fun i b hi => by simp [firstB] at hi⟩
    | cons l ls => exact absurd h.1 (by simp)
  | cons x xs =>
    cases ls with
    | nil => exact absurd h.1 (by simp)
    | cons l ls => exact h.2 0 x l rfl rfl
theorem firstB_le (ls : List (List UInt8)) : (firstB (someB ls)).length ≤ 60 := by
  unfold firstB
  cases h : (someB ls).head? with
  | none => simp
  | some l => exact someB_le ls l (List.mem_of_mem_head? h)
theorem frames_len : ∀ (ls : List (List UInt8)), (∀ l ∈ ls, l.length ≤ 60) → (framesB 0 ls).flatten.length ≤ ls.length * 68
  | [], _ => by simp [framesB]
  | l :: ls, h => by
    have h1 := frames_len ls (fun x hx => h x (List.mem_cons_of_mem _ hx))
    have h2 := h l (List.mem_cons_self ..)
    have h3 : framesB 0 (l :: ls) = frameB (0 :: l) :: framesB 0 ls := rfl
    rw [h3, List.flatten_cons, List.length_append, frameB_len, List.length_cons, List.length_cons]
    omega
theorem frames_some (ls : List (List UInt8)) : (framesB 0 (someB ls)).flatten.length ≤ 272 := by
  have h1 := frames_len (someB ls) (someB_le ls)
  have h2 := someB_len ls
  omega
end Go.Proofs.YtnegnokielmgkaaGreatDoor
