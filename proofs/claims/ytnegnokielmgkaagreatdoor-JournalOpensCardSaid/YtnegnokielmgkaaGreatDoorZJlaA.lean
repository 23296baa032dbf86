/- JournalLasts in plain words: frames cut anywhere, and what an opened journal has of a tape whose last segment may be cut. JournalLasts in plain words: what is opened behind a crash. JournalLasts in plain words: a tape with power for some changes; records that are appended and synced. JournalLasts in plain words: what an append, a sync, a write leave. JournalLasts in plain words: Append, Sync and Write while there is power, and without. JournalLasts in plain words: Save while there is power, and without. JournalLasts in plain words: a tape of room 20000 never has more. -/
import Derived.Test.YtnegnokielmgkaaGreatDoorZJsaA
set_option linter.unusedSimpArgs false
set_option linter.unusedVariables false
set_option linter.unnecessarySimpa false
namespace Go.Proofs.YtnegnokielmgkaaGreatDoor

theorem frmB_cons {m : List UInt8} (hm : m.length ≤ 16384) (b : List UInt8) : frmB (frameB m ++ b) = m :: frmB b := by
  obtain ⟨h1, h2⟩ := frmB_is b
  have hd : ∀ n, (frameB m ++ b).drop (m.length + 7 + n) = b.drop n := fun n => by rw [← List.drop_drop, ← frameB_len m, List.drop_left]
  refine frmB_uniq ⟨?_, fun x hx => ?_⟩ ?_
  · rw [frs_cons', endP_cons', hd, List.append_assoc, ← h1.eq]
  · rcases List.mem_cons.1 hx with rfl | hx
    · exact hm
    · exact h1.le x hx
  · rw [endP_cons', hd]
    exact h2
theorem frmB_short {m : List UInt8} (hm : m.length ≤ 16384) {k : Nat} (hk : k < m.length + 7) : frmB ((frameB m).take k) = [] :=
  frmB_uniq ⟨by simp [frs, endP], fun x hx => by cases hx⟩ (by show firstP (((frameB m).take k).drop 0) = 0; rw [List.drop_zero]; exact firstP_cut hm hk)
/-- Frames that are cut: those that are whole are told. -/
theorem frmB_cut : ∀ (ms : List (List UInt8)) (c : Nat), (∀ m ∈ ms, m.length ≤ 16384) → ∃ k, k ≤ ms.length ∧ frmB ((frs ms).take c) = ms.take k ∧ ∀ j, j ≤ ms.length → endP (ms.take j) ≤ c → j ≤ k
  | [], c, _ => ⟨0, Nat.le_refl _, by simp [frs, frmB_nil], fun j hj _ => hj⟩
  | m :: ms, c, h => by
    have hm := h m (List.mem_cons_self ..)
    by_cases hc : c < m.length + 7
    · refine ⟨0, Nat.zero_le _, ?_, fun j hj hle => ?_⟩
      · rw [frs_cons', List.take_append_of_le_length (by rw [frameB_len]; omega), frmB_short hm hc]
        rfl
      · cases j with
        | zero => exact Nat.le_refl _
        | succ j => rw [List.take_succ_cons, endP_cons'] at hle; omega
    · obtain ⟨k, h1, h2, h3⟩ := frmB_cut ms (c - (m.length + 7)) (fun x hx => h x (List.mem_cons_of_mem _ hx))
      refine ⟨k + 1, by rw [List.length_cons]; omega, ?_, fun j hj hle => ?_⟩
      · rw [frs_cons', List.take_append, frameB_len, List.take_of_length_le (by rw [frameB_len]; omega), frmB_cons hm, h2, List.take_succ_cons]
      · cases j with
        | zero => exact Nat.zero_le _
        | succ j =>
          rw [List.take_succ_cons, endP_cons'] at hle
          rw [List.length_cons] at hj
          have := h3 j (by omega) (by omega)
          omega
/-- A segment of frames, one at least, and nothing else. -/
def wholeS (x : Sg) : Prop := frmB x.2.1 ≠ [] ∧ endP (frmB x.2.1) = x.2.1.length
theorem wholeS_of {ms : List (List UInt8)} (h : ∀ m ∈ ms, m.length ≤ 16384) (h0 : ms ≠ []) (n : Int) (s : Nat) : wholeS (n, frs ms, s) := by
  unfold wholeS
  show frmB (frs ms) ≠ [] ∧ endP (frmB (frs ms)) = (frs ms).length
  rw [frmB_frs h]
  exact ⟨h0, rfl⟩
theorem wholeS.len {x : Sg} (h : wholeS x) : 0 < x.2.1.length := by
  obtain ⟨h1, h2⟩ := h
  rw [← h2]
  cases hf : frmB x.2.1 with
  | nil => exact absurd hf h1
  | cons m l => rw [endP_cons']; omega
/-- Numbers as the tape bears them. -/
def Named (A : List Sg) : Prop := ∀ x ∈ A, 0 ≤ x.1 ∧ x.1 ≤ 1048576
theorem trim_last {A : List Sg} {s : Int} {b : List UInt8} {k n : Nat} {room : Nat} (hA : Rises A) (h0 : 0 ≤ s) (h1 : s ≤ 1048576) (hs : ∀ y ∈ A, y.1 < s) (hn : n ≤ b.length) : doS ⟨room, A ++ [(s, b, k)], -1, false⟩ 2 s (n : Int) [] = (0, ⟨room, A ++ [(s, b.take n, min k n)], -1, false⟩) := by
  have hl : lookS (A ++ [(s, b, k)]) s = some (b, k) := lookS_last (x := (s, b, k)) hs
  have hF : Fine ⟨room, A ++ [(s, b, k)], -1, false⟩ 2 s (n : Int) [] := ⟨nameP_of h0 h1, rfl, (fun _ => by show lookS (A ++ [(s, b, k)]) s ≠ none; rw [hl]; simp), (fun c => by cases c), (fun _ => ⟨by omega, by show (n : Int) ≤ (((lookS (A ++ [(s, b, k)]) s).getD ([], 0)).1.length : Int); rw [hl]; show (n : Int) ≤ (b.length : Int); omega⟩)⟩
  unfold doS
  rw [doP_trim hF (by show (-1 : Int) ≠ 0; omega) (y := (b, k)) hl, burnP_of rfl]
  have e : riseA (putS (A ++ [(s, b, k)]) (s, b.take n, min k n)) = A ++ [(s, b.take n, min k n)] := by
    refine riseA_uniq (rises_append hA hs) ?_
    unfold putS
    show ((s, b.take n, min k n) :: dropS (A ++ [(s, b, k)]) s).Perm _
    have : dropS (A ++ [(s, b, k)]) s = A := by
      have := dropS_none (A := A) (n := s) (fun y hy => by have := hs y hy; omega)
      unfold dropS at *
      rw [List.filter_append, this, List.filter_cons, if_neg (by simp), List.filter_nil, List.append_nil]
    rw [this]
    exact (List.perm_append_singleton _ _).symm
  show (_, rise ⟨room, putS (A ++ [(s, b, k)]) (s, b.take (n : Int).toNat, min k (n : Int).toNat), -1, false⟩) = _
  rw [Int.toNat_natCast]
  unfold rise
  rw [e]
theorem drop_last1 {A : List Sg} {x : Sg} {room : Nat} (hA : Rises A) (h0 : 0 ≤ x.1) (h1 : x.1 ≤ 1048576) (hs : ∀ y ∈ A, y.1 < x.1) : doS ⟨room, A ++ [x], -1, false⟩ 3 x.1 0 [] = (0, ⟨room, A, -1, false⟩) := by
  have hl : lookS (A ++ [x]) x.1 = some x.2 := lookS_last hs
  have hF : Fine ⟨room, A ++ [x], -1, false⟩ 3 x.1 0 [] := ⟨nameP_of h0 h1, rfl, (fun _ => by show lookS (A ++ [x]) x.1 ≠ none; rw [hl]; simp), (fun c => by cases c), (fun c => by cases c)⟩
  unfold doS
  rw [doP_drop hF (by show (-1 : Int) ≠ 0; omega), burnP_of rfl]
  have e : riseA (dropS (A ++ [x]) x.1) = A := by
    refine riseA_uniq hA ?_
    have := dropS_none (A := A) (n := x.1) (fun z hz => by have := hs z hz; omega)
    unfold dropS at *
    rw [List.filter_append, this, List.filter_cons, if_neg (by simp), List.filter_nil, List.append_nil]
  show (_, rise ⟨room, dropS (A ++ [x]) x.1, -1, false⟩) = _
  unfold rise
  rw [e]
theorem rises_split {A : List Sg} {x : Sg} (h : Rises (A ++ [x])) : Rises A ∧ ∀ y ∈ A, y.1 < x.1 := by
  unfold Rises at *
  rw [List.pairwise_append] at h
  exact ⟨h.1, fun y hy => h.2.2 y hy x (List.mem_singleton.2 rfl)⟩
/-- No segment but the first one begins with a checkpoint. -/
def Later (A : List Sg) : Prop := ∀ (i : Nat) (x : Sg), A[i + 1]? = some x → checkB (frmB x.2.1) = none
theorem beginP_zero {A : List Sg} (h : Later A) : ∀ (n : Nat), n ≤ A.length → beginP A n = 0
  | 0, _ => rfl
  | 1, _ => rfl
  | i + 2, hn => by
    have hx : A[i + 1]? = some A[i + 1] := List.getElem?_eq_getElem (by omega)
    rw [beginP_two hx, h i _ hx]
    simp
    exact beginP_zero h (i + 1) (by omega)
theorem mend_whole {A : List Sg} {x : Sg} (hx : wholeS x) (p : Pl) {B : List Sg} (h : A[B.length]? = some x) : mendP A (B.length + 1) p = (0, p, B.length + 1) := by
  rw [mendP_some h hx.1]
  unfold trimP
  rw [if_pos hx.2]
theorem drops_none {A : List Sg} {p : Pl} {x : Sg} (h : A[0]? = some x) (hp : numsOf p.A = numsOf A) : dropsP (headN A 0) (numsOf p.A) p = (0, p) := by
  cases A with
  | nil => cases h
  | cons y A =>
    rw [hp]
    show dropsP (headN (y :: A) 0) (y.1 :: numsOf A) p = _
    rw [dropsP_cons, if_pos (by unfold headN; simp)]
/-- A tape of whole segments. -/
theorem load_whole {A : List Sg} {room seg : Nat} (hA : ∀ x ∈ A, wholeS x) (hl : Later A) : ∃ p2, loadP ⟨room, A, -1, false⟩ seg = (0, ⟨p2, seg, headS A 0, recsOf A⟩) := by
  rcases List.eq_nil_or_concat A with rfl | ⟨B, x, rfl⟩
  · exact ⟨_, loadP_none rfl⟩
  · rw [List.concat_eq_append] at *
    have hx : (B ++ [x])[B.length]? = some x := by simp
    have hm : mendP (B ++ [x]) (B ++ [x]).length ⟨room, B ++ [x], -1, false⟩ = (0, ⟨room, B ++ [x], -1, false⟩, B.length + 1) := by
      rw [List.length_append]
      exact mend_whole (hA x (by simp)) _ hx
    have hb := beginP_zero hl (B.length + 1) (by simp)
    have h0 : ∃ y, (B ++ [x])[0]? = some y := ⟨_, List.getElem?_eq_getElem (by simp)⟩
    obtain ⟨y, hy⟩ := h0
    have := loadP_ok (p := ⟨room, B ++ [x], -1, false⟩) (seg := seg) hm (by omega) (by rw [hb]; exact drops_none hy rfl)
    rw [hb] at this
    replace this : loadP ⟨room, B ++ [x], -1, false⟩ seg = (0, ⟨_, seg, headS (B ++ [x]) 0, recsOf (((B ++ [x]).take (B.length + 1)).drop 0)⟩) := this
    rw [List.drop_zero, List.take_of_length_le (by simp)] at this
    exact ⟨_, this⟩
/-- Behind whole segments one that begins with a frame. -/
theorem load_part {A : List Sg} {x : Sg} {room seg : Nat} (hr : Rises (A ++ [x])) (hn : Named (A ++ [x])) (hf : frmB x.2.1 ≠ []) (hl : Later (A ++ [x])) : ∃ p2, loadP ⟨room, A ++ [x], -1, false⟩ seg = (0, ⟨p2, seg, headS (A ++ [x]) 0, recsOf (A ++ [x])⟩) := by
  obtain ⟨hr1, hr2⟩ := rises_split hr
  obtain ⟨hn1, hn2⟩ := hn x (by simp)
  have hx : (A ++ [x])[A.length]? = some x := by simp
  obtain ⟨xn, xb, xs⟩ := x
  have hE : endP (frmB xb) ≤ xb.length := by
    have := congrArg List.length (frmB_is xb).1.eq
    rw [List.length_append] at this
    show (frs (frmB xb)).length ≤ _
    omega
  have hm : ∃ p2, mendP (A ++ [(xn, xb, xs)]) (A ++ [(xn, xb, xs)]).length ⟨room, A ++ [(xn, xb, xs)], -1, false⟩ = (0, p2, A.length + 1) ∧ numsOf p2.A = numsOf (A ++ [(xn, xb, xs)]) := by
    rw [List.length_append]
    show ∃ p2, mendP _ (A.length + 1) _ = _ ∧ _
    rw [mendP_some hx hf]
    unfold trimP
    by_cases he : endP (frmB xb) = xb.length
    · rw [if_pos he]
      exact ⟨_, rfl, rfl⟩
    · rw [if_neg he]
      show ∃ p2, ((doS _ 2 xn (endP (frmB xb) : Nat) []).1, _, _) = _ ∧ _
      rw [trim_last hr1 hn1 hn2 hr2 hE]
      exact ⟨_, rfl, by simp [numsOf]⟩
  obtain ⟨p2, hm, hp2⟩ := hm
  have hb := beginP_zero hl (A.length + 1) (by simp)
  obtain ⟨y, hy⟩ : ∃ y, (A ++ [(xn, xb, xs)])[0]? = some y := ⟨_, List.getElem?_eq_getElem (by simp)⟩
  have := loadP_ok (p := ⟨room, A ++ [(xn, xb, xs)], -1, false⟩) (seg := seg) hm (by omega) (by rw [hb]; exact drops_none hy hp2)
  rw [hb] at this
  replace this : loadP ⟨room, A ++ [(xn, xb, xs)], -1, false⟩ seg = (0, ⟨_, seg, headS (A ++ [(xn, xb, xs)]) 0, recsOf (((A ++ [(xn, xb, xs)]).take (A.length + 1)).drop 0)⟩) := this
  rw [List.drop_zero, List.take_of_length_le (by simp)] at this
  exact ⟨_, this⟩
/-- Behind whole segments one without a frame. -/
theorem load_bad {A : List Sg} {x : Sg} {room seg : Nat} (hr : Rises (A ++ [x])) (hn : Named (A ++ [x])) (hA : ∀ y ∈ A, wholeS y) (hf : frmB x.2.1 = []) (hl : Later A) : ∃ p2, loadP ⟨room, A ++ [x], -1, false⟩ seg = (0, ⟨p2, seg, headS A 0, recsOf A⟩) := by
  obtain ⟨hr1, hr2⟩ := rises_split hr
  obtain ⟨hn1, hn2⟩ := hn x (by simp)
  have hx : (A ++ [x])[A.length]? = some x := by simp
  have hd := drop_last1 (room := room) hr1 hn1 hn2 hr2
  have hm0 : mendP (A ++ [x]) (A ++ [x]).length ⟨room, A ++ [x], -1, false⟩ = mendP (A ++ [x]) A.length ⟨room, A, -1, false⟩ := by
    rw [List.length_append]
    exact mendP_on hx hf hd
  rcases List.eq_nil_or_concat A with rfl | ⟨B, z, rfl⟩
  · exact ⟨_, loadP_none (hm0.trans rfl)⟩
  · rw [List.concat_eq_append] at *
    have hz : (B ++ [z] ++ [x])[B.length]? = some z := by simp
    have hm : mendP (B ++ [z] ++ [x]) (B ++ [z] ++ [x]).length ⟨room, B ++ [z] ++ [x], -1, false⟩ = (0, ⟨room, B ++ [z], -1, false⟩, B.length + 1) := by
      rw [hm0, List.length_append]
      exact mend_whole (hA z (by simp)) _ hz
    have hl2 : ∀ n, n ≤ B.length + 1 → beginP (B ++ [z] ++ [x]) n = 0 := fun n => by
      induction n with
      | zero => intro _; rfl
      | succ i ih =>
        intro hi
        cases i with
        | zero => rfl
        | succ i =>
          have hy : (B ++ [z] ++ [x])[i + 1]? = some ((B ++ [z])[i + 1]'(by simp; omega)) := by
            rw [List.getElem?_append_left (by simp; omega)]
            exact List.getElem?_eq_getElem _
          have hy2 : (B ++ [z])[i + 1]? = some ((B ++ [z])[i + 1]'(by simp; omega)) := List.getElem?_eq_getElem _
          rw [beginP_two hy, hl i _ hy2, if_neg (by simp)]
          exact ih (by omega)
    have hb := hl2 (B.length + 1) (Nat.le_refl _)
    have e0 : (B ++ [z] ++ [x])[0]? = (B ++ [z])[0]? := List.getElem?_append_left (by simp)
    have hh : headN (B ++ [z] ++ [x]) 0 = headN (B ++ [z]) 0 := by unfold headN; rw [e0]
    have hs : headS (B ++ [z] ++ [x]) 0 = headS (B ++ [z]) 0 := by unfold headS; rw [e0]
    obtain ⟨y, hy⟩ : ∃ y, (B ++ [z])[0]? = some y := ⟨_, List.getElem?_eq_getElem (by simp)⟩
    have := loadP_ok (p := ⟨room, B ++ [z] ++ [x], -1, false⟩) (seg := seg) hm (by omega) (by rw [hb, hh]; exact drops_none hy rfl)
    rw [hb, hs] at this
    replace this : loadP ⟨room, B ++ [z] ++ [x], -1, false⟩ seg = (0, ⟨_, seg, headS (B ++ [z]) 0, recsOf (((B ++ [z] ++ [x]).take (B.length + 1)).drop 0)⟩) := this
    rw [List.drop_zero, List.take_append_of_le_length (by simp), List.take_of_length_le (by simp)] at this
    exact ⟨_, this⟩
/-- Behind others a whole one that begins with a checkpoint. -/
theorem load_check {A : List Sg} {x : Sg} {room seg : Nat} {sv : List UInt8} (hr : Rises (A ++ [x])) (hn : Named (A ++ [x])) (hw : wholeS x) (hc : checkB (frmB x.2.1) = some sv) : ∃ p2, loadP ⟨room, A ++ [x], -1, false⟩ seg = (0, ⟨p2, seg, sv, recsOf [x]⟩) := by
  obtain ⟨hr1, hr2⟩ := rises_split hr
  have hx : (A ++ [x])[A.length]? = some x := by simp
  have hm : mendP (A ++ [x]) (A ++ [x]).length ⟨room, A ++ [x], -1, false⟩ = (0, ⟨room, A ++ [x], -1, false⟩, A.length + 1) := by
    rw [List.length_append]
    exact mend_whole hw _ hx
  have hb : beginP (A ++ [x]) (A.length + 1) = A.length := by
    cases hA : A.length with
    | zero => rfl
    | succ i =>
      rw [hA] at hx
      rw [beginP_two hx, hc]
      rfl
  have hh : headN (A ++ [x]) A.length = x.1 := by unfold headN; rw [hx]; rfl
  have hs : headS (A ++ [x]) A.length = sv := by unfold headS; rw [hx]; show ((some (checkB (frmB x.2.1))).getD none).getD [] = sv; rw [hc]; rfl
  have hd := drops_last (x := x) (room := room) A hr (fun y hy => ⟨(hn y (by simp [hy])).1, (hn y (by simp [hy])).2, hr2 y hy⟩)
  have := loadP_ok (p := ⟨room, A ++ [x], -1, false⟩) (seg := seg) hm (by omega) (by rw [hb, hh]; exact hd)
  rw [hb, hs] at this
  replace this : loadP ⟨room, A ++ [x], -1, false⟩ seg = (0, ⟨_, seg, sv, recsOf (((A ++ [x]).take (A.length + 1)).drop A.length)⟩) := this
  rw [List.take_of_length_le (by simp), List.drop_left] at this
  exact ⟨_, this⟩
end Go.Proofs.YtnegnokielmgkaaGreatDoor

namespace Go.Proofs.YtnegnokielmgkaaGreatDoor

/-- A tape as a journal leaves it: whole segments, all but the last one synced; the state, the records, and those that are sure to last. -/
structure Inv (A : List Sg) (st : List UInt8) (all sure : List (List UInt8)) : Prop where
  rises : Rises A
  named : Named A
  whole : ∀ x ∈ A, wholeS x
  later : Later A
  le : ∀ x ∈ A, x.2.2 ≤ x.2.1.length
  sync : ∀ x ∈ A.dropLast, x.2.2 = x.2.1.length
  state : headS A 0 = st
  recs : recsOf A = all
  none : A = [] → sure = []
  sure : ∀ (B : List Sg) (x : Sg), A = B ++ [x] → ∃ k, k ≤ (frmB x.2.1).length ∧ endP ((frmB x.2.1).take k) ≤ x.2.2 ∧ sure <+: recsOf B ++ recsB ((frmB x.2.1).take k) ∧ (B = [] → checkB (frmB x.2.1) ≠ Option.none → 1 ≤ k)
theorem crI_prefix {A B : List Sg} (ks : List Int) : ∀ i, i ≤ A.length → crI (A ++ B) ks i = crI A ks i
  | 0, _ => rfl
  | i + 1, hi => by
    have h1 : A[i]? = some A[i] := List.getElem?_eq_getElem (by omega)
    have h2 : (A ++ B)[i]? = some A[i] := by rw [List.getElem?_append_left (by omega)]; exact h1
    rw [crI_succ ks h1, crI_succ ks h2, crI_prefix ks i (by omega)]
theorem crI_synced {A : List Sg} (ks : List Int) (h : ∀ x ∈ A, x.2.2 = x.2.1.length ∧ 0 < x.2.1.length) : ∀ i, i ≤ A.length → crI A ks i = A.take i
  | 0, _ => by rw [crI_zero, List.take_zero]
  | i + 1, hi => by
    have h1 : A[i]? = some A[i] := List.getElem?_eq_getElem (by omega)
    obtain ⟨e1, e2⟩ := h A[i] (List.getElem_mem _)
    have hl : lastS A[i] (ks[i]?.getD 0) = A[i].2.1.length := by unfold lastS; omega
    rw [crI_succ ks h1, crI_synced ks h i (by omega), keptS_some (by omega), hl, List.take_length, List.take_add_one, h1]
    congr 1
    show [(A[i].1, A[i].2.1, A[i].2.1.length)] = [A[i]]
    rw [← e1]
theorem recsOf_append (A B : List Sg) : recsOf (A ++ B) = recsOf A ++ recsOf B := by unfold recsOf; rw [List.flatMap_append]
theorem recsOf_one (x : Sg) : recsOf [x] = recsB (frmB x.2.1) := by unfold recsOf; simp
theorem recsB_take (l : List (List UInt8)) {a b : Nat} (h : a ≤ b) : recsB (l.take a) <+: recsB (l.take b) := by
  unfold recsB
  refine ⟨((l.take b).drop a).filterMap (saysB 0), ?_⟩
  rw [← List.filterMap_append]
  congr 1
  have h1 : l.take a = (l.take b).take a := by rw [List.take_take, Nat.min_eq_left h]
  rw [h1, List.take_append_drop]
theorem checkB_take (l : List (List UInt8)) {k : Nat} (h : 1 ≤ k) : checkB (l.take k) = checkB l := by
  cases l with
  | nil => simp
  | cons m l =>
    obtain ⟨j, rfl⟩ : ∃ j, k = j + 1 := ⟨k - 1, by omega⟩
    rfl
theorem endP_pos {l : List (List UInt8)} {k : Nat} (hk : k ≤ l.length) (h : endP (l.take k) = 0) : k = 0 := by
  cases k with
  | zero => rfl
  | succ k =>
    cases l with
    | nil => simp at hk
    | cons m l => rw [List.take_succ_cons, endP_cons'] at h; omega
/-- What is opened behind a crash. -/
def Opens (A : List Sg) (st : List UInt8) (lo hi : List (List UInt8)) : Prop := ∀ (room seg : Nat) (ks : List Int), ∃ p2 rs, loadP ⟨room, crI A ks A.length, -1, false⟩ seg = (0, ⟨p2, seg, st, rs⟩) ∧ lo <+: rs ∧ rs <+: hi
theorem Inv.opens {A : List Sg} {st : List UInt8} {all sure : List (List UInt8)} (h : Inv A st all sure) : Opens A st sure all := by
  intro room seg ks
  rcases List.eq_nil_or_concat A with rfl | ⟨B, x, rfl⟩
  · obtain ⟨p2, hp⟩ := load_whole (A := []) (room := room) (seg := seg) (fun x hx => by cases hx) (fun i x hx => by cases hx)
    have h1 : headS [] 0 = st := h.state
    have h2 := h.none rfl
    have h3 : recsOf [] = all := h.recs
    rw [h1, h3] at hp
    exact ⟨p2, all, hp, by rw [h2]; exact List.nil_prefix, List.prefix_refl _⟩
  · rw [List.concat_eq_append] at *
    obtain ⟨k, hk1, hk2, hk3, hk4⟩ := h.sure B x rfl
    have hw := h.whole x (by simp)
    have hB : ∀ y ∈ B, y.2.2 = y.2.1.length ∧ 0 < y.2.1.length := fun y hy => ⟨h.sync y (by rw [List.dropLast_concat]; exact hy), (h.whole y (by simp [hy])).len⟩
    have hBw : ∀ y ∈ B, wholeS y := fun y hy => h.whole y (by simp [hy])
    have hBl : Later B := fun i y hy => h.later i y (by rw [List.getElem?_append_left (List.getElem?_eq_some_iff.1 hy).1]; exact hy)
    have hx : (B ++ [x])[B.length]? = some x := by simp
    have hcr : crI (B ++ [x]) ks (B ++ [x]).length = B ++ keptS x (ks[B.length]?.getD 0) := by
      rw [List.length_append]
      show crI (B ++ [x]) ks (B.length + 1) = _
      rw [crI_succ ks hx, crI_prefix ks _ (Nat.le_refl _), crI_synced ks hB _ (Nat.le_refl _), List.take_length]
    have hr : recsOf (B ++ [x]) = all := h.recs
    rw [recsOf_append, recsOf_one] at hr
    have hst : headS (B ++ [x]) 0 = st := h.state
    -- where no frame of the last segment is left
    have none0 : k = 0 → headS B 0 = st ∧ sure <+: recsOf B := fun e => by
      subst e
      refine ⟨?_, by simpa [recsB] using hk3⟩
      cases B with
      | nil =>
        have hc : checkB (frmB x.2.1) = Option.none := Classical.byContradiction fun hc => by have := hk4 rfl hc; omega
        rw [← hst]
        unfold headS
        simp [hc]
      | cons y B => rw [← hst]; rfl
    rw [hcr]
    obtain ⟨hl1, hl2⟩ := lastS_le (h.le x (by simp)) (ks[B.length]?.getD 0)
    by_cases hc : lastS x (ks[B.length]?.getD 0) = 0
    · rw [keptS_none hc, List.append_nil]
      have hk0 : k = 0 := endP_pos hk1 (by omega)
      obtain ⟨g1, g2⟩ := none0 hk0
      obtain ⟨p2, hp⟩ := load_whole (A := B) (room := room) (seg := seg) hBw hBl
      rw [g1] at hp
      exact ⟨p2, _, hp, g2, by rw [← hr]; exact List.prefix_append _ _⟩
    · rw [keptS_some hc]
      generalize lastS x (ks[B.length]?.getD 0) = c at *
      have hfx : frs (frmB x.2.1) = x.2.1 := by
        have h1 := (frmB_is x.2.1).1.eq
        rw [hw.2, List.drop_length, List.append_nil] at h1
        exact h1.symm
      obtain ⟨j, hj1, hj2, hj3⟩ := frmB_cut (frmB x.2.1) c (frmB_is x.2.1).1.le
      rw [hfx] at hj2
      have hkj := hj3 k hk1 (by omega)
      have hr0 := h.rises
      have hn0 := h.named
      have hR : Rises (B ++ [(x.1, x.2.1.take c, c)]) := by
        obtain ⟨r1, r2⟩ := rises_split hr0
        exact rises_append r1 r2
      have hN : Named (B ++ [(x.1, x.2.1.take c, c)]) := fun y hy => by
        rcases List.mem_append.1 hy with hy | hy
        · exact hn0 y (by simp [hy])
        · rw [List.mem_singleton.1 hy]; exact hn0 x (by simp)
      by_cases hj0 : j = 0
      · have hk0 : k = 0 := by omega
        obtain ⟨g1, g2⟩ := none0 hk0
        obtain ⟨p2, hp⟩ := load_bad (room := room) (seg := seg) hR hN hBw (by show frmB (x.2.1.take c) = []; rw [hj2, hj0, List.take_zero]) hBl
        rw [g1] at hp
        exact ⟨p2, _, hp, g2, by rw [← hr]; exact List.prefix_append _ _⟩
      · have hne : frmB (x.2.1.take c) ≠ [] := by
          rw [hj2]
          intro e
          have h1 := congrArg List.length e
          rw [List.length_take, List.length_nil] at h1
          have := List.length_pos_iff.2 hw.1
          omega
        have hck : checkB (frmB (x.2.1.take c)) = checkB (frmB x.2.1) := by rw [hj2]; exact checkB_take _ (by omega)
        have hL : Later (B ++ [(x.1, x.2.1.take c, c)]) := fun i y hy => by
          by_cases hi : i + 1 < B.length
          · rw [List.getElem?_append_left hi] at hy
            exact hBl i y hy
          · have hi2 : i + 1 = B.length := by
              have := (List.getElem?_eq_some_iff.1 hy).1
              simp at this
              omega
            rw [hi2] at hy
            obtain rfl : (x.1, x.2.1.take c, c) = y := by simpa using hy
            show checkB (frmB (x.2.1.take c)) = Option.none
            rw [hck]
            exact h.later i x (by rw [hi2]; exact hx)
        obtain ⟨p2, hp⟩ := load_part (room := room) (seg := seg) hR hN hne hL
        have hS : headS (B ++ [(x.1, x.2.1.take c, c)]) 0 = st := by
          rw [← hst]
          cases B with
          | nil => unfold headS; simp [hck]
          | cons y B => rfl
        rw [hS, recsOf_append, recsOf_one] at hp
        refine ⟨p2, _, hp, ?_, ?_⟩
        · refine hk3.trans ((List.prefix_append_right_inj _).2 ?_)
          show recsB ((frmB x.2.1).take k) <+: recsB (frmB (x.2.1.take c))
          rw [hj2]
          exact recsB_take _ hkj
        · rw [← hr]
          refine (List.prefix_append_right_inj _).2 ?_
          show recsB (frmB (x.2.1.take c)) <+: recsB (frmB x.2.1)
          rw [hj2]
          have := recsB_take (frmB x.2.1) hj1
          rwa [List.take_length] at this
end Go.Proofs.YtnegnokielmgkaaGreatDoor

namespace Go.Proofs.YtnegnokielmgkaaGreatDoor

theorem riseA_self {A : List Sg} (h : Rises A) : riseA A = A := riseA_uniq h (List.Perm.refl _)
/-- A change with power, or without: one answer each. -/
def upP (p : Pl) (A' : List Sg) : Int × Pl := if p.fuse = 0 then (8, { p with down := true }) else (0, { burnP p with A := A' })
theorem doS_up {p : Pl} {k : Nat} {seg n : Int} {b : List UInt8} {X A' : List Sg} (hF : Fine p k seg n b) (hr : Rises p.A) (hA : Rises A') (hx : doneP p k seg n b = { burnP p with A := X }) (hp : X.Perm A') : doS p k seg n b = upP p A' := by
  unfold doS upP
  by_cases hf : p.fuse = 0
  · rw [doP_dead hF hf, if_pos hf]
    show (8, rise { p with down := true }) = _
    unfold rise
    rw [riseA_self hr]
  · rw [doP_fine hF hf, hx, if_neg hf]
    show (0, rise { burnP p with A := X }) = _
    unfold rise
    rw [riseA_uniq hA hp]
section
variable {p : Pl} {B : List Sg} {s : Int} {b c : List UInt8} {k : Nat}
theorem dropS_last (hs : ∀ y ∈ B, y.1 < s) : dropS (B ++ [(s, b, k)]) s = B := by
  have := dropS_none (A := B) (n := s) (fun y hy => by have := hs y hy; omega)
  unfold dropS at *
  rw [List.filter_append, this, List.filter_cons, if_neg (by simp), List.filter_nil, List.append_nil]
theorem sync_up (hA : p.A = B ++ [(s, b, k)]) (hd : p.down = false) (hr : Rises p.A) (h0 : 0 ≤ s) (h1 : s ≤ 1048576) : doS p 1 s 0 [] = upP p (B ++ [(s, b, b.length)]) := by
  have hr' := hr
  rw [hA] at hr'
  obtain ⟨hr1, hr2⟩ := rises_split hr'
  have hl : lookS p.A s = some (b, k) := by rw [hA]; exact lookS_last (x := (s, b, k)) hr2
  refine doS_up ⟨nameP_of h0 h1, hd, (fun _ => by rw [hl]; simp), (fun c => by cases c), (fun c => by cases c)⟩ hr (rises_append hr1 (x := (s, b, b.length)) hr2) (X := putS p.A (s, b, b.length)) ?_ ?_
  · unfold doneP
    rw [hl]
    rfl
  · unfold putS
    show ((s, b, b.length) :: dropS p.A s).Perm _
    rw [hA, dropS_last hr2]
    exact (List.perm_append_singleton _ _).symm
theorem app_up (hA : p.A = B ++ [(s, b, k)]) (hd : p.down = false) (hr : Rises p.A) (h0 : 0 ≤ s) (h1 : s ≤ 1048576) (hz : sizeS p.A + c.length ≤ p.room) : doS p 0 s 0 c = upP p (B ++ [(s, b ++ c, k)]) := by
  have hr' := hr
  rw [hA] at hr'
  obtain ⟨hr1, hr2⟩ := rises_split hr'
  have hl : lookS p.A s = some (b, k) := by rw [hA]; exact lookS_last (x := (s, b, k)) hr2
  refine doS_up ⟨nameP_of h0 h1, hd, (fun h => absurd rfl h), (fun _ => ⟨by omega, fun h => by rw [hl] at h; cases h⟩), (fun c => by cases c)⟩ hr (rises_append hr1 (x := (s, b ++ c, k)) hr2) (X := putS p.A (s, b ++ c, k)) ?_ ?_
  · unfold doneP
    rw [hl]
    rfl
  · unfold putS
    show ((s, b ++ c, k) :: dropS p.A s).Perm _
    rw [hA, dropS_last hr2]
    exact (List.perm_append_singleton _ _).symm
theorem new_up (hd : p.down = false) (hr : Rises p.A) (hs : ∀ y ∈ p.A, y.1 < s) (h0 : 0 ≤ s) (h1 : s ≤ 1048576) (hz : sizeS p.A + c.length ≤ p.room) (h64 : p.A.length < 64) : doS p 0 s 0 c = upP p (p.A ++ [(s, c, 0)]) := by
  have hl : lookS p.A s = none := lookS_none fun y hy => by have := hs y hy; omega
  refine doS_up ⟨nameP_of h0 h1, hd, (fun h => absurd rfl h), (fun _ => ⟨by omega, fun _ => h64⟩), (fun c => by cases c)⟩ hr (rises_append hr (x := (s, c, 0)) hs) (X := putS p.A (s, c, 0)) ?_ ?_
  · unfold doneP
    rw [hl]
    rfl
  · unfold putS
    show ((s, c, 0) :: dropS p.A s).Perm _
    rw [dropS_none (fun y hy => by have := hs y hy; omega)]
    exact (List.perm_append_singleton _ _).symm
end
theorem framesB_frs (recs : List (List UInt8)) : (framesB 0 recs).flatten = frs (recs.map (0 :: ·)) := by
  unfold framesB frs
  rw [List.flatMap_map, ← List.flatMap_def]
theorem recsB_map (recs : List (List UInt8)) : recsB (recs.map (0 :: ·)) = recs := by
  unfold recsB
  induction recs with
  | nil => rfl
  | cons r l ih =>
    have e : saysB 0 (0 :: r) = some r := rfl
    rw [List.map_cons, List.filterMap_cons_some e, ih]
theorem recsB_append (a b : List (List UInt8)) : recsB (a ++ b) = recsB a ++ recsB b := by unfold recsB; rw [List.filterMap_append]
theorem check_map (recs : List (List UInt8)) : checkB (recs.map (0 :: ·)) = Option.none := by
  cases recs with
  | nil => rfl
  | cons r l => rfl
theorem checkB_append {a b : List (List UInt8)} (h : a ≠ []) : checkB (a ++ b) = checkB a := by
  cases a with
  | nil => exact absurd rfl h
  | cons m l => rfl
theorem map_le {recs : List (List UInt8)} (h : ∀ l ∈ recs, l.length ≤ 16383) : ∀ m ∈ recs.map (0 :: ·), m.length ≤ 16384 := fun m hm => by
  obtain ⟨l, hl, rfl⟩ := List.mem_map.1 hm
  have := h l hl
  rw [List.length_cons]
  omega
theorem Inv.weaken {A : List Sg} {st : List UInt8} {all s1 s2 : List (List UInt8)} (h : Inv A st all s1) (hs : s2 <+: s1) : Inv A st all s2 :=
  { h with
    none := fun e => by have := h.none e; rw [this] at hs; exact List.prefix_nil.1 hs
    sure := fun B x e => by
      obtain ⟨k, h1, h2, h3, h4⟩ := h.sure B x e
      exact ⟨k, h1, h2, hs.trans h3, h4⟩ }
theorem Inv.all {A : List Sg} {st : List UInt8} {all sure : List (List UInt8)} (h : Inv A st all sure) : sure <+: all := by
  rcases List.eq_nil_or_concat A with rfl | ⟨B, x, rfl⟩
  · rw [h.none rfl]
    exact List.nil_prefix
  · rw [List.concat_eq_append] at *
    obtain ⟨k, h1, h2, h3, h4⟩ := h.sure B x rfl
    rw [← h.recs, recsOf_append, recsOf_one]
    refine h3.trans ((List.prefix_append_right_inj _).2 ?_)
    have := recsB_take (frmB x.2.1) h1
    rwa [List.take_length] at this
/-- What was appended is synced. -/
theorem Inv.synced {B : List Sg} {s : Int} {b : List UInt8} {k : Nat} {st : List UInt8} {all sure : List (List UInt8)} (h : Inv (B ++ [(s, b, k)]) st all sure) : Inv (B ++ [(s, b, b.length)]) st all all ∧ ∀ x ∈ B ++ [(s, b, b.length)], x.2.2 = x.2.1.length := by
  have hw := h.whole (s, b, k) (by simp)
  have hB : ∀ x ∈ B, x.2.2 = x.2.1.length := fun x hx => h.sync x (by rw [List.dropLast_concat]; exact hx)
  obtain ⟨r1, r2⟩ := rises_split h.rises
  have hcell : ∀ (i : Nat) (x : Sg), (B ++ [(s, b, b.length)])[i]? = some x → ∃ y, (B ++ [(s, b, k)])[i]? = some y ∧ y.2.1 = x.2.1 := fun i x hx => by
    by_cases hi : i < B.length
    · rw [List.getElem?_append_left hi] at hx ⊢
      exact ⟨x, hx, rfl⟩
    · have := (List.getElem?_eq_some_iff.1 hx).1
      simp at this
      obtain rfl : i = B.length := by omega
      obtain rfl : (s, b, b.length) = x := by simpa using hx
      exact ⟨(s, b, k), by simp, rfl⟩
  refine ⟨⟨rises_append r1 (x := (s, b, b.length)) r2, fun x hx => ?_, fun x hx => ?_, fun i x hx => ?_, fun x hx => ?_, fun x hx => ?_, ?_, ?_, fun e => ?_, fun B' x e => ?_⟩, fun x hx => ?_⟩
  · rcases List.mem_append.1 hx with hx | hx
    · exact h.named x (by simp [hx])
    · rw [List.mem_singleton.1 hx]; exact h.named (s, b, k) (by simp)
  · rcases List.mem_append.1 hx with hx | hx
    · exact h.whole x (by simp [hx])
    · rw [List.mem_singleton.1 hx]; exact hw
  · obtain ⟨y, hy, e⟩ := hcell _ x hx
    rw [← e]
    exact h.later i y hy
  · rcases List.mem_append.1 hx with hx | hx
    · exact h.le x (by simp [hx])
    · rw [List.mem_singleton.1 hx]; exact Nat.le_refl _
  · rw [List.dropLast_concat] at hx
    exact hB x hx
  · rw [← h.state]
    unfold headS
    cases B with
    | nil => rfl
    | cons y B => rfl
  · rw [← h.recs, recsOf_append, recsOf_append, recsOf_one, recsOf_one]
  · simp at e
  · obtain ⟨rfl, e2⟩ := List.append_inj' e rfl
    obtain rfl : (s, b, b.length) = x := by simpa using e2
    refine ⟨(frmB b).length, Nat.le_refl _, ?_, ?_, fun _ hc => ?_⟩
    · show endP ((frmB b).take (frmB b).length) ≤ b.length
      rw [List.take_length]
      exact Nat.le_of_eq hw.2
    · show all <+: recsOf B ++ recsB ((frmB b).take (frmB b).length)
      rw [List.take_length, ← h.recs, recsOf_append, recsOf_one]
      exact List.prefix_refl _
    · exact List.length_pos_iff.2 hw.1
  · rcases List.mem_append.1 hx with hx | hx
    · exact hB x hx
    · rw [List.mem_singleton.1 hx]
end Go.Proofs.YtnegnokielmgkaaGreatDoor

namespace Go.Proofs.YtnegnokielmgkaaGreatDoor

theorem frs_append (a b : List (List UInt8)) : frs (a ++ b) = frs a ++ frs b := by unfold frs; rw [List.flatMap_append]
theorem frs_whole {x : Sg} (h : wholeS x) : x.2.1 = frs (frmB x.2.1) := by
  have h1 := (frmB_is x.2.1).1.eq
  rw [h.2, List.drop_length, List.append_nil] at h1
  exact h1
section
variable {B : List Sg} {s : Int} {b : List UInt8} {k : Nat} {st : List UInt8} {all sure recs : List (List UInt8)}
/-- Records are appended to the last segment. -/
theorem Inv.grown (h : Inv (B ++ [(s, b, k)]) st all sure) (hr : ∀ l ∈ recs, l.length ≤ 16383) : Inv (B ++ [(s, b ++ frs (recs.map (0 :: ·)), k)]) st (all ++ recs) sure := by
  have hw := h.whole (s, b, k) (by simp)
  have hbe : b = frs (frmB b) := frs_whole hw
  have h16 : ∀ m ∈ frmB b ++ recs.map (0 :: ·), m.length ≤ 16384 := fun m hm => by
    rcases List.mem_append.1 hm with hm | hm
    · exact (frmB_is b).1.le m hm
    · exact map_le hr m hm
  have hf : frmB (b ++ frs (recs.map (0 :: ·))) = frmB b ++ recs.map (0 :: ·) := by
    have := frmB_frs h16
    rwa [frs_append, ← hbe] at this
  have hne : frmB b ≠ [] := hw.1
  have hck : checkB (frmB (b ++ frs (recs.map (0 :: ·)))) = checkB (frmB b) := by rw [hf]; exact checkB_append hne
  obtain ⟨r1, r2⟩ := rises_split h.rises
  refine ⟨rises_append r1 (x := (s, b ++ frs (recs.map (0 :: ·)), k)) r2, fun x hx => ?_, fun x hx => ?_, fun i x hx => ?_, fun x hx => ?_, fun x hx => ?_, ?_, ?_, fun e => ?_, fun B' x e => ?_⟩
  · rcases List.mem_append.1 hx with hx | hx
    · exact h.named x (by simp [hx])
    · rw [List.mem_singleton.1 hx]; exact h.named (s, b, k) (by simp)
  · rcases List.mem_append.1 hx with hx | hx
    · exact h.whole x (by simp [hx])
    · rw [List.mem_singleton.1 hx]
      have := wholeS_of h16 (by simp [hne]) s k
      rwa [frs_append, ← hbe] at this
  · by_cases hi : i + 1 < B.length
    · rw [List.getElem?_append_left hi] at hx
      exact h.later i x (by rw [List.getElem?_append_left hi]; exact hx)
    · have hl := (List.getElem?_eq_some_iff.1 hx).1
      simp at hl
      have hi2 : i + 1 = B.length := by omega
      rw [hi2] at hx
      obtain rfl : (s, b ++ frs (recs.map (0 :: ·)), k) = x := by simpa using hx
      show checkB (frmB (b ++ frs (recs.map (0 :: ·)))) = Option.none
      rw [hck]
      exact h.later i (s, b, k) (by rw [hi2]; simp)
  · rcases List.mem_append.1 hx with hx | hx
    · exact h.le x (by simp [hx])
    · rw [List.mem_singleton.1 hx]
      have := h.le (s, b, k) (by simp)
      show k ≤ (b ++ frs (recs.map (0 :: ·))).length
      rw [List.length_append]
      have h2 : k ≤ b.length := this
      omega
  · rw [List.dropLast_concat] at hx
    exact h.sync x (by rw [List.dropLast_concat]; exact hx)
  · rw [← h.state]
    cases B with
    | nil =>
      unfold headS
      show ((some (checkB (frmB (b ++ frs (recs.map (0 :: ·)))))).getD Option.none).getD [] = ((some (checkB (frmB b))).getD Option.none).getD []
      rw [hck]
    | cons y B => rfl
  · rw [← h.recs, recsOf_append, recsOf_append, recsOf_one, recsOf_one, List.append_assoc]
    congr 1
    show recsB (frmB (b ++ frs (recs.map (0 :: ·)))) = recsB (frmB b) ++ recs
    rw [hf, recsB_append, recsB_map]
  · simp at e
  · obtain ⟨rfl, e2⟩ := List.append_inj' e rfl
    obtain rfl : (s, b ++ frs (recs.map (0 :: ·)), k) = x := by simpa using e2
    obtain ⟨j, h1, h2, h3, h4⟩ := h.sure B (s, b, k) rfl
    have h1' : j ≤ (frmB b).length := h1
    have ht : (frmB b ++ recs.map (0 :: ·)).take j = (frmB b).take j := List.take_append_of_le_length h1'
    show ∃ k', k' ≤ (frmB (b ++ frs (recs.map (0 :: ·)))).length ∧ endP ((frmB (b ++ frs (recs.map (0 :: ·)))).take k') ≤ k ∧ sure <+: recsOf B ++ recsB ((frmB (b ++ frs (recs.map (0 :: ·)))).take k') ∧ (B = [] → checkB (frmB (b ++ frs (recs.map (0 :: ·)))) ≠ Option.none → 1 ≤ k')
    rw [hck, hf]
    refine ⟨j, by rw [List.length_append]; omega, ?_, ?_, h4⟩
    · rw [ht]; exact h2
    · rw [ht]; exact h3
/-- Records begin a new segment, behind others that are synced. -/
theorem Inv.fresh {A : List Sg} (h : Inv A st all sure) (hs : ∀ x ∈ A, x.2.2 = x.2.1.length) (hlt : ∀ y ∈ A, y.1 < s) (h0 : 0 ≤ s) (h1 : s ≤ 1048576) (hne : recs ≠ []) (hr : ∀ l ∈ recs, l.length ≤ 16383) : Inv (A ++ [(s, frs (recs.map (0 :: ·)), 0)]) st (all ++ recs) sure := by
  have h16 := map_le hr
  have hf : frmB (frs (recs.map (0 :: ·))) = recs.map (0 :: ·) := frmB_frs h16
  have hck : checkB (frmB (frs (recs.map (0 :: ·)))) = Option.none := by rw [hf]; exact check_map recs
  refine ⟨rises_append h.rises (x := (s, frs (recs.map (0 :: ·)), 0)) hlt, fun x hx => ?_, fun x hx => ?_, fun i x hx => ?_, fun x hx => ?_, fun x hx => ?_, ?_, ?_, fun e => ?_, fun B' x e => ?_⟩
  · rcases List.mem_append.1 hx with hx | hx
    · exact h.named x hx
    · rw [List.mem_singleton.1 hx]; exact ⟨h0, h1⟩
  · rcases List.mem_append.1 hx with hx | hx
    · exact h.whole x hx
    · rw [List.mem_singleton.1 hx]
      exact wholeS_of h16 (by simp [hne]) s 0
  · by_cases hi : i + 1 < A.length
    · rw [List.getElem?_append_left hi] at hx
      exact h.later i x hx
    · have hl := (List.getElem?_eq_some_iff.1 hx).1
      simp at hl
      have hi2 : i + 1 = A.length := by omega
      rw [hi2] at hx
      obtain rfl : (s, frs (recs.map (0 :: ·)), 0) = x := by simpa using hx
      exact hck
  · rcases List.mem_append.1 hx with hx | hx
    · exact h.le x hx
    · rw [List.mem_singleton.1 hx]; exact Nat.zero_le _
  · rw [List.dropLast_concat] at hx
    exact hs x hx
  · rw [← h.state]
    cases A with
    | nil =>
      unfold headS
      show ((some (checkB (frmB (frs (recs.map (0 :: ·)))))).getD Option.none).getD [] = _
      rw [hck]
      rfl
    | cons y A => rfl
  · rw [← h.recs, recsOf_append, recsOf_one]
    congr 1
    show recsB (frmB (frs (recs.map (0 :: ·)))) = recs
    rw [hf, recsB_map]
  · simp at e
  · obtain ⟨rfl, e2⟩ := List.append_inj' e rfl
    obtain rfl : (s, frs (recs.map (0 :: ·)), 0) = x := by simpa using e2
    refine ⟨0, Nat.zero_le _, by rw [List.take_zero]; exact Nat.le_refl _, ?_, fun _ hc => absurd hck hc⟩
    rw [List.take_zero, h.recs]
    show sure <+: all ++ recsB []
    rw [show recsB [] = [] from rfl, List.append_nil]
    exact h.all
end
theorem burnP_room (p : Pl) : (burnP p).room = p.room := by unfold burnP; split <;> rfl
theorem burnP_down (p : Pl) : (burnP p).down = p.down := by unfold burnP; split <;> rfl
/-- A tape with power, as a journal leaves it. -/
structure LiveP (p : Pl) (n m : Nat) (st : List UInt8) (all sure : List (List UInt8)) : Prop where
  room : p.room = 20000
  down : p.down = false
  inv : Inv p.A st all sure
  names : ∀ x ∈ p.A, x.1 < (n : Int)
  size : sizeS p.A ≤ m
theorem LiveP.len {p : Pl} {n m : Nat} {st : List UInt8} {all sure : List (List UInt8)} (h : LiveP p n m st all sure) : p.A.length ≤ n := by
  have := rises_len p.A 0 n h.inv.rises (fun x hx => ⟨(h.inv.named x hx).1, h.names x hx⟩)
  omega
section
variable {p : Pl} {n m : Nat} {st : List UInt8} {all sure recs : List (List UInt8)}
theorem settle_up (h : LiveP p n m st all sure) (hn : n ≤ 1000) : (∃ (next : Int) (p2 : Pl), settleP p = (next, 0, p2) ∧ LiveP p2 n m st all all ∧ (∀ x ∈ p2.A, x.2.2 = x.2.1.length) ∧ 0 ≤ next ∧ next ≤ n ∧ ∀ y ∈ p2.A, y.1 < next) ∨ ∃ (next : Int) (p2 : Pl), settleP p = (next, 8, p2) ∧ p2.down = true ∧ p2.A = p.A := by
  rcases List.eq_nil_or_concat p.A with hA | ⟨B, x, hA⟩
  · refine .inl ⟨0, p, ?_, ⟨h.room, h.down, ?_, h.names, h.size⟩, (fun y hy => by rw [hA] at hy; cases hy), Int.le_refl _, by omega, (fun y hy => by rw [hA] at hy; cases hy)⟩
    · unfold settleP curP numsOf
      rw [hA]
      rfl
    · have h1 := h.inv
      have h2 : all = [] := by rw [← h1.recs, hA]; rfl
      have h3 := h1.none hA
      rw [h2] at h1 ⊢
      rwa [h3] at h1
  · rw [List.concat_eq_append] at hA
    obtain ⟨s, b, k⟩ := x
    have hI := h.inv
    rw [hA] at hI
    obtain ⟨hs1, hs2⟩ := hI.named (s, b, k) (by simp)
    have hsn := h.names (s, b, k) (by rw [hA]; simp)
    have hc : curP p = some s := by unfold curP numsOf; rw [hA]; simp
    have hd := sync_up (B := B) (s := s) (b := b) (k := k) hA h.down h.inv.rises hs1 hs2
    have hse : settleP p = (s + 1, upP p (B ++ [(s, b, b.length)])) := by unfold settleP; rw [hc]; show (s + 1, doS p 1 s 0 []) = _; rw [hd]
    unfold upP at hse
    obtain ⟨r1, r2⟩ := rises_split hI.rises
    by_cases hf : p.fuse = 0
    · rw [if_pos hf] at hse
      exact .inr ⟨_, _, hse, rfl, rfl⟩
    · rw [if_neg hf] at hse
      obtain ⟨g1, g2⟩ := hI.synced
      refine .inl ⟨_, _, hse, ⟨(burnP_room p).trans h.room, (burnP_down p).trans h.down, g1, fun y hy => ?_, ?_⟩, g2, by show 0 ≤ s + 1; have : 0 ≤ s := hs1; omega, by show s + 1 ≤ _; have : s < (n : Int) := hsn; omega, fun y hy => ?_⟩
      · rcases List.mem_append.1 hy with hy | hy
        · exact h.names y (by rw [hA]; simp [hy])
        · rw [List.mem_singleton.1 hy]; exact hsn
      · have := h.size
        rw [hA] at this
        show sizeS (B ++ [(s, b, b.length)]) ≤ m
        rw [sizeS_append] at this ⊢
        exact this
      · show y.1 < s + 1
        rcases List.mem_append.1 hy with hy | hy
        · have : y.1 < s := r2 y hy
          omega
        · rw [List.mem_singleton.1 hy]
          show s < s + 1
          omega
end
end Go.Proofs.YtnegnokielmgkaaGreatDoor

namespace Go.Proofs.YtnegnokielmgkaaGreatDoor

section
variable {p : Pl} {n m seg : Nat} {st : List UInt8} {all sure recs : List (List UInt8)}
/-- Records go behind the last segment's bytes. -/
theorem app_last_up (h : LiveP p n m st all sure) {B : List Sg} {s : Int} {b : List UInt8} {k : Nat} (hA : p.A = B ++ [(s, b, k)]) (hr : ∀ l ∈ recs, l.length ≤ 16383) (hz : m + (frs (recs.map (0 :: ·))).length ≤ 20000) :
    (∃ p2, doS p 0 s 0 (frs (recs.map (0 :: ·))) = (0, p2) ∧ LiveP p2 (n + 1) (m + (frs (recs.map (0 :: ·))).length) st (all ++ recs) sure) ∨ ∃ p2, doS p 0 s 0 (frs (recs.map (0 :: ·))) = (8, p2) ∧ p2.down = true ∧ Inv p2.A st all sure := by
  have hI := h.inv
  rw [hA] at hI
  have hs := hI.named (s, b, k) (by simp)
  have hsz := h.size
  have hd := app_up (c := frs (recs.map (0 :: ·))) hA h.down h.inv.rises hs.1 hs.2 (by rw [h.room]; omega)
  unfold upP at hd
  by_cases hf : p.fuse = 0
  · rw [if_pos hf] at hd
    exact .inr ⟨_, hd, rfl, h.inv⟩
  · rw [if_neg hf] at hd
    refine .inl ⟨_, hd, (burnP_room p).trans h.room, (burnP_down p).trans h.down, hI.grown hr, fun y hy => ?_, ?_⟩
    · rcases List.mem_append.1 hy with hy | hy
      · have := h.names y (by rw [hA]; simp [hy])
        omega
      · rw [List.mem_singleton.1 hy]
        have : s < (n : Int) := h.names (s, b, k) (by rw [hA]; simp)
        show s < _
        omega
    · rw [hA, sizeS_append] at hsz
      show sizeS (B ++ [(s, b ++ frs (recs.map (0 :: ·)), k)]) ≤ _
      rw [sizeS_append]
      have e1 : sizeS [(s, b, k)] = b.length := by simp [sizeS]
      have e2 : sizeS [(s, b ++ frs (recs.map (0 :: ·)), k)] = b.length + (frs (recs.map (0 :: ·))).length := by simp [sizeS]
      rw [e1] at hsz
      rw [e2]
      omega
/-- Records begin a segment. -/
theorem app_new_up (h : LiveP p n m st all sure) {s : Int} (hs : ∀ x ∈ p.A, x.2.2 = x.2.1.length) (hlt : ∀ y ∈ p.A, y.1 < s) (h0 : 0 ≤ s) (h1 : s ≤ n) (hn : n ≤ 63) (hne : recs ≠ []) (hr : ∀ l ∈ recs, l.length ≤ 16383) (hz : m + (frs (recs.map (0 :: ·))).length ≤ 20000) :
    (∃ p2, doS p 0 s 0 (frs (recs.map (0 :: ·))) = (0, p2) ∧ LiveP p2 (n + 1) (m + (frs (recs.map (0 :: ·))).length) st (all ++ recs) sure) ∨ ∃ p2, doS p 0 s 0 (frs (recs.map (0 :: ·))) = (8, p2) ∧ p2.down = true ∧ Inv p2.A st all sure := by
  have hsz := h.size
  have hln := h.len
  have hd := new_up (c := frs (recs.map (0 :: ·))) h.down h.inv.rises hlt h0 (by omega) (by rw [h.room]; omega) (by omega)
  unfold upP at hd
  by_cases hf : p.fuse = 0
  · rw [if_pos hf] at hd
    exact .inr ⟨_, hd, rfl, h.inv⟩
  · rw [if_neg hf] at hd
    refine .inl ⟨_, hd, (burnP_room p).trans h.room, (burnP_down p).trans h.down, h.inv.fresh hs hlt h0 (by omega) hne hr, fun y hy => ?_, ?_⟩
    · rcases List.mem_append.1 hy with hy | hy
      · have := h.names y hy
        omega
      · rw [List.mem_singleton.1 hy]
        show s < _
        omega
    · show sizeS (p.A ++ [(s, frs (recs.map (0 :: ·)), 0)]) ≤ _
      rw [sizeS_append]
      have e2 : sizeS [(s, frs (recs.map (0 :: ·)), 0)] = (frs (recs.map (0 :: ·))).length := by simp [sizeS]
      rw [e2]
      omega
/-- What a call leaves that appends: done; or the power failed, and nothing was appended. -/
def AddQ (n m : Nat) (st : List UInt8) (all sure recs : List (List UInt8)) (J : Js) (r : Int × Js) : Prop :=
  (r.1 = 0 ∧ LiveP r.2.p (n + 1) (m + (frs (recs.map (0 :: ·))).length) st (all ++ recs) sure ∧ r.2.seg = J.seg ∧ r.2.rs = J.rs ++ recs) ∨ (r.1 = 8 ∧ r.2.p.down = true ∧ Inv r.2.p.A st all sure ∧ r.2.seg = J.seg ∧ r.2.rs = J.rs)
theorem LiveP.mono {n' m' : Nat} (h : LiveP p n m st all sure) (hn : n ≤ n') (hm : m ≤ m') : LiveP p n' m' st all sure := ⟨h.room, h.down, h.inv, fun x hx => by have := h.names x hx; omega, Nat.le_trans h.size hm⟩
theorem LiveP.weaken {s2 : List (List UInt8)} (h : LiveP p n m st all sure) (hs : s2 <+: sure) : LiveP p n m st all s2 := ⟨h.room, h.down, h.inv.weaken hs, h.names, h.size⟩
end
section
variable {J : Js} {n m : Nat} {st : List UInt8} {all sure recs : List (List UInt8)}
theorem add_up (h : LiveP J.p n m st all sure) (hn : n ≤ 63) (hr : ∀ l ∈ recs, l.length ≤ 16383) (hz : m + (frs (recs.map (0 :: ·))).length ≤ 20000) : AddQ n m st all sure recs J (addP J recs) := by
  by_cases hne : recs = []
  · subst hne
    have e : addP J [] = (0, J) := if_pos rfl
    rw [e]
    exact .inl ⟨rfl, by rw [List.append_nil]; exact h.mono (by omega) (by omega), rfl, by simp⟩
  · have hnl : ¬ ∃ l ∈ recs, 16383 < l.length := fun ⟨l, hl, hx⟩ => by have := hr l hl; omega
    have hfr := framesB_frs recs
    -- whatever the tape answers
    have fin : ∀ (s : Int) (p2 : Pl), placeP J.p (frs (recs.map (0 :: ·))).length J.seg = (s, 0, p2) → ((∃ p3, doS p2 0 s 0 (frs (recs.map (0 :: ·))) = (0, p3) ∧ LiveP p3 (n + 1) (m + (frs (recs.map (0 :: ·))).length) st (all ++ recs) sure) ∨ ∃ p3, doS p2 0 s 0 (frs (recs.map (0 :: ·))) = (8, p3) ∧ p3.down = true ∧ Inv p3.A st all sure) → AddQ n m st all sure recs J (addP J recs) := fun s p2 hp hd => by
      rcases hd with ⟨p3, hd, hl⟩ | ⟨p3, hd, hdn, hi⟩
      · have e : addP J recs = (0, { J with p := p3, rs := J.rs ++ recs }) := by
          unfold addP
          rw [if_neg hne, if_neg hnl, hfr, hp, if_neg (by simp), hd, if_neg (by simp)]
        rw [e]
        exact .inl ⟨rfl, hl, rfl, rfl⟩
      · have e : addP J recs = (8, { J with p := p3 }) := by
          unfold addP
          rw [if_neg hne, if_neg hnl, hfr, hp, if_neg (by simp), hd, if_pos (by simp)]
        rw [e]
        exact .inr ⟨rfl, hdn, hi, rfl, rfl⟩
    rcases List.eq_nil_or_concat J.p.A with hA | ⟨B, x, hA⟩
    · have hc : curP J.p = none := by unfold curP numsOf; rw [hA]; rfl
      exact fin 0 J.p (placeP_none hc) (app_new_up h (fun y hy => by rw [hA] at hy; cases hy) (fun y hy => by rw [hA] at hy; cases hy) (Int.le_refl _) (by omega) hn hne hr hz)
    · rw [List.concat_eq_append] at hA
      obtain ⟨s, b, k⟩ := x
      have hc : curP J.p = some s := by unfold curP numsOf; rw [hA]; simp
      have hp := placeP_some (S := (frs (recs.map (0 :: ·))).length) (mx := J.seg) hc
      by_cases hq : lenP J.p s = 0 ∨ lenP J.p s + (frs (recs.map (0 :: ·))).length ≤ J.seg
      · rw [if_pos hq] at hp
        exact fin s J.p hp (app_last_up h hA hr hz)
      · rw [if_neg hq] at hp
        rcases settle_up h (by omega) with ⟨next, p2, he, hl, hsy, hn0, hn1, hlt⟩ | ⟨next, p2, he, hdn, hAA⟩
        · exact fin next p2 (hp.trans he) (app_new_up (hl.weaken h.inv.all) hsy hlt hn0 hn1 hn hne hr hz)
        · have e : addP J recs = (8, { J with p := p2 }) := by
            unfold addP
            rw [if_neg hne, if_neg hnl, hfr, hp, he, if_pos (by simp)]
          rw [e]
          exact .inr ⟨rfl, hdn, by show Inv p2.A st all sure; rw [hAA]; exact h.inv, rfl, rfl⟩
/-- A Sync: all that was appended is sure; or the power failed. -/
theorem syncj_up (h : LiveP J.p n m st all sure) (hn : n ≤ 1000) : ((syncP J).1 = 0 ∧ LiveP (syncP J).2.p n m st all all ∧ (syncP J).2.seg = J.seg ∧ (syncP J).2.rs = J.rs) ∨ ((syncP J).1 = 8 ∧ (syncP J).2.p.down = true ∧ Inv (syncP J).2.p.A st all sure ∧ (syncP J).2.seg = J.seg ∧ (syncP J).2.rs = J.rs) := by
  unfold syncP
  rcases settle_up h hn with ⟨next, p2, he, hl, _⟩ | ⟨next, p2, he, hdn, hAA⟩
  · rw [he]
    exact .inl ⟨rfl, hl, rfl, rfl⟩
  · rw [he]
    exact .inr ⟨rfl, hdn, by show Inv p2.A st all sure; rw [hAA]; exact h.inv, rfl, rfl⟩
/-- A Write: all is sure; or the power failed, ahead of the records or behind them. -/
theorem write_up (h : LiveP J.p n m st all sure) (hn : n ≤ 63) (hr : ∀ l ∈ recs, l.length ≤ 16383) (hz : m + (frs (recs.map (0 :: ·))).length ≤ 20000) :
    ((writeP J recs).1 = 0 ∧ LiveP (writeP J recs).2.p (n + 1) (m + (frs (recs.map (0 :: ·))).length) st (all ++ recs) (all ++ recs) ∧ (writeP J recs).2.seg = J.seg ∧ (writeP J recs).2.rs = J.rs ++ recs) ∨ ((writeP J recs).1 = 8 ∧ (writeP J recs).2.p.down = true ∧ (writeP J recs).2.seg = J.seg ∧ ∃ all', Inv (writeP J recs).2.p.A st all' sure ∧ all' <+: all ++ recs) := by
  unfold writeP
  rcases add_up h hn hr hz with ⟨e, hl, hs, hrs⟩ | ⟨e, hdn, hi, hs, hrs⟩
  · rw [if_neg (by rw [e]; simp)]
    rcases syncj_up hl (by omega) with ⟨e2, hl2, hs2, hrs2⟩ | ⟨e2, hdn, hi, hs2, hrs2⟩
    · exact .inl ⟨e2, hl2, hs2.trans hs, hrs2.trans hrs⟩
    · exact .inr ⟨e2, hdn, hs2.trans hs, _, hi, List.prefix_refl _⟩
  · rw [if_pos (by rw [e]; decide)]
    exact .inr ⟨e, hdn, hs, all, hi, List.prefix_append _ _⟩
end
end Go.Proofs.YtnegnokielmgkaaGreatDoor

namespace Go.Proofs.YtnegnokielmgkaaGreatDoor

/-- Opened behind a crash: what was there, or the state that was being saved. -/
def OpensOr (A : List Sg) (st : List UInt8) (lo hi : List (List UInt8)) (sv : List UInt8) : Prop := ∀ (room seg : Nat) (ks : List Int), ∃ p2 s rs, loadP ⟨room, crI A ks A.length, -1, false⟩ seg = (0, ⟨p2, seg, s, rs⟩) ∧ ((s = st ∧ lo <+: rs ∧ rs <+: hi) ∨ (s = sv ∧ rs = []))
theorem Opens.or {A : List Sg} {st : List UInt8} {lo hi : List (List UInt8)} (h : Opens A st lo hi) (sv : List UInt8) : OpensOr A st lo hi sv := fun room seg ks => by
  obtain ⟨p2, rs, h1, h2, h3⟩ := h room seg ks
  exact ⟨p2, st, rs, h1, .inl ⟨rfl, h2, h3⟩⟩
theorem OpensOr.weaken {A : List Sg} {st : List UInt8} {lo lo' hi hi' : List (List UInt8)} {sv : List UInt8} (h : OpensOr A st lo hi sv) (h1 : lo' <+: lo) (h2 : hi <+: hi') : OpensOr A st lo' hi' sv := fun room seg ks => by
  obtain ⟨p2, s, rs, e, h⟩ := h room seg ks
  exact ⟨p2, s, rs, e, h.imp (fun ⟨a, b, c⟩ => ⟨a, h1.trans b, c.trans h2⟩) id⟩
section
variable {A : List Sg} {next : Int} {sv st : List UInt8} {all : List (List UInt8)}
theorem frm_check (hs : sv.length ≤ 16383) : frmB (frameB (1 :: sv)) = [1 :: sv] := by
  have := frmB_frs (ls := [1 :: sv]) (fun m hm => by rw [List.mem_singleton.1 hm, List.length_cons]; omega)
  rwa [show frs [1 :: sv] = frameB (1 :: sv) from by simp [frs]] at this
theorem whole_check (hs : sv.length ≤ 16383) (s : Nat) : wholeS (next, frameB (1 :: sv), s) := by
  have := wholeS_of (ms := [1 :: sv]) (fun m hm => by rw [List.mem_singleton.1 hm, List.length_cons]; omega) (by simp) next s
  rwa [show frs [1 :: sv] = frameB (1 :: sv) from by simp [frs]] at this
/-- The checkpoint lasts whole. -/
theorem load_saved' {k : Nat} (hr : Rises (A ++ [(next, frameB (1 :: sv), k)])) (hn : Named (A ++ [(next, frameB (1 :: sv), k)])) (hs : sv.length ≤ 16383) (room seg : Nat) : ∃ p2, loadP ⟨room, A ++ [(next, frameB (1 :: sv), k)], -1, false⟩ seg = (0, ⟨p2, seg, sv, []⟩) := by
  obtain ⟨p2, hp⟩ := load_check (room := room) (seg := seg) hr hn (whole_check hs k) (sv := sv) (by show checkB (frmB (frameB (1 :: sv))) = some sv; rw [frm_check hs]; rfl)
  have e : recsOf [((next, frameB (1 :: sv), k) : Sg)] = [] := by
    rw [recsOf_one]
    show recsB (frmB (frameB (1 :: sv))) = []
    rw [frm_check hs]
    rfl
  rw [e] at hp
  exact ⟨p2, hp⟩
/-- A checkpoint behind others that are synced, itself synced or not. -/
theorem saving_opens {k : Nat} (h : Inv A st all all) (hsy : ∀ x ∈ A, x.2.2 = x.2.1.length) (hlt : ∀ y ∈ A, y.1 < next) (h0 : 0 ≤ next) (h1 : next ≤ 1048576) (hs : sv.length ≤ 16383) (hk : k ≤ (frameB (1 :: sv)).length) : OpensOr (A ++ [(next, frameB (1 :: sv), k)]) st all all sv := by
  intro room seg ks
  have hx : (A ++ [(next, frameB (1 :: sv), k)])[A.length]? = some (next, frameB (1 :: sv), k) := by simp
  have hA : ∀ y ∈ A, y.2.2 = y.2.1.length ∧ 0 < y.2.1.length := fun y hy => ⟨hsy y hy, (h.whole y hy).len⟩
  have hcr : crI (A ++ [(next, frameB (1 :: sv), k)]) ks (A ++ [(next, frameB (1 :: sv), k)]).length = A ++ keptS (next, frameB (1 :: sv), k) (ks[A.length]?.getD 0) := by
    rw [List.length_append]
    show crI _ ks (A.length + 1) = _
    rw [crI_succ ks hx, crI_prefix ks _ (Nat.le_refl _), crI_synced ks hA _ (Nat.le_refl _), List.take_length]
  have hN : ∀ (b : List UInt8) (j : Nat), Named (A ++ [(next, b, j)]) := fun b j y hy => by
    rcases List.mem_append.1 hy with hy | hy
    · exact h.named y hy
    · rw [List.mem_singleton.1 hy]; exact ⟨h0, h1⟩
  rw [hcr]
  obtain ⟨hl1, hl2⟩ := lastS_le (x := (next, frameB (1 :: sv), k)) hk (ks[A.length]?.getD 0)
  by_cases hc : lastS (next, frameB (1 :: sv), k) (ks[A.length]?.getD 0) = 0
  · rw [keptS_none hc, List.append_nil]
    obtain ⟨p2, hp⟩ := load_whole (A := A) (room := room) (seg := seg) h.whole h.later
    rw [h.state, h.recs] at hp
    exact ⟨p2, _, _, hp, .inl ⟨rfl, List.prefix_refl _, List.prefix_refl _⟩⟩
  · rw [keptS_some hc]
    generalize lastS (next, frameB (1 :: sv), k) (ks[A.length]?.getD 0) = c at *
    show ∃ p2 s rs, loadP ⟨room, A ++ [(next, (frameB (1 :: sv)).take c, c)], -1, false⟩ seg = _ ∧ _
    have hl2' : c ≤ (frameB (1 :: sv)).length := hl2
    by_cases hfull : c = (frameB (1 :: sv)).length
    · rw [List.take_of_length_le (by omega)]
      obtain ⟨p2, hp⟩ := load_saved' (rises_append h.rises (x := (next, frameB (1 :: sv), c)) hlt) (hN _ _) hs room seg
      exact ⟨p2, _, _, hp, .inr ⟨rfl, rfl⟩⟩
    · rw [frameB_len, List.length_cons] at hl2' hfull
      obtain ⟨p2, hp⟩ := load_bad (room := room) (seg := seg) (x := (next, (frameB (1 :: sv)).take c, c)) (rises_append h.rises (x := (next, (frameB (1 :: sv)).take c, c)) hlt) (hN _ _) h.whole (frmB_short (by rw [List.length_cons]; omega) (by rw [List.length_cons]; omega)) h.later
      rw [h.state, h.recs] at hp
      exact ⟨p2, _, _, hp, .inl ⟨rfl, List.prefix_refl _, List.prefix_refl _⟩⟩
/-- A synced checkpoint behind others that are synced and whole. -/
theorem saved_opens (hw : ∀ x ∈ A, x.2.2 = x.2.1.length ∧ 0 < x.2.1.length) (hr : Rises (A ++ [(next, frameB (1 :: sv), (frameB (1 :: sv)).length)])) (hn : Named (A ++ [(next, frameB (1 :: sv), (frameB (1 :: sv)).length)])) (hs : sv.length ≤ 16383) (st : List UInt8) (lo hi : List (List UInt8)) : OpensOr (A ++ [(next, frameB (1 :: sv), (frameB (1 :: sv)).length)]) st lo hi sv := by
  intro room seg ks
  have hcr : crI (A ++ [(next, frameB (1 :: sv), (frameB (1 :: sv)).length)]) ks (A ++ [(next, frameB (1 :: sv), (frameB (1 :: sv)).length)]).length = A ++ [(next, frameB (1 :: sv), (frameB (1 :: sv)).length)] := by
    have := crI_synced (A := A ++ [(next, frameB (1 :: sv), (frameB (1 :: sv)).length)]) ks (fun x hx => by
      rcases List.mem_append.1 hx with hx | hx
      · exact hw x hx
      · rw [List.mem_singleton.1 hx]; exact ⟨rfl, by show 0 < (frameB (1 :: sv)).length; rw [frameB_len]; omega⟩) _ (Nat.le_refl _)
    rwa [List.take_length] at this
  rw [hcr]
  obtain ⟨p2, hp⟩ := load_saved' hr hn hs room seg
  exact ⟨p2, _, _, hp, .inr ⟨rfl, rfl⟩⟩
end
theorem doS_down {p : Pl} (hd : p.down = true) (hr : Rises p.A) (k : Nat) (seg n : Int) (b : List UInt8) : (doS p k seg n b).2 = p := by
  have e : rise p = p := by unfold rise; rw [riseA_self hr]
  unfold doS doP
  by_cases h1 : nameP seg = false
  · rw [if_pos h1]; exact e
  · rw [if_neg h1, if_pos hd]; exact e
theorem dropS_first {x : Sg} {A : List Sg} (h : ∀ y ∈ A, x.1 < y.1) : dropS (x :: A) x.1 = A := by
  have := dropS_none (A := A) (n := x.1) (fun z hz => by have := h z hz; omega)
  unfold dropS at *
  rw [List.filter_cons, if_neg (by simp), this]
theorem drop_up {p : Pl} {y : Sg} {A : List Sg} (hA : p.A = y :: A) (hd : p.down = false) (hr : Rises p.A) (h0 : 0 ≤ y.1) (h1 : y.1 ≤ 1048576) : doS p 3 y.1 0 [] = upP p A := by
  have hr' := hr
  rw [hA] at hr'
  unfold Rises at hr'
  rw [List.pairwise_cons] at hr'
  have hl : lookS p.A y.1 = some y.2 := by rw [hA]; unfold lookS; simp
  refine doS_up ⟨nameP_of h0 h1, hd, (fun _ => by rw [hl]; simp), (fun c => by cases c), (fun c => by cases c)⟩ hr hr'.2 (X := dropS p.A y.1) rfl ?_
  rw [hA, dropS_first hr'.1]
/-- Segments ahead of a checkpoint are dropped, as long as there is power. -/
theorem drops_up {x : Sg} : ∀ (A : List Sg) (p : Pl), p.A = A ++ [x] → p.down = false → Rises p.A → Named p.A → (∃ p', dropsP x.1 (numsOf p.A) p = (0, p') ∧ p'.A = [x] ∧ p'.room = p.room ∧ p'.down = false) ∨ ∃ p' i, dropsP x.1 (numsOf p.A) p = (8, p') ∧ p'.down = true ∧ p'.A = A.drop i ++ [x]
  | [], p, hA, hd, hr, hn => by
    refine .inl ⟨p, ?_, hA, rfl, hd⟩
    rw [hA]
    show dropsP x.1 [x.1] p = _
    rw [dropsP_cons, if_pos (Int.le_refl _)]
  | y :: A, p, hA, hd, hr, hn => by
    have hy := hn y (by rw [hA]; simp)
    have hr' := hr
    rw [hA] at hr'
    have hyx : y.1 < x.1 := by
      have h2 : Rises (y :: (A ++ [x])) := hr'
      unfold Rises at h2
      rw [List.pairwise_cons] at h2
      exact h2.1 x (by simp)
    have hdo := drop_up (A := A ++ [x]) hA hd hr hy.1 hy.2
    have hnum : numsOf p.A = y.1 :: numsOf (A ++ [x]) := by rw [hA]; rfl
    rw [hnum, dropsP_cons, if_neg (by omega), hdo]
    unfold upP
    by_cases hf : p.fuse = 0
    · rw [if_pos hf, if_pos (by simp)]
      exact .inr ⟨_, 0, rfl, rfl, by rw [List.drop_zero]; exact hA⟩
    · rw [if_neg hf, if_neg (by simp)]
      have hr2 : Rises (A ++ [x]) := by
        have h2 : Rises (y :: (A ++ [x])) := hr'
        unfold Rises at *
        rw [List.pairwise_cons] at h2
        exact h2.2
      have := drops_up A { burnP p with A := A ++ [x] } rfl ((burnP_down p).trans hd) hr2 (fun z hz => hn z (by rw [hA]; exact List.mem_cons_of_mem _ hz))
      rcases this with ⟨p', h1, h2, h3, h4⟩ | ⟨p', i, h1, h2, h3⟩
      · exact .inl ⟨p', h1, h2, h3.trans (burnP_room p), h4⟩
      · exact .inr ⟨p', i + 1, h1, h2, by rw [h3]; rfl⟩
/-- Behind a checkpoint alone. -/
theorem inv_saved {next : Int} {sv : List UInt8} (h0 : 0 ≤ next) (h1 : next ≤ 1048576) (hs : sv.length ≤ 16383) : Inv [(next, frameB (1 :: sv), (frameB (1 :: sv)).length)] sv [] [] := by
  refine ⟨List.pairwise_singleton _ _, fun x hx => ?_, fun x hx => ?_, fun i x hx => ?_, fun x hx => ?_, fun x hx => ?_, ?_, ?_, fun e => rfl, fun B x e => ?_⟩
  · rw [List.mem_singleton.1 hx]; exact ⟨h0, h1⟩
  · rw [List.mem_singleton.1 hx]; exact whole_check hs _
  · simp at hx
  · rw [List.mem_singleton.1 hx]; exact Nat.le_refl _
  · simp at hx
  · unfold headS
    show ((some (checkB (frmB (frameB (1 :: sv))))).getD Option.none).getD [] = sv
    rw [frm_check hs]
    rfl
  · rw [recsOf_one]
    show recsB (frmB (frameB (1 :: sv))) = []
    rw [frm_check hs]
    rfl
  · have hB : B = [] := by
      have := congrArg List.length e
      rw [List.length_append] at this
      exact List.length_eq_zero_iff.1 (by simpa using this)
    subst hB
    obtain rfl : (next, frameB (1 :: sv), (frameB (1 :: sv)).length) = x := by simpa using e
    have hw := whole_check (next := next) hs (frameB (1 :: sv)).length
    exact ⟨(frmB (frameB (1 :: sv))).length, Nat.le_refl _, by rw [List.take_length]; exact Nat.le_of_eq hw.2, List.nil_prefix, fun _ _ => List.length_pos_iff.2 hw.1⟩
/-- What a Save leaves: the checkpoint; or, behind a crash, what was there or the checkpoint. -/
theorem save_up {J : Js} {n m : Nat} {st sv : List UInt8} {all sure : List (List UInt8)} (h : LiveP J.p n m st all sure) (hn : n ≤ 63) (hs : sv.length ≤ 60) (hz : m + (sv.length + 8) ≤ 20000) :
    ((saveP J sv).1 = 0 ∧ LiveP (saveP J sv).2.p (n + 1) (m + (sv.length + 8)) sv [] [] ∧ (saveP J sv).2.seg = J.seg ∧ (saveP J sv).2.rs = []) ∨ ((saveP J sv).1 = 8 ∧ (saveP J sv).2.p.down = true ∧ (saveP J sv).2.seg = J.seg ∧ (saveP J sv).2.rs.length ≤ J.rs.length ∧ OpensOr (saveP J sv).2.p.A st sure all sv) := by
  have hfl : (frameB (1 :: sv)).length = sv.length + 8 := by rw [frameB_len, List.length_cons]
  rcases settle_up h (by omega) with ⟨next, p2, he, hl, hsy, hn0, hn1, hlt⟩ | ⟨next, p2, he, hdn, hAA⟩
  · have hsz := hl.size
    have hln := hl.len
    have hd := new_up (c := frameB (1 :: sv)) hl.down hl.inv.rises hlt hn0 (by omega) (by rw [hl.room]; omega) (by omega)
    have hwk : ∀ {A : List Sg}, OpensOr A st all all sv → OpensOr A st sure all sv := fun ho => ho.weaken h.inv.all (List.prefix_refl _)
    unfold upP at hd
    by_cases hf : p2.fuse = 0
    · rw [if_pos hf] at hd
      have hst : startP p2 next (frameB (1 :: sv)) = (8, { p2 with down := true }) := by unfold startP; rw [hd, if_neg (by simp)]
      rw [saveP_start (by omega) he hst (by decide)]
      have e3 : (doS { p2 with down := true } 3 next 0 []).2 = { p2 with down := true } := doS_down (p := { p2 with down := true }) rfl hl.inv.rises _ _ _ _
      rw [e3]
      exact .inr ⟨rfl, rfl, rfl, Nat.le_refl _, hwk (hl.inv.opens.or sv)⟩
    · rw [if_neg hf] at hd
      have hr3 := rises_append hl.inv.rises (x := (next, frameB (1 :: sv), 0)) hlt
      have hd2 := sync_up (p := { burnP p2 with A := p2.A ++ [(next, frameB (1 :: sv), 0)] }) (B := p2.A) (s := next) (b := frameB (1 :: sv)) (k := 0) rfl ((burnP_down p2).trans hl.down) hr3 hn0 (by omega)
      have hso : startP p2 next (frameB (1 :: sv)) = doS { burnP p2 with A := p2.A ++ [(next, frameB (1 :: sv), 0)] } 1 next 0 [] := by unfold startP; rw [hd, if_pos rfl]
      rw [hd2] at hso
      unfold upP at hso
      by_cases hf2 : ({ burnP p2 with A := p2.A ++ [(next, frameB (1 :: sv), 0)] } : Pl).fuse = 0
      · rw [if_pos hf2] at hso
        rw [saveP_start (by omega) he hso (by decide)]
        rw [doS_down rfl hr3]
        exact .inr ⟨rfl, rfl, rfl, Nat.le_refl _, hwk (saving_opens hl.inv hsy hlt hn0 (by omega) (by omega) (Nat.zero_le _))⟩
      · rw [if_neg hf2] at hso
        have hr4 := rises_append hl.inv.rises (x := (next, frameB (1 :: sv), (frameB (1 :: sv)).length)) hlt
        have hn4 : Named (p2.A ++ [(next, frameB (1 :: sv), (frameB (1 :: sv)).length)]) := fun y hy => by
          rcases List.mem_append.1 hy with hy | hy
          · exact hl.inv.named y hy
          · rw [List.mem_singleton.1 hy]; exact ⟨hn0, by show next ≤ _; omega⟩
        have hdr := drops_up (x := (next, frameB (1 :: sv), (frameB (1 :: sv)).length)) p2.A { burnP { burnP p2 with A := p2.A ++ [(next, frameB (1 :: sv), 0)] } with A := p2.A ++ [(next, frameB (1 :: sv), (frameB (1 :: sv)).length)] } rfl ((burnP_down _).trans ((burnP_down p2).trans hl.down)) hr4 hn4
        rcases hdr with ⟨p', g1, g2, g3, g4⟩ | ⟨p', i, g1, g2, g3⟩
        · rw [saveP_ok (by omega) he hso g1]
          refine .inl ⟨rfl, ⟨g3.trans ((burnP_room _).trans ((burnP_room p2).trans hl.room)), g4, ?_, fun x hx => ?_, ?_⟩, rfl, rfl⟩
          · show Inv p'.A sv [] []
            rw [g2]
            exact inv_saved hn0 (by omega) (by omega)
          · have hx' : x ∈ p'.A := hx
            rw [g2] at hx'
            rw [List.mem_singleton.1 hx']
            show next < _
            omega
          · show sizeS p'.A ≤ _
            rw [g2]
            have : sizeS [((next, frameB (1 :: sv), (frameB (1 :: sv)).length) : Sg)] = (frameB (1 :: sv)).length := by simp [sizeS]
            omega
        · rw [saveP_ok (by omega) he hso g1]
          refine .inr ⟨rfl, g2, rfl, Nat.zero_le _, ?_⟩
          show OpensOr p'.A st sure all sv
          rw [g3]
          have hmem : ∀ y ∈ p2.A.drop i, y ∈ p2.A := fun y hy => List.mem_of_mem_drop hy
          refine saved_opens (fun y hy => ⟨hsy y (hmem y hy), (hl.inv.whole y (hmem y hy)).len⟩) (rises_append ?_ (x := (next, frameB (1 :: sv), (frameB (1 :: sv)).length)) fun y hy => hlt y (hmem y hy)) (fun y hy => ?_) (by omega) st sure all
          · have := hl.inv.rises
            unfold Rises at *
            exact this.sublist (List.drop_sublist _ _)
          · rcases List.mem_append.1 hy with hy | hy
            · exact hl.inv.named y (hmem y hy)
            · rw [List.mem_singleton.1 hy]; exact ⟨hn0, by show next ≤ _; omega⟩
  · rw [saveP_settle (by omega) he (by decide)]
    refine .inr ⟨rfl, hdn, rfl, Nat.le_refl _, ?_⟩
    show OpensOr p2.A st sure all sv
    rw [hAA]
    exact h.inv.opens.or sv
end Go.Proofs.YtnegnokielmgkaaGreatDoor

namespace Go.Proofs.YtnegnokielmgkaaGreatDoor

structure Fits (p : Pl) : Prop where
  room : p.room = 20000
  nodup : (numsOf p.A).Nodup
  size : sizeS p.A ≤ 20000
  le : ∀ x ∈ p.A, x.2.2 ≤ x.2.1.length
theorem Fits.of {p p' : Pl} (h : Fits p) (hr : p'.room = p.room) (hn : (numsOf p'.A).Nodup) (hs : sizeS p'.A ≤ 20000) (hl : ∀ x ∈ p'.A, x.2.2 ≤ x.2.1.length) : Fits (rise p') :=
  ⟨hr.trans h.room, (numsOf_perm (riseA_perm p'.A)).nodup_iff.2 hn, by show sizeS (riseA _) ≤ _; rw [sizeS_rise]; exact hs, fun x hx => hl x (mem_rise.1 hx)⟩
theorem Fits.same {p : Pl} (h : Fits p) : Fits (rise p) := h.of rfl h.nodup h.size h.le
theorem look_le {p : Pl} (h : Fits p) (s : Int) : ((lookS p.A s).getD ([], 0)).2 ≤ ((lookS p.A s).getD ([], 0)).1.length := by
  cases hl : lookS p.A s with
  | none => exact Nat.le_refl _
  | some y => exact h.le _ (lookS_some hl)
theorem Fits.put {p : Pl} (h : Fits p) (s : Int) (b : List UInt8) (k : Nat) (hk : k ≤ b.length) (hz : sizeS p.A + b.length ≤ 20000 + ((lookS p.A s).getD ([], 0)).1.length) : Fits (rise { burnP p with A := putS p.A (s, b, k) }) := by
  refine h.of (burnP_room p) (putS_nodup h.nodup _) ?_ (fun x hx => ?_)
  · have := sizeS_putS h.nodup s b k
    show sizeS (putS p.A _) ≤ _
    omega
  · rcases List.mem_cons.1 hx with rfl | hx
    · exact hk
    · exact h.le x (mem_dropS.1 hx).1
theorem Fits.doS {p : Pl} (h : Fits p) (k : Nat) (s n : Int) (b : List UInt8) : Fits (doS p k s n b).2 := by
  have hl := look_le h s
  have hsz := h.size
  unfold Go.Proofs.YtnegnokielmgkaaGreatDoor.doS doP
  show Fits (rise (ite _ _ _ : Int × Pl).2)
  split
  · exact h.same
  split
  · exact h.same
  split
  · exact h.same
  split
  · exact h.same
  rename_i _ _ _ hfit
  split
  · exact h.same
  split
  · exact ⟨h.room, (numsOf_perm (riseA_perm p.A)).nodup_iff.2 h.nodup, by show sizeS (riseA _) ≤ _; rw [sizeS_rise]; exact h.size, fun x hx => h.le x (mem_rise.1 hx)⟩
  · unfold doneP
    match k, hfit with
    | 0, hfit =>
      have hf : b.length ≤ p.room - sizeS p.A := Classical.byContradiction fun hc => hfit ⟨rfl, .inl (by omega)⟩
      rw [h.room] at hf
      refine h.put s _ _ (by rw [List.length_append]; omega) ?_
      rw [List.length_append]
      omega
    | 1, _ => exact h.put s _ _ (Nat.le_refl _) (by omega)
    | 2, _ => exact h.put s _ _ (by rw [List.length_take]; omega) (by rw [List.length_take]; omega)
    | k + 3, _ =>
      refine h.of (burnP_room p) (dropS_nodup h.nodup _) ?_ (fun x hx => h.le x (mem_dropS.1 hx).1)
      have := sizeS_dropS h.nodup s
      show sizeS (dropS p.A s) ≤ _
      omega
theorem Fits.settle {p : Pl} (h : Fits p) : Fits (settleP p).2.2 := by
  unfold settleP
  cases curP p with
  | none => exact h
  | some s => exact h.doS 1 s 0 []
theorem Fits.place {p : Pl} (h : Fits p) (S mx : Nat) : Fits (placeP p S mx).2.2 := by
  cases hc : curP p with
  | none => rw [placeP_none hc]; exact h
  | some s =>
    rw [placeP_some hc]
    split
    · exact h
    · exact h.settle
theorem Fits.start {p : Pl} (h : Fits p) (s : Int) (b : List UInt8) : Fits (startP p s b).2 := by
  unfold startP
  split
  · exact (h.doS _ _ _ _).doS _ _ _ _
  · exact h.doS _ _ _ _
theorem Fits.drops (ahead : Int) : ∀ (l : List Int) {p : Pl}, Fits p → Fits (dropsP ahead l p).2
  | [], p, h => h
  | s :: l, p, h => by
    rw [dropsP_cons]
    split
    · exact h
    split
    · exact h.doS _ _ _ _
    · exact Fits.drops ahead l (h.doS _ _ _ _)
theorem Fits.add {J : Js} (h : Fits J.p) (recs : List (List UInt8)) : Fits (addP J recs).2.p := by
  unfold addP
  split
  · exact h
  split
  · exact h
  split
  · exact h.place _ _
  split
  · exact (h.place _ _).doS _ _ _ _
  · exact (h.place _ _).doS _ _ _ _
theorem Fits.sync {J : Js} (h : Fits J.p) : Fits (syncP J).2.p := h.settle
theorem Fits.write {J : Js} (h : Fits J.p) (recs : List (List UInt8)) : Fits (writeP J recs).2.p := by
  unfold writeP
  split
  · exact h.add recs
  · exact Fits.sync (h.add recs)
theorem Fits.save {J : Js} (h : Fits J.p) (sv : List UInt8) : Fits (saveP J sv).2.p := by
  unfold saveP
  split
  · exact h
  split
  · exact h.settle
  split
  · exact (h.settle.start _ _).doS _ _ _ _
  · exact Fits.drops _ _ (h.settle.start _ _)
theorem Fits.crash {p : Pl} (h : Fits p) (ks : List Int) : sizeS (crI p.A ks p.A.length) ≤ 20000 := by
  have := crI_size h.le ks p.A.length (Nat.le_refl _)
  rw [List.take_length] at this
  exact Nat.le_trans this h.size
theorem Fits.fuse {p : Pl} (h : Fits p) (f : Int) : Fits { p with fuse := f } := ⟨h.room, h.nodup, h.size, h.le⟩
end Go.Proofs.YtnegnokielmgkaaGreatDoor
