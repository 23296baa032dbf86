/- JournalOpens in plain words: what is opened over any segments, as the reference says it. -/
import Derived.Test.YtnegnokielmgkaaGreatDoorZJlaA
set_option linter.unusedSimpArgs false
set_option linter.unusedVariables false
set_option linter.unnecessarySimpa false
namespace Go.Proofs.YtnegnokielmgkaaGreatDoor

/-- No more is synced than is there. -/
def Syn (A : List Sg) : Prop := ∀ x ∈ A, x.2.2 ≤ x.2.1.length
/-- A segment, cut behind its frames. -/
def cutS (x : Sg) : Sg := (x.1, x.2.1.take (endP (frmB x.2.1)), min x.2.2 (endP (frmB x.2.1)))
theorem endP_le (b : List UInt8) : endP (frmB b) ≤ b.length := (frmB_is b).1.end_le
theorem frm_cut (x : Sg) : frmB (cutS x).2.1 = frmB x.2.1 := by
  have h := (frmB_is x.2.1).1
  have e : x.2.1.take (endP (frmB x.2.1)) = frs (frmB x.2.1) := by
    have h2 := congrArg (List.take (endP (frmB x.2.1))) h.eq
    rw [h2, List.take_append_of_le_length (by unfold endP; omega)]
    unfold endP
    exact List.take_length
  show frmB (x.2.1.take (endP (frmB x.2.1))) = _
  rw [e]
  exact frmB_frs h.le
theorem cut_end {x : Sg} : endP (frmB (cutS x).2.1) = (cutS x).2.1.length := by
  rw [frm_cut]
  show _ = (x.2.1.take (endP (frmB x.2.1))).length
  rw [List.length_take, Nat.min_eq_left (endP_le _)]
theorem cut_full {x : Sg} (h : endP (frmB x.2.1) = x.2.1.length) (hs : x.2.2 ≤ x.2.1.length) : cutS x = x := by
  obtain ⟨a, b, c⟩ := x
  unfold cutS
  simp only at *
  rw [h, List.take_length, Nat.min_eq_left hs]
theorem cut_syn (x : Sg) : (cutS x).2.2 ≤ (cutS x).2.1.length := by
  show min x.2.2 (endP (frmB x.2.1)) ≤ (x.2.1.take (endP (frmB x.2.1))).length
  rw [List.length_take, Nat.min_eq_left (endP_le _)]
  exact Nat.min_le_right _ _
/-- How many of the first n are left. -/
def keepN (A : List Sg) : Nat → Nat
  | 0 => 0
  | n + 1 => match A[n]? with
    | none => 0
    | some x => if frmB x.2.1 ≠ [] then n + 1 else keepN A n
/-- The first n, the last one of them cut. -/
def cutA (A : List Sg) : Nat → List Sg
  | 0 => []
  | n + 1 => match A[n]? with
    | none => []
    | some x => A.take n ++ [cutS x]
section
variable {A : List Sg} {n room : Nat} {x : Sg}
theorem keepN_some (hx : A[n]? = some x) (hf : ¬ frmB x.2.1 = []) : keepN A (n + 1) = n + 1 := by
  show (match A[n]? with | none => 0 | some x => if frmB x.2.1 ≠ [] then n + 1 else keepN A n) = _
  rw [hx]
  exact if_pos hf
theorem keepN_on (hx : A[n]? = some x) (hf : frmB x.2.1 = []) : keepN A (n + 1) = keepN A n := by
  show (match A[n]? with | none => 0 | some x => if frmB x.2.1 ≠ [] then n + 1 else keepN A n) = _
  rw [hx]
  exact if_neg (by simp [hf])
theorem cutA_at (hx : A[n]? = some x) : cutA A (n + 1) = A.take n ++ [cutS x] := by
  show (match A[n]? with | none => [] | some x => A.take n ++ [cutS x]) = _
  rw [hx]
theorem take_succ' (hx : A[n]? = some x) : A.take (n + 1) = A.take n ++ [x] := by rw [List.take_add_one, hx]; rfl
end
theorem keepN_le (A : List Sg) : ∀ n, keepN A n ≤ n
  | 0 => Nat.le_refl _
  | n + 1 => by
    cases hx : A[n]? with
    | none =>
      show (match A[n]? with | none => 0 | some x => if frmB x.2.1 ≠ [] then n + 1 else keepN A n) ≤ _
      rw [hx]; exact Nat.zero_le _
    | some x =>
      by_cases hf : frmB x.2.1 = []
      · rw [keepN_on hx hf]; have := keepN_le A n; omega
      · rw [keepN_some hx hf]; omega
theorem keepN_last (A : List Sg) : ∀ n, keepN A n ≠ 0 → ∃ m x, keepN A n = m + 1 ∧ A[m]? = some x ∧ frmB x.2.1 ≠ []
  | 0, h => absurd rfl h
  | n + 1, h => by
    cases hx : A[n]? with
    | none =>
      refine absurd ?_ h
      show (match A[n]? with | none => 0 | some x => if frmB x.2.1 ≠ [] then n + 1 else keepN A n) = 0
      rw [hx]
    | some x =>
      by_cases hf : frmB x.2.1 = []
      · rw [keepN_on hx hf] at h ⊢; exact keepN_last A n h
      · rw [keepN_some hx hf]; exact ⟨n, x, rfl, hx, hf⟩
theorem Rises.tk {A : List Sg} (h : Rises A) (n : Nat) : Rises (A.take n) := List.Pairwise.sublist (List.take_sublist n A) h
theorem mend_is {A : List Sg} {room : Nat} (hr : Rises A) (hn : Named A) (hs : Syn A) : ∀ n, n ≤ A.length → mendP A n ⟨room, A.take n, -1, false⟩ = (0, ⟨room, cutA A (keepN A n), -1, false⟩, keepN A n)
  | 0, _ => by rw [List.take_zero]; rfl
  | n + 1, hl => by
    have hx : A[n]? = some A[n] := List.getElem?_eq_getElem (by omega)
    have hm := List.mem_of_getElem? hx
    generalize A[n] = x at hx hm
    have ht := take_succ' hx
    have hr2 : Rises (A.take n ++ [x]) := by rw [← ht]; exact hr.tk _
    obtain ⟨h1, h2⟩ := rises_split hr2
    obtain ⟨n1, n2⟩ := hn x hm
    by_cases hf : frmB x.2.1 = []
    · rw [keepN_on hx hf, ht, mendP_on hx hf (drop_last1 h1 n1 n2 h2)]
      exact mend_is hr hn hs n (by omega)
    · rw [keepN_some hx hf, mendP_some hx hf, cutA_at hx, ht]
      unfold trimP
      by_cases he : endP (frmB x.2.1) = x.2.1.length
      · rw [if_pos he, cut_full he (hs x hm)]
      · rw [if_neg he]
        obtain ⟨xn, xb, xs⟩ := x
        show ((doS _ 2 xn (endP (frmB xb) : Nat) []).1, _, _) = _
        rw [trim_last h1 n1 n2 h2 (endP_le xb)]
        rfl
/-- The number of the last one that begins with a checkpoint. -/
def lastF (B : List Sg) : Int := B.foldl (fun l x => if (checkB (frmB x.2.1)).isSome then x.1 else l) (-1)
theorem lastF_snoc (B : List Sg) (x : Sg) : lastF (B ++ [x]) = if (checkB (frmB x.2.1)).isSome then x.1 else lastF B := by
  unfold lastF
  rw [List.foldl_append]
  rfl
def FrmE (x y : Sg) : Prop := x.1 = y.1 ∧ frmB x.2.1 = frmB y.2.1
theorem cutA_alike {A : List Sg} {k : Nat} (hk : k ≤ A.length) : (cutA A k).length = k ∧ ∀ (i : Nat) (x y : Sg), (cutA A k)[i]? = some x → (A.take k)[i]? = some y → FrmE x y := by
  cases k with
  | zero => exact ⟨rfl, fun i x y h => by cases h⟩
  | succ n =>
    have hx : A[n]? = some A[n] := List.getElem?_eq_getElem (by omega)
    generalize A[n] = z at hx
    rw [cutA_at hx, take_succ' hx]
    refine ⟨by rw [List.length_append, List.length_take]; simp; omega, fun i x y h1 h2 => ?_⟩
    by_cases hi : i < (A.take n).length
    · rw [List.getElem?_append_left hi] at h1 h2
      rw [h1] at h2
      cases h2
      exact ⟨rfl, rfl⟩
    · rw [List.getElem?_append_right (by omega)] at h1 h2
      cases hj : i - (A.take n).length with
      | zero =>
        rw [hj] at h1 h2
        cases h1; cases h2
        exact ⟨rfl, frm_cut z⟩
      | succ j => rw [hj] at h1; cases h1
def keyF (x : Sg) : Int × List (List UInt8) := (x.1, frmB x.2.1)
def SameF (B C : List Sg) : Prop := B.map keyF = C.map keyF
theorem alike_fold {B C : List Sg} (hl : B.length = C.length) (h : ∀ (i : Nat) (x y : Sg), B[i]? = some x → C[i]? = some y → FrmE x y) : SameF B C := by
  unfold SameF
  apply List.ext_getElem?
  intro i
  rw [List.getElem?_map, List.getElem?_map]
  by_cases hi : i < B.length
  · have h1 : B[i]? = some B[i] := List.getElem?_eq_getElem hi
    have h2 : C[i]? = some C[i] := List.getElem?_eq_getElem (by omega)
    have := h i _ _ h1 h2
    rw [h1, h2]
    show some (keyF _) = some (keyF _)
    unfold keyF
    rw [this.1, this.2]
  · rw [List.getElem?_eq_none (by omega), List.getElem?_eq_none (by omega)]
theorem lastF_key (B : List Sg) : lastF B = (B.map keyF).foldl (fun l y => if (checkB y.2).isSome then y.1 else l) (-1) := by
  unfold lastF
  rw [List.foldl_map]
  rfl
theorem lastF_alike {B C : List Sg} (h : SameF B C) : lastF B = lastF C := by
  rw [lastF_key, lastF_key, h]
theorem recsOf_key (B : List Sg) : recsOf B = (B.map keyF).flatMap fun y => recsB y.2 := by
  unfold recsOf
  rw [List.flatMap_map]
  rfl
theorem recsOf_alike {B C : List Sg} (h : SameF B C) : recsOf B = recsOf C := by
  rw [recsOf_key, recsOf_key, h]
theorem drop_alike {B C : List Sg} (h : SameF B C) (i : Nat) : SameF (B.drop i) (C.drop i) := by
  unfold SameF at *
  rw [List.map_drop, List.map_drop, h]
theorem begin_last {A : List Sg} : ∀ (k : Nat), 0 < k → k ≤ A.length → ∃ x, A[beginP A k]? = some x ∧ (((checkB (frmB x.2.1)).isSome ∧ lastF (A.take k) = x.1) ∨ (beginP A k = 0 ∧ checkB (frmB x.2.1) = none ∧ lastF (A.take k) = -1))
  | 0, h, _ => absurd h (by omega)
  | 1, _, hl => by
    have hx : A[0]? = some A[0] := List.getElem?_eq_getElem (by omega)
    generalize A[0] = x at hx
    refine ⟨x, hx, ?_⟩
    have e : A.take 1 = [] ++ [x] := by rw [take_succ' hx, List.take_zero]
    rw [e, lastF_snoc]
    cases hc : checkB (frmB x.2.1) with
    | none => exact .inr ⟨rfl, rfl, rfl⟩
    | some r => exact .inl ⟨rfl, rfl⟩
  | k + 2, _, hl => by
    have hx : A[k + 1]? = some A[k + 1] := List.getElem?_eq_getElem (by omega)
    generalize A[k + 1] = x at hx
    rw [beginP_two hx, take_succ' hx, lastF_snoc]
    cases hc : checkB (frmB x.2.1) with
    | some r => exact ⟨x, hx, .inl ⟨by rw [hc]; rfl, rfl⟩⟩
    | none => exact begin_last (k + 1) (by omega) (by omega)
theorem drops_split {ahead : Int} {room : Nat} : ∀ (B C : List Sg), Rises (B ++ C) → (∀ y ∈ B, 0 ≤ y.1 ∧ y.1 ≤ 1048576 ∧ y.1 < ahead) → (∀ y, C.head? = some y → ahead ≤ y.1) → dropsP ahead (numsOf (B ++ C)) ⟨room, B ++ C, -1, false⟩ = (0, ⟨room, C, -1, false⟩)
  | [], C, h, _, hc => by
    cases C with
    | nil => rfl
    | cons c C =>
      show dropsP ahead (c.1 :: numsOf C) _ = _
      rw [dropsP_cons, if_pos (hc c rfl)]
      rfl
  | y :: B, C, h, hB, hc => by
    have hy := hB y (List.mem_cons_self ..)
    show dropsP ahead (y.1 :: numsOf (B ++ C)) ⟨room, y :: (B ++ C), -1, false⟩ = _
    have hd := drop_first (A := B ++ C) (room := room) h hy.1 hy.2.1
    rw [dropsP_cons, if_neg (by omega), hd, if_neg (by simp)]
    have h' : Rises (B ++ C) := by
      have h2 : Rises (y :: (B ++ C)) := h
      unfold Rises at *
      rw [List.pairwise_cons] at h2
      exact h2.2
    exact drops_split B C h' (fun z hz => hB z (List.mem_cons_of_mem _ hz)) hc
theorem cutA_rises {A : List Sg} (hr : Rises A) (k : Nat) : Rises (cutA A k) := by
  cases k with
  | zero => exact List.Pairwise.nil
  | succ n =>
    cases hx : A[n]? with
    | none =>
      show Rises (match A[n]? with | none => [] | some x => A.take n ++ [cutS x])
      rw [hx]; exact List.Pairwise.nil
    | some x =>
      rw [cutA_at hx]
      have := hr.tk (n + 1)
      rw [take_succ' hx] at this
      obtain ⟨h1, h2⟩ := rises_split this
      exact rises_append (x := cutS x) h1 h2
theorem cutA_mem {A : List Sg} {k : Nat} {y : Sg} (h : y ∈ cutA A k) : ∃ x ∈ A, y = x ∨ y = cutS x := by
  cases k with
  | zero => cases h
  | succ n =>
    cases hx : A[n]? with
    | none =>
      replace h : y ∈ (match A[n]? with | none => [] | some x => A.take n ++ [cutS x]) := h
      rw [hx] at h; cases h
    | some x =>
      rw [cutA_at hx] at h
      rcases List.mem_append.1 h with h | h
      · exact ⟨y, List.mem_of_mem_take h, .inl rfl⟩
      · exact ⟨x, List.mem_of_getElem? hx, .inr (List.mem_singleton.1 h)⟩
theorem cutA_named {A : List Sg} (hn : Named A) (k : Nat) : Named (cutA A k) := fun y hy => by
  obtain ⟨x, hx, rfl | rfl⟩ := cutA_mem hy
  · exact hn _ hx
  · exact hn x hx
theorem cutA_syn {A : List Sg} (hs : Syn A) (k : Nat) : Syn (cutA A k) := fun y hy => by
  obtain ⟨x, hx, rfl | rfl⟩ := cutA_mem hy
  · exact hs _ hx
  · exact cut_syn x
/-- What is left, its state. -/
def openC (B : List Sg) : List Sg := B.dropWhile fun x => decide (x.1 < lastF B)
def openB (A : List Sg) : List Sg := cutA A (keepN A A.length)
theorem Rises.get {B : List Sg} (h : Rises B) {i j : Nat} {x y : Sg} (hi : B[i]? = some x) (hj : B[j]? = some y) (hij : i < j) : x.1 < y.1 := by
  unfold Rises at h
  rw [List.pairwise_iff_getElem] at h
  obtain ⟨h1, rfl⟩ := List.getElem?_eq_some_iff.1 hi
  obtain ⟨h2, rfl⟩ := List.getElem?_eq_some_iff.1 hj
  exact h i j h1 h2 hij
theorem dropWhile_at {α : Type} {p : α → Bool} : ∀ (l : List α) (i : Nat), (∀ (j : Nat) (x : α), j < i → l[j]? = some x → p x = true) → (∀ x, l[i]? = some x → p x = false) → l.dropWhile p = l.drop i
  | [], i, _, _ => by simp
  | a :: l, 0, _, h => by rw [List.dropWhile_cons, if_neg (by rw [h a rfl]; simp)]; rfl
  | a :: l, i + 1, h1, h2 => by
    rw [List.dropWhile_cons, if_pos (h1 0 a (by omega) rfl), List.drop_succ_cons]
    exact dropWhile_at l i (fun j x hj hx => h1 (j + 1) x (by omega) hx) (fun x hx => h2 x hx)
/-- What is opened over whole lists: the state and the records are those of what is left. -/
theorem load_is {A : List Sg} {room seg : Nat} (hr : Rises A) (hn : Named A) (hs : Syn A) : loadP ⟨room, A, -1, false⟩ seg = (0, ⟨⟨room, openC (openB A), -1, false⟩, seg, headS (openC (openB A)) 0, recsOf (openC (openB A))⟩) := by
  have hm := mend_is (room := room) hr hn hs A.length (Nat.le_refl _)
  rw [List.take_length] at hm
  have hk := keepN_le A A.length
  unfold openB
  by_cases h0 : keepN A A.length = 0
  · rw [h0] at hm ⊢
    exact loadP_none hm
  · generalize keepN A A.length = k at hm hk h0
    obtain ⟨hl, ha⟩ := cutA_alike hk
    have hal := alike_fold (C := A.take k) (by rw [hl, List.length_take]; omega) ha
    obtain ⟨x, hx, hcase⟩ := begin_last (A := A) k (by omega) hk
    have hlt := beginP_lt (A := A) k (by omega)
    have hlast := lastF_alike hal
    generalize hi : beginP A k = i at hx hcase hlt
    have hxt : (A.take k)[i]? = some x := by rw [List.getElem?_take, if_pos hlt]; exact hx
    obtain ⟨y, hy⟩ : ∃ y, (cutA A k)[i]? = some y := ⟨_, List.getElem?_eq_getElem (by omega)⟩
    have hxy := ha i y x hy hxt
    have hN : headN A i = x.1 := by unfold headN; rw [hx]; rfl
    have hR := cutA_rises hr k
    have hD := cutA_named hn k
    have hC : openC (cutA A k) = (cutA A k).drop i := by
      unfold openC
      rcases hcase with ⟨_, h⟩ | ⟨h, _, h2⟩
      · rw [hlast, h]
        refine dropWhile_at _ i (fun j z hj hz => ?_) (fun z hz => ?_)
        · have := hR.get hz hy hj
          rw [← hxy.1]; simpa using this
        · rw [hy] at hz; cases hz
          rw [← hxy.1]; simp
      · rw [hlast, h2, h]
        refine dropWhile_at _ 0 (fun j z hj hz => by omega) (fun z hz => ?_)
        have := (hD z (List.mem_of_getElem? hz)).1
        simp; omega
    have hsplit : (cutA A k).take i ++ (cutA A k).drop i = cutA A k := List.take_append_drop i _
    have hhead : ((cutA A k).drop i).head? = some y := by rw [List.head?_drop]; exact hy
    have hd : dropsP (headN A (beginP A k)) (numsOf (cutA A k)) ⟨room, cutA A k, -1, false⟩ = (0, ⟨room, (cutA A k).drop i, -1, false⟩) := by
      rw [hi, hN]
      have := drops_split (room := room) (ahead := x.1) ((cutA A k).take i) ((cutA A k).drop i) (by rw [hsplit]; exact hR) (fun z hz => by
        obtain ⟨j, hj⟩ := List.mem_iff_getElem?.1 hz
        rw [List.getElem?_take] at hj
        split at hj
        · have := hR.get hj hy (by assumption)
          have := hD z (List.mem_of_getElem? hj)
          have := hxy.1
          omega
        · cases hj) (fun z hz => by rw [hhead] at hz; cases hz; rw [hxy.1]; exact Int.le_refl _)
      rwa [hsplit] at this
    have := loadP_ok (p := ⟨room, A, -1, false⟩) (seg := seg) hm h0 hd
    rw [this, hC, hi]
    have e1 : headS A i = headS ((cutA A k).drop i) 0 := by
      unfold headS
      have e0 : ((cutA A k).drop i)[0]? = some y := by rw [List.getElem?_drop]; exact hy
      rw [hx, e0]
      show ((some (checkB (frmB x.2.1))).getD none).getD [] = ((some (checkB (frmB y.2.1))).getD none).getD []
      rw [hxy.2]
    have e2 : recsOf ((A.take k).drop i) = recsOf ((cutA A k).drop i) := (recsOf_alike (drop_alike hal i)).symm
    rw [e1]
    show (0, (⟨⟨room, (cutA A k).drop i, -1, false⟩, seg, _, recsOf ((A.take k).drop i)⟩ : Js)) = _
    rw [e2]
theorem openC_sub (B : List Sg) : (openC B).Sublist B := List.dropWhile_sublist _
theorem foldl_late {B : List Sg} {x : Sg} (h : (checkB (frmB x.2.1)).isSome) (a b : Int) : (x :: B).foldl (fun l x => if (checkB (frmB x.2.1)).isSome then x.1 else l) a = (x :: B).foldl (fun l x => if (checkB (frmB x.2.1)).isSome then x.1 else l) b := by
  rw [List.foldl_cons, List.foldl_cons, if_pos h, if_pos h]
/-- Opened once more it is the same. -/
theorem again_is {A : List Sg} {room seg : Nat} (hr : Rises A) (hn : Named A) (hs : Syn A) : loadP ⟨room, openC (openB A), -1, false⟩ seg = (0, ⟨⟨room, openC (openB A), -1, false⟩, seg, headS (openC (openB A)) 0, recsOf (openC (openB A))⟩) := by
  have hk := keepN_le A A.length
  by_cases h0 : keepN A A.length = 0
  · unfold openB
    rw [h0]
    exact loadP_none rfl
  · obtain ⟨m, x, hm, hx, hf⟩ := keepN_last A A.length h0
    have hB : openB A = A.take m ++ [cutS x] := by unfold openB; rw [hm]; exact cutA_at hx
    have hR : Rises (openB A) := cutA_rises hr _
    obtain ⟨hal1, hal2⟩ := cutA_alike hk
    obtain ⟨z, hz, hcase⟩ := begin_last (A := A) (keepN A A.length) (by omega) hk
    have hlt := beginP_lt (A := A) (keepN A A.length) (by omega)
    have hlast := lastF_alike (alike_fold (C := A.take (keepN A A.length)) (by rw [hal1, List.length_take]; omega) hal2)
    generalize hi : beginP A (keepN A A.length) = i at hz hcase hlt
    have hxt : (A.take (keepN A A.length))[i]? = some z := by rw [List.getElem?_take, if_pos hlt]; exact hz
    obtain ⟨y, hy⟩ : ∃ y, (openB A)[i]? = some y := ⟨_, List.getElem?_eq_getElem (by show i < (cutA A _).length; omega)⟩
    have hzy := hal2 i y z hy hxt
    have hD : Named (openB A) := cutA_named hn _
    have hC : openC (openB A) = (openB A).drop i ∧ (((checkB (frmB y.2.1)).isSome ∧ lastF (openB A) = y.1) ∨ (i = 0 ∧ lastF (openB A) = -1)) := by
      rcases hcase with ⟨h1, h⟩ | ⟨h, _, h2⟩
      · have hl : lastF (openB A) = y.1 := (hlast.trans h).trans hzy.1.symm
        refine ⟨?_, .inl ⟨by rw [hzy.2]; exact h1, hl⟩⟩
        unfold openC
        rw [hl]
        refine dropWhile_at _ i (fun j u hj hu => ?_) (fun u hu => ?_)
        · simpa using hR.get hu hy hj
        · rw [hy] at hu; cases hu; simp
      · have hl : lastF (openB A) = -1 := hlast.trans h2
        refine ⟨?_, .inr ⟨h, hl⟩⟩
        unfold openC
        rw [hl, h]
        refine dropWhile_at _ 0 (fun j u hj hu => by omega) (fun u hu => ?_)
        have := (hD u (List.mem_of_getElem? hu)).1
        simp; omega
    obtain ⟨hC, hch⟩ := hC
    have hlen : i ≤ m := by
      have : (openB A).length = m + 1 := by show (cutA A _).length = _; omega
      omega
    have hCl : openC (openB A) = (A.take m).drop i ++ [cutS x] := by
      rw [hC, hB, List.drop_append_of_le_length (by
        have : (openB A).length = m + 1 := by show (cutA A _).length = _; omega
        rw [hB, List.length_append] at this
        simp at this ⊢
        omega)]
    have hCR : Rises (openC (openB A)) := List.Pairwise.sublist (openC_sub _) hR
    have hCN : Named (openC (openB A)) := fun u hu => hD u ((openC_sub _).subset hu)
    have hCS : Syn (openC (openB A)) := fun u hu => cutA_syn hs _ u ((openC_sub _).subset hu)
    have := load_is (room := room) (seg := seg) hCR hCN hCS
    have hb : openB (openC (openB A)) = openC (openB A) := by
      generalize (A.take m).drop i = P at hCl
      rw [hCl]
      have hx2 : (P ++ [cutS x])[P.length]? = some (cutS x) := by simp
      unfold openB
      rw [List.length_append]
      show cutA _ (keepN _ (P.length + 1)) = _
      rw [keepN_some hx2 (by rw [frm_cut]; exact hf), cutA_at hx2, List.take_left, cut_full cut_end (cut_syn x)]
    have hlF : lastF (openC (openB A)) = lastF (openB A) := by
      rcases hch with ⟨h1, h2⟩ | ⟨h1, h2⟩
      · have e0 : (openB A).drop i = y :: (openB A).drop (i + 1) := by
          obtain ⟨h3, rfl⟩ := List.getElem?_eq_some_iff.1 hy
          exact List.drop_eq_getElem_cons h3
        have e1 : lastF (openB A) = ((openB A).drop i).foldl (fun l x => if (checkB (frmB x.2.1)).isSome then x.1 else l) (lastF ((openB A).take i)) := by
          unfold lastF
          rw [← List.foldl_append, List.take_append_drop]
        rw [e1, hC, e0]
        exact foldl_late h1 _ _
      · rw [hC, h1, List.drop_zero]
    have hcc : openC (openC (openB A)) = openC (openB A) := by
      show (openC (openB A)).dropWhile _ = _
      rw [hlF]
      have : ∀ u, (openC (openB A))[0]? = some u → decide (u.1 < lastF (openB A)) = false := fun u hu => by
        have h1 : (openC (openB A)).head? = some u := by rw [List.head?_eq_getElem?]; exact hu
        unfold openC at h1
        have := List.head?_dropWhile_not (p := fun x : Sg => decide (x.1 < lastF (openB A))) (openB A)
        rw [h1] at this
        exact this
      exact dropWhile_at _ 0 (fun j u hj _ => by omega) this
    rw [hb, hcc] at this
    exact this
end Go.Proofs.YtnegnokielmgkaaGreatDoor
