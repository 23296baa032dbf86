/- JournalOpens: the reference's tape, and the journal that is opened over it. JournalOpens: the reference's Open over any tape with power: its first loop. -/
import Derived.Test.YtnegnokielmgkaaGreatDoorZJopA
import Derived.Test.YtnegnokielmgkaaGreatDoorZRcsA
import Derived.Test.YtnegnokielmgkaaGreatDoorZRefJ
import Derived.Test.YtnegnokielmgkaaGreatDoorZLawA
import Derived.Test.YtnegnokielmgkaaGreatDoorZJouX
import Derived.Test.YtnegnokielmgkaaGreatDoorZJouH
import Derived.Deep.CutBlock
import Derived.Deep.DeepCutAuto
set_option linter.unusedSimpArgs false
set_option linter.unusedVariables false
set_option linter.unnecessarySimpa false
namespace Go.Proofs.YtnegnokielmgkaaGreatDoor
open Go.RowKit

/-- The reference's tape with segments A, and a journal over it whose block is q; what was there at w0 has not turned but for r and q. -/
structure RJ (w0 w : World) (r q : Nat) (R0 R : RTp) (A : List Sg) (room : Nat) (seg cur : Int) (sv rv : Value) : Prop where
  ok : RefOk w r R
  pl : plR R = ⟨room, A, -1, false⟩
  head : w.heap[q]? = some (.cells #[.pointer (some ⟨r, 0, none⟩), .int .i64 seg, .int .i64 cur, sv, rv] 66 (0, 0))
  touch : Touch (fun k => k = r ∨ k = q) w0 w
  blk : ∀ k, RBlk r R k → RBlk r R0 k ∨ w0.heap.size ≤ k
  qlt : q < w0.heap.size
  qout : ¬ RBlk r R0 q
section
variable {w0 w w' : World} {r q room : Nat} {R0 R : RTp} {A : List Sg} {seg cur : Int} {sv rv : Value}
theorem RJ.far (h : RJ w0 w r q R0 R A room seg cur sv rv) : ¬ RBlk r R q := fun hk => (h.blk q hk).elim h.qout (fun e => by have := h.qlt; omega)
theorem RJ.ne (h : RJ w0 w r q R0 R A room seg cur sv rv) : q ≠ r := fun e => h.far (.inl e)
theorem RJ.isA (h : RJ w0 w r q R0 R A room seg cur sv rv) : absR R.L = A := congrArg Pl.A h.pl
theorem RJ.len (h : RJ w0 w r q R0 R A room seg cur sv rv) : R.L.length = A.length := by rw [← h.isA]; unfold absR; rw [List.length_map]
theorem RJ.rises (h : RJ w0 w r q R0 R A room seg cur sv rv) : Rises A := by rw [← h.isA]; exact h.ok.rises
theorem RJ.keep (h : RJ w0 w r q R0 R A room seg cur sv rv) (hb : Below w.heap.size w w') : RJ w0 w' r q R0 R A room seg cur sv rv :=
  ⟨h.ok.below hb, h.pl, (hb.block q (heap_lt h.head)).trans h.head, h.touch.after hb, h.blk, h.qlt, h.qout⟩
/-- Behind a change of the tape. -/
theorem RJ.did (h : RJ w0 w r q R0 R A room seg cur sv rv) {k : Nat} {sg n : Int} {b : List UInt8} {A' : List Sg} (hd : DoP w r R (doP (plR R) k sg n b).2 w') (hs : doS ⟨room, A, -1, false⟩ k sg n b = (0, ⟨room, A', -1, false⟩)) : (doP (plR R) k sg n b).1 = 0 ∧ ∃ R', RJ w0 w' r q R0 R' A' room seg cur sv rv := by
  rw [← h.pl] at hs
  have h1 : (doP (plR R) k sg n b).1 = 0 := congrArg Prod.fst hs
  have h2 : rise (doP (plR R) k sg n b).2 = ⟨room, A', -1, false⟩ := congrArg Prod.snd hs
  obtain ⟨R', k1, k2, k3, k4⟩ := hd
  have hnd : (numsOf (doP (plR R) k sg n b).2.A).Nodup := doP_nodup (p := plR R) h.ok.nodup k sg n b
  have e : plR R' = rise (doP (plR R) k sg n b).2 := Pl.Eq.uniq k1.rises (riseA_rises hnd) (k2.trans (rise_eq _).symm)
  have hs := h.touch.size
  refine ⟨h1, R', k1, e.trans h2, (k3.block q (heap_lt h.head) h.ne).trans h.head, h.touch.trans k3 (fun i _ hi => .inl hi), fun k hk => ?_, h.qlt, h.qout⟩
  rcases k4 k hk with hk | hk
  · exact h.blk k hk
  · exact .inr (by omega)
/-- The journal's own cells are set. -/
theorem RJ.set (h : RJ w0 w r q R0 R A room seg cur sv rv) (i : Nat) (v : Value) {cur' : Int} {sv' rv' : Value} (e : (#[Value.pointer (some ⟨r, 0, none⟩), .int .i64 seg, .int .i64 cur, sv, rv] : Array Value).setIfInBounds i v = #[.pointer (some ⟨r, 0, none⟩), .int .i64 seg, .int .i64 cur', sv', rv']) : RJ w0 (w.setCell ⟨q, i, none⟩ v) r q R0 R A room seg cur' sv' rv' := by
  have ht : Touch (fun k => k = q) w (w.setCell ⟨q, i, none⟩ v) := (Touch.refl (fun k => k = q) w).setCell ⟨q, i, none⟩ (fun _ => rfl) v
  refine ⟨h.ok.touch ht (fun k hk e => h.far (by rw [← e]; exact hk)), h.pl, ?_, h.touch.trans ht (fun i _ hi => .inr hi), h.blk, h.qlt, h.qout⟩
  have := set_at h.head i v
  rwa [e] at this
/-- A segment as it is read. -/
theorem RJ.segm (h : RJ w0 w r q R0 R A room seg cur sv rv) {B : Option Addr} {n cap : Nat} (hv : R.v = .slice B n cap) {i : Nat} {x : Sg} (hx : A[i]? = some x) : ∃ (g a c : Nat), B = some ⟨g, 0, none⟩ ∧ g < w.heap.size ∧ a < w.heap.size ∧ RBlk r R a ∧ a ≠ r ∧ w.cell? ⟨g, i * 3, none⟩ = some (.int .i64 x.1) ∧ w.cell? ⟨g, i * 3 + 1, none⟩ = some (.slice (some ⟨a, 0, none⟩) x.2.1.length c) ∧ w.cell? ⟨g, i * 3 + 2, none⟩ = some (.int .i64 (x.2.2 : Int)) ∧ x.2.1.length ≤ c ∧ c ≤ maxLen ∧ At w ⟨a, 0, none⟩ x.2.1 ∧ x.2.2 ≤ x.2.1.length := by
  have hx' := hx
  rw [← h.isA] at hx'
  unfold absR at hx'
  rw [List.getElem?_map] at hx'
  obtain ⟨y, hy, rfl⟩ := Option.map_eq_some_iff.1 hx'
  obtain ⟨g, rfl, hg, k0, k1, k2⟩ := h.ok.ref.seg3 hv hy
  have hm := List.mem_of_getElem? hy
  obtain ⟨a, m, c, e1, ha⟩ := h.ok.base y hm
  obtain ⟨⟨A2, cap2, e2, b1, b2, b3⟩, hs⟩ := h.ok.ref.segs y hm
  rw [e1] at e2
  injection e2 with e2 e3 e4
  subst e2 e3 e4
  refine ⟨g, a, c, rfl, hg, ha, .inr (.inr ⟨y, hm, _, _, _, e1, rfl⟩), h.ok.far y hm _ _ _ e1, k0, by rw [k1, e1]; rfl, k2, b1, b2, ⟨ha, fun i b hi => ?_⟩, hs⟩
  obtain ⟨a', q1, q2, q3⟩ := b3 i b hi
  injection q1 with q1
  subst q1
  exact q3
theorem RJ.vec (h : RJ w0 w r q R0 R A room seg cur sv rv) : ∃ B cap, R.v = .slice B A.length cap ∧ w.cell? ⟨r, 1, none⟩ = some (.slice B A.length cap) ∧ A.length ≤ cap ∧ cap ≤ maxLen := by
  obtain ⟨B, cap, ev, h1, h2, _⟩ := h.ok.ref.row.form
  have hc := cell_of h.ok.ref.head 1
  rw [h.len] at ev h1
  refine ⟨B, cap, ev, ?_, h1, h2⟩
  rw [hc, ← ev]
  rfl
theorem RJ.curc (h : RJ w0 w r q R0 R A room seg cur sv rv) : w.cell? ⟨q, 2, none⟩ = some (.int .i64 cur) ∧ w.frozen? ⟨q, 2, none⟩ = false := ⟨cell_of h.head 2, free0 h.head 2⟩
/-- How far the loops have to go yet. -/
def lenC (w : World) (r q : Nat) : Nat := (match w.cell? ⟨r, 1, none⟩ with | some (.slice _ n _) => n | _ => 0) + (match w.cell? ⟨q, 2, none⟩ with | some (.int _ c) => if c < 0 then 1 else 0 | _ => 0)
theorem RJ.lenC (h : RJ w0 w r q R0 R A room seg cur sv rv) : lenC w r q = A.length + if cur < 0 then 1 else 0 := by
  obtain ⟨B, cap, _, e, _, _⟩ := h.vec
  unfold Go.Proofs.YtnegnokielmgkaaGreatDoor.lenC
  rw [e, h.curc.1]
end
theorem openB_size (A : List Sg) : sizeS (openB A) ≤ sizeS A := by
  unfold openB
  generalize keepN A A.length = k
  cases k with
  | zero => exact Nat.zero_le _
  | succ n =>
    cases hx : A[n]? with
    | none =>
      show sizeS (match A[n]? with | none => [] | some x => A.take n ++ [cutS x]) ≤ _
      rw [hx]
      exact Nat.zero_le _
    | some x =>
      rw [cutA_at hx, sizeS_append]
      have h1 := sizeS_tk A (n + 1)
      rw [take_succ' hx, sizeS_append] at h1
      have h2 : sizeS [cutS x] ≤ sizeS [x] := by
        have : (x.2.1.take (endP (frmB x.2.1))).length ≤ x.2.1.length := by rw [List.length_take]; exact Nat.min_le_right _ _
        simpa [sizeS, cutS] using this
      omega
/-- A last one with a check is the first of what is left. -/
theorem lastF_mem (B : List Sg) : lastF B = -1 ∨ ∃ (i : Nat) (y : Sg), B[i]? = some y ∧ (checkB (frmB y.2.1)).isSome ∧ lastF B = y.1 := by
  rcases List.eq_nil_or_concat B with rfl | ⟨C, x, rfl⟩
  · exact .inl rfl
  · rw [List.concat_eq_append, lastF_snoc]
    by_cases hc : (checkB (frmB x.2.1)).isSome
    · rw [if_pos hc]
      exact .inr ⟨C.length, x, by simp, hc, rfl⟩
    · rw [if_neg hc]
      rcases lastF_mem C with h | ⟨i, y, h1, h2, h3⟩
      · exact .inl h
      · exact .inr ⟨i, y, by rw [List.getElem?_append_left (List.getElem?_eq_some_iff.1 h1).1]; exact h1, h2, h3⟩
termination_by B.length
decreasing_by subst_vars; simp
theorem openC_head {B : List Sg} (hr : Rises B) (hl : 0 ≤ lastF B) : ∃ y, (openC B)[0]? = some y ∧ (checkB (frmB y.2.1)).isSome := by
  rcases lastF_mem B with h | ⟨i, y, h1, h2, h3⟩
  · omega
  · refine ⟨y, ?_, h2⟩
    have : openC B = B.drop i := by
      unfold openC
      rw [h3]
      refine dropWhile_at _ i (fun j z hj hz => ?_) (fun z hz => ?_)
      · simpa using hr.get hz h1 hj
      · rw [h1] at hz; cases hz; simp
    rw [this, List.getElem?_drop]
    exact h1
theorem openC_none {B : List Sg} (hn : Named B) (hl : lastF B < 0) : openC B = B := by
  unfold openC
  refine dropWhile_at _ 0 (fun j x hj _ => by omega) (fun x hx => ?_)
  have := (hn x (List.mem_of_getElem? hx)).1
  simp; omega
theorem lastF_pos {x : Sg} {r : List UInt8} (hc : checkB (frmB x.2.1) = some r) (C : List Sg) (h4 : x ∈ C) (h5 : Named C) : 0 ≤ lastF C := by
  rcases List.eq_nil_or_concat C with rfl | ⟨D, z, rfl⟩
  · cases h4
  · rw [List.concat_eq_append] at *
    rw [lastF_snoc]
    by_cases hz : (checkB (frmB z.2.1)).isSome
    · rw [if_pos hz]; exact (h5 z (by simp)).1
    · rw [if_neg hz]
      rcases List.mem_append.1 h4 with h4 | h4
      · exact lastF_pos hc D h4 (fun u hu => h5 u (by simp [hu]))
      · rw [← List.mem_singleton.1 h4, hc] at hz; exact absurd rfl hz
termination_by C.length
decreasing_by subst_vars; simp
theorem lastF_neg : ∀ (B : List Sg), Named B → lastF B < 0 → ∀ x ∈ B, checkB (frmB x.2.1) = none := fun B hn hl x hx => by
  rcases lastF_mem B with h | ⟨i, y, h1, h2, h3⟩
  · obtain ⟨j, hj⟩ := List.getElem?_of_mem hx
    cases hc : checkB (frmB x.2.1) with
    | none => rfl
    | some r =>
      exfalso
      have := lastF_pos hc B hx hn
      omega
  · have := (hn y (List.mem_of_getElem? h1)).1
    omega
theorem open_head {B : List Sg} (hr : Rises B) (hn : Named B) : (lastF B < 0 ∧ headS (openC B) 0 = []) ∨ (0 ≤ lastF B ∧ ∃ y x r ls, (openC B)[0]? = some y ∧ frmB y.2.1 = (x :: r) :: ls ∧ headS (openC B) 0 = r) := by
  by_cases hl : lastF B < 0
  · refine .inl ⟨hl, ?_⟩
    rw [openC_none hn hl]
    cases B with
    | nil => rfl
    | cons y B =>
      have := lastF_neg _ hn hl y (List.mem_cons_self ..)
      show ((some (checkB (frmB y.2.1))).getD none).getD [] = []
      rw [this]
      rfl
  · obtain ⟨y, h1, h2⟩ := openC_head hr (by omega)
    refine .inr ⟨by omega, y, ?_⟩
    cases hf : frmB y.2.1 with
    | nil => rw [hf] at h2; cases h2
    | cons l ls =>
      rw [hf] at h2
      cases l with
      | nil => cases h2
      | cons x r =>
        refine ⟨x, r, ls, h1, rfl, ?_⟩
        unfold headS
        rw [h1]
        show ((some (checkB (frmB y.2.1))).getD none).getD [] = r
        rw [hf]
        replace h2 : (if x.toNat = 1 then some r else none : Option (List UInt8)).isSome := h2
        show ((some (if x.toNat = 1 then some r else none : Option (List UInt8))).getD none).getD [] = r
        by_cases hx : x.toNat = 1
        · rw [if_pos hx]; rfl
        · rw [if_neg hx] at h2; cases h2
/-- A text of bytes, and what stands behind its first one. -/
theorem BF.tail {w : World} {F : Nat → Prop} {v : Value} {x : UInt8} {r : List UInt8} (h : BF w F v (x :: r)) : ∃ a cap, v = .slice (some a) (r.length + 1) cap ∧ r.length + 1 ≤ cap ∧ cap ≤ maxLen ∧ w.cell? a = some (.int .u8 (x.toNat : Int)) ∧ a.block < w.heap.size ∧ ((cap = 1 ∧ r = [] ∧ BF w F (.slice (some a) 0 0) []) ∨ (¬ cap = 1 ∧ BF w F (.slice (some ⟨a.block, a.off + 1, none⟩) r.length (cap - 1)) r)) := by
  obtain ⟨⟨A, cap, rfl, h1, h2, h3⟩, h4⟩ := id h
  obtain ⟨a, rfl, hab, hc⟩ := h3 0 x rfl
  have hc' : w.cell? a = some (.int .u8 (x.toNat : Int)) := hc
  rw [List.length_cons] at h1
  refine ⟨a, cap, rfl, h1, h2, hc', hab, ?_⟩
  by_cases hc1 : cap = 1
  · obtain rfl : r = [] := List.length_eq_zero_iff.1 (by omega)
    refine .inl ⟨hc1, rfl, bis_empty _ _ (by unfold maxLen; omega), fun a' n' c' e => ?_⟩
    injection e with e _ _
    injection e with e
    subst e
    exact h4 a _ _ rfl
  · refine .inr ⟨hc1, ?_⟩
    obtain ⟨a', c', e, _, _, hat⟩ := h.1.at (by simp)
    injection e with e e2 e3
    injection e with e
    subst e
    have := hat.from 1 r.length cap (by simp; omega) (by simpa using h1) h2
    refine ⟨by simpa [Addr.add] using this, fun a' n' c' e => ?_⟩
    injection e with e _ _
    injection e with e
    subst e
    exact h4 a _ _ rfl
section
variable {w0 w w' : World} {r q room : Nat} {R0 R : RTp} {A : List Sg} {seg cur : Int} {sv rv : Value}
theorem RJ.turn {S : Nat → Prop} (h : RJ w0 w r q R0 R A room seg cur sv rv) (ht : Touch S w w') (hS : ∀ k, RBlk r R k → ¬ S k) (hq : ¬ S q) (h0 : ∀ k, k < w0.heap.size → S k → k = r ∨ k = q) : RJ w0 w' r q R0 R A room seg cur sv rv :=
  ⟨h.ok.touch ht hS, h.pl, (ht.block q (heap_lt h.head) hq).trans h.head, h.touch.trans ht h0, h.blk, h.qlt, h.qout⟩
end
/-- The last loop, from round to round. -/
def OpenR (w1 wr : World) (r q : Nat) (R R4 : RTp) (C : List Sg) (room : Nat) (seg cur : Int) (iv : Value) : Prop :=
  ∃ (k : Nat) (sv rv : Value) (xs : List Value), k ≤ C.length ∧ iv = .int .i64 k ∧ RJ w1 wr r q R R4 C room seg cur sv rv ∧ BF wr (RBlk r R4) sv (if k = 0 then [] else headS C 0) ∧ OwnS wr w1.heap.size rv xs ∧ BFs wr (RBlk r R4) xs (recsOf (C.take k)) ∧ ∀ b, rv.ownBlock = some b → ¬ RBlk r R4 b
theorem recsOf_snoc (A : List Sg) (x : Sg) : recsOf (A ++ [x]) = recsOf A ++ recsB (frmB x.2.1) := by simp [recsOf]
theorem sizeS_sub {A B : List Sg} (h : A.Sublist B) : sizeS A ≤ sizeS B := by
  induction h with
  | slnil => exact Nat.le_refl _
  | cons a _ ih =>
    simp only [sizeS, List.map_cons, List.sum_cons] at *
    omega
  | cons_cons a _ ih => 
    simp only [sizeS, List.map_cons, List.sum_cons] at *
    omega
section
variable {w0 w w' : World} {r q room : Nat} {R0 R : RTp} {A : List Sg} {seg cur : Int} {sv rv : Value}
/-- A row of records grows, and the journal holds it. -/
theorem RJ.putTouch (h : RJ w0 w r q R0 R A room seg cur sv rv) {o : Obj} {V : World} (hV : V = w ∨ V = w.drew) (hg : (V.alloc o).grownBy w' rv.ownBlock) (v' : Value) : Touch (fun b => b = q ∨ rv.ownBlock = some b) w (w'.setCell ⟨q, 4, none⟩ v') := by
  have h1 : Touch (fun b => b = q ∨ rv.ownBlock = some b) w V := by
    rcases hV with rfl | rfl
    · exact Touch.refl _ _
    · exact (Touch.refl _ w).drew
  exact ((h1.alloc o).grown hg (fun k hk _ => .inr hk)).setCell ⟨q, 4, none⟩ (fun _ => .inl rfl) v'
theorem RJ.grown (h : RJ w0 w r q R0 R A room seg cur sv rv) {o : Obj} {V : World} (hV : V = w ∨ V = w.drew) (hg : (V.alloc o).grownBy w' rv.ownBlock) (hrow : ∀ b, rv.ownBlock = some b → w0.heap.size ≤ b ∧ ¬ RBlk r R b) : RJ w0 w' r q R0 R A room seg cur sv rv := by
  have h1 : Touch (fun b => rv.ownBlock = some b) w V := by
    rcases hV with rfl | rfl
    · exact Touch.refl _ _
    · exact (Touch.refl _ w).drew
  have ht : Touch (fun b => rv.ownBlock = some b) w w' := (h1.alloc o).grown hg (fun k hk _ => hk)
  exact h.turn ht (fun k hk e => (hrow k e).2 hk) (fun e => by have := (hrow q e).1; have := h.qlt; omega) (fun k hk e => by have := (hrow k e).1; omega)
theorem RJ.recc (h : RJ w0 w r q R0 R A room seg cur sv rv) : w.cell? ⟨q, 4, none⟩ = some rv := cell_of h.head 4
end
theorem saysB_take {ls : List (List UInt8)} {m : Nat} {l : List UInt8} (hl : ls[m]? = some l) : recsB (ls.take (m + 1)) = recsB (ls.take m) ++ (saysB 0 l).toList := by
  have : ls.take (m + 1) = ls.take m ++ [l] := by rw [List.take_add_one, hl]; rfl
  rw [this, recsB_snoc]
theorem setCell_szJ (w : World) (a : Addr) (v : Value) : (w.setCell a v).heap.size = w.heap.size := by simp [World.setCell]
theorem recsOf_add (A B : List Sg) : recsOf (A ++ B) = recsOf A ++ recsOf B := by unfold recsOf; exact List.flatMap_append
theorem recsB_add (a b : List (List UInt8)) : recsB (a ++ b) = recsB a ++ recsB b := by unfold recsB; exact List.filterMap_append
theorem recs_le {C : List Sg} {k m : Nat} {x : Sg} (hx : C[k]? = some x) : (recsOf (C.take k) ++ recsB ((frmB x.2.1).take m)).length ≤ (recsOf C).length := by
  have e1 : recsOf C = recsOf (C.take (k + 1)) ++ recsOf (C.drop (k + 1)) := by rw [← recsOf_add, List.take_append_drop]
  have e2 : recsB (frmB x.2.1) = recsB ((frmB x.2.1).take m) ++ recsB ((frmB x.2.1).drop m) := by rw [← recsB_add, List.take_append_drop]
  rw [e1, take_succ' hx, recsOf_snoc, e2]
  simp only [List.length_append]
  omega
end Go.Proofs.YtnegnokielmgkaaGreatDoor

namespace Go.Proofs.YtnegnokielmgkaaGreatDoor
open Go.RowKit

/-- What the reference's Open leaves. -/
def ROpenP (w : World) (r : Nat) (R : RTp) (C : List Sg) (room : Nat) (seg : Int) (e : Ending) (w' : World) : Prop :=
  ∃ q R' sv rv xs cur w1, e = .returned (.tuple #[.pointer (some ⟨q, 0, none⟩), .int .i64 0]) ∧ Below w.heap.size w w1 ∧ RJ w1 w' r q R R' C room seg cur sv rv ∧ w.heap.size ≤ q ∧ BF w' (RBlk r R') sv (headS C 0) ∧ OwnS w' w1.heap.size rv xs ∧ BFs w' (RBlk r R') xs (recsOf C)
/-- The first loop, from round to round. -/
def MendR (w1 wr : World) (r q : Nat) (R : RTp) (A : List Sg) (room : Nat) (seg : Int) : Prop :=
  ∃ R' B cur, RJ w1 wr r q R R' B room seg cur (.slice none 0 0) (.slice none 0 0) ∧ ((cur = -1 ∧ ∃ n, n ≤ A.length ∧ B = A.take n ∧ keepN A A.length = keepN A n) ∨ (0 ≤ cur ∧ B = openB A))
set_option maxRecDepth 100000 in
set_option maxHeartbeats 4000000 in
theorem ropen_any {w : World} {r room : Nat} {R : RTp} {A : List Sg} {seg : Int} (h : RefOk w r R) (hp : plR R = ⟨room, A, -1, false⟩) (hn : Named A) (hs : Syn A) (hz : sizeS A ≤ 1000000) (h1 : 16 ≤ seg) (h2 : seg ≤ 1048576) : Calls Tryz.prog 25 #[.pointer (some ⟨r, 0, none⟩), .int .i64 seg] w (ROpenP w r R (openC (openB A)) room seg) := by
  have hr : r < w.heap.size := heap_lt h.ref.head
  have hne : r ≠ w.heap.size := by omega
  have hb := below_new (w := w) (.cells #[.pointer (some ⟨r, 0, none⟩), .int .i64 seg, .int .i64 (-1), .slice none 0 0, .slice none 0 0] 66)
  have hat := alloc_at w (.cells #[.pointer (some ⟨r, 0, none⟩), .int .i64 seg, .int .i64 (-1), .slice none 0 0, .slice none 0 0] 66)
  have hsz : (w.alloc (.cells #[.pointer (some ⟨r, 0, none⟩), .int .i64 seg, .int .i64 (-1), .slice none 0 0, .slice none 0 0] 66)).heap.size = w.heap.size + 1 := asz _ _
  have HRJ : Hid (RJ (w.alloc (.cells #[.pointer (some ⟨r, 0, none⟩), .int .i64 seg, .int .i64 (-1), .slice none 0 0, .slice none 0 0] 66)) (w.alloc (.cells #[.pointer (some ⟨r, 0, none⟩), .int .i64 seg, .int .i64 (-1), .slice none 0 0, .slice none 0 0] 66)) r w.heap.size R R A room seg (-1) (.slice none 0 0) (.slice none 0 0)) :=
    Lib.hid ⟨h.below hb, hp, hat, Touch.refl _ _, fun k hk => .inl hk, by rw [hsz]; omega, fun hk => by have := h.lt _ hk; omega⟩
  have q1 : ¬ seg < 16 := by omega
  have q2 : ¬ 1048576 < seg := by omega
  have HB := Lib.hid hb
  have HN := Lib.hid hn
  have HS := Lib.hid hs
  have HZ := Lib.hid hz
  have HRI := Lib.hid HRJ.out.rises
  have HA64 : Hid (A.length ≤ 64) := Lib.hid (by rw [← HRJ.out.len]; exact HRJ.out.ok.few)
  generalize hw1 : (w.alloc (.cells #[.pointer (some ⟨r, 0, none⟩), .int .i64 seg, .int .i64 (-1), .slice none 0 0, .slice none 0 0] 66)) = w1 at HRJ HB
  have HW1 := Lib.hid hw1
  clear h hp hn hs hz hb hat hsz hw1
  go_enter Tryz.func25, Tryz.ntmps25
  go_upto_block 0 with fail
  rw [HW1.out]
  go_cut [] from 7 to 86 (fun wx => ∃ R' cur, RJ w1 wx r w.heap.size R R' (openB A) room seg cur (.slice none 0 0) (.slice none 0 0))
  case first =>
    go_wp2_with fail
    go_loopw [] (fun wr => MendR w1 wr r w.heap.size R A room seg) (fun wr => lenC wr r w.heap.size)
    case atStart => exact ⟨R, A, -1, HRJ.out, .inl ⟨rfl, A.length, Nat.le_refl _, List.take_length.symm, rfl⟩⟩
    case round =>
      obtain ⟨R', B, cur, hrj, hcase⟩ := hrel
      have HR := Lib.hid hrj
      obtain ⟨Bv, cap, ev, hc1, hc2, hc3⟩ := hrj.vec
      have EV := Lib.hid ev
      have hcu := hrj.curc.1
      have hfz := hrj.curc.2
      have HLC := Lib.hid hrj.lenC
      unfold maxLen at hc3
      clear hrj ev
      rcases hcase with ⟨rfl, n, hn1, rfl, hk⟩ | ⟨h0, rfl⟩
      · have HK := Lib.hid hk
        cases n with
        | zero =>
          have HO : Hid (openB A = A.take 0) := Lib.hid (by show cutA A (keepN A A.length) = _; rw [HK.out, List.take_zero]; rfl)
          rw [List.take_zero] at hc1
          clear hk
          go_wp2_with fail
          go_meet
          exact ⟨R', -1, by rw [HO.out]; exact HR.out⟩
        | succ m =>
          have hx : A[m]? = some A[m] := List.getElem?_eq_getElem (by omega)
          have hm := List.mem_of_getElem? hx
          generalize A[m] = x at hx hm
          have HX := Lib.hid hx
          have HM := Lib.hid hm
          have ht := take_succ' hx
          have hl : (A.take (m + 1)).length = m + 1 := by rw [List.length_take]; omega
          obtain ⟨g, a, c, rfl, hg, ha, hblk, har, k0, k1, k2, b1, b2, hat, hsy⟩ := HR.out.segm EV.out (i := m) (x := x) (by rw [List.getElem?_take, if_pos (Nat.lt_succ_self m)]; exact hx)
          rw [hl] at hc1 hc2
          have HT := Lib.hid ht
          have HAT := Lib.hid hat
          have HBK := Lib.hid (And.intro hblk har)
          have HSY := Lib.hid hsy
          have H64 := HA64.out
          have hbd : x.2.1.length ≤ 1000000 := by
            have h3 := HZ.out
            have := sizeS_mem HM.out
            omega
          obtain ⟨xn, xb, xs⟩ := x
          have l1 : (0 : Int) < ((m + 1 : Nat) : Int) := by omega
          have l2 : IntKind.i64.wrap (((m + 1 : Nat) : Int) - 1) = (m : Int) := by rw [IntWalk.i64_in _ (by omega)]; omega
          have l3 : (m : Int) < ((m + 1 : Nat) : Int) := by omega
          have l4 : m < m + 1 := by omega
          have hadd : (⟨g, 0, none⟩ : Addr).add (m * 3) = ⟨g, m * 3, none⟩ := add0 _ _
          clear hk hx ht hl hat hblk har hsy hn1 hm
          generalize hM : m + 1 = M at *
          have HM1 := Lib.hid hM
          clear hM
          go_wp2_with fail
          go_region_held (fun W => W.cell? ⟨r, 1, none⟩ = some (.slice (some ⟨g, 0, none⟩) M cap) ∧ W.cell? ⟨g, m * 3, none⟩ = some (.int .i64 xn) ∧ W.cell? ⟨g, m * 3 + 1, none⟩ = some (.slice (some ⟨a, 0, none⟩) xb.length c) ∧ W.cell? ⟨g, m * 3 + 2, none⟩ = some (.int .i64 (xs : Int))) (first | exact ⟨hc1, k0, k1, k2⟩ | exact ⟨by go_keep, by go_keep, by go_keep, by go_keep⟩) (fail)
          go_wp2_with fail
          have hS := alloc_at wr (.cells #[.int .i64 xn, .slice (some ⟨a, 0, none⟩) xb.length c, .int .i64 (xs : Int)] 108)
          have hb5 : Below wr.heap.size wr (wr.alloc (.cells #[.int .i64 xn, .slice (some ⟨a, 0, none⟩) xb.length c, .int .i64 (xs : Int)] 108)).drew := below_drew (below_new _)
          have HB5 := Lib.hid hb5
          have HFR := Lib.hid (rframes_any (HAT.out.below hb5) b1 b2 (by omega) (Nat.lt_of_lt_of_le ha hb5.size))
          have HSC := Lib.hid hS
          clear hS hb5 hc1 k0 k1 k2
          refine (HFR.out).mono ?_
          rintro e w6 ⟨fv, fs, rfl, hown, hbf, hb6⟩
          have HBF := Lib.hid hbf
          have HB6 := Lib.hid (HB5.out.trans (hb6.mono HB5.out.size))
          have HR6 := Lib.hid (HR.out.keep HB6.out)
          have hsl : w6.heap[wr.heap.size]? = some (.cells #[.int .i64 xn, .slice (some ⟨a, 0, none⟩) xb.length c, .int .i64 (xs : Int)] 108 (0, 0)) := (hb6.block _ (by show _ < (wr.alloc _).heap.size; rw [asz]; exact Nat.lt_succ_self _)).trans HSC.out
          have s0 := cell_of hsl 0
          have s1 := cell_of hsl 1
          obtain ⟨Af, cf, rfl, _, _, _, _⟩ := hown.vis
          have hfl : fs.length = (frmB xb).length := hbf.1
          have HSL := Lib.hid hsl
          have HE := Lib.hid (endP_le xb)
          clear hown hbf hb6 hsl
          by_cases hf : frmB xb = []
          · have HF := Lib.hid hf
            have hf0 : fs.length = 0 := by rw [hfl, hf]; rfl
            have HD3 := Lib.hid (rdo3 HR6.out.ok xn 0 [] (.slice none 0 0))
            rw [hf0]
            clear hf hf0 hfl
            go_wp2_with fail
            refine (HD3.out).mono ?_
            rintro e w7 ⟨rfl, hdo⟩
            have hr2 : Rises (A.take m ++ [(xn, xb, xs)]) := by rw [← HT.out]; exact HRI.out.tk _
            obtain ⟨p1, p2⟩ := rises_split hr2
            have hds := drop_last1 (room := room) p1 (HN.out _ HM.out).1 (HN.out _ HM.out).2 p2
            rw [← HT.out] at hds
            obtain ⟨e0, R7, hR7⟩ := HR6.out.did hdo hds
            rw [e0]
            have HR7 := Lib.hid hR7
            have HK7 : Hid (keepN A A.length = keepN A m) := Lib.hid (by rw [HK.out, ← HM1.out]; exact keepN_on HX.out HF.out)
            clear hdo hr2 p1 p2 hds e0 hR7
            go_wp2_with fail
            go_roundw
            case rel => exact ⟨R7, A.take m, -1, HR7.out, .inl ⟨rfl, m, by have := List.getElem?_eq_some_iff.1 HX.out; obtain ⟨h, _⟩ := this; omega, rfl, HK7.out⟩⟩
            case measure =>
              show lenC w7 r w.heap.size < lenC wr r w.heap.size
              rw [HLC.out, HR7.out.lenC, HT.out, List.length_append]
              simp
          · have HF := Lib.hid hf
            have hf0 : ¬ fs.length = 0 := by rw [hfl]; exact fun e => hf (List.length_eq_zero_iff.1 e)
            have hqs : w.heap.size < wr.heap.size := Nat.lt_of_lt_of_le HR.out.qlt HR.out.touch.size
            have hqs2 : ¬ w.heap.size = wr.heap.size := by omega
            have hqs3 : ¬ wr.heap.size = w.heap.size := by omega
            have HR7 := Lib.hid (HR6.out.set 2 (.int .i64 xn) (cur' := xn) rfl)
            have hcu6 := HR6.out.curc.1
            have hfz6 := HR6.out.curc.2
            have s0' : (w6.setCell ⟨w.heap.size, 2, none⟩ (.int .i64 xn)).cell? ⟨wr.heap.size, 0, none⟩ = some (.int .i64 xn) := (World.cell?_of_block (a := ⟨wr.heap.size, 0, none⟩) (Below.heap_setCell _ _ _ _ (fun e => hqs3 e))).trans s0
            have s1' : (w6.setCell ⟨w.heap.size, 2, none⟩ (.int .i64 xn)).cell? ⟨wr.heap.size, 1, none⟩ = some (.slice (some ⟨a, 0, none⟩) xb.length c) := (World.cell?_of_block (a := ⟨wr.heap.size, 1, none⟩) (Below.heap_setCell _ _ _ _ (fun e => hqs3 e))).trans s1
            have HKN : Hid (openB A = A.take m ++ [cutS (xn, xb, xs)]) := Lib.hid (by show cutA A (keepN A A.length) = _; rw [HK.out, ← HM1.out, keepN_some HX.out HF.out, cutA_at HX.out])
            have HNA := Lib.hid (HN.out _ HM.out)
            generalize fs.length = F at *
            have l5 : ((F : Int) == 0) = false := by rw [beq_eq_false_iff_ne]; omega
            have l6 : ¬ (F : Int) = 0 := by omega
            clear hf hf0 hfl
            by_cases he : endP (frmB xb) = xb.length
            · have HC : Hid (cutS (xn, xb, xs) = (xn, xb, xs)) := Lib.hid (cut_full he HSY.out)
              have l7 : ¬ ((endP (frmB xb) : Nat) : Int) < (xb.length : Int) := by omega
              clear he
              generalize endP (frmB xb) = E at *
              go_wp2_with fail
              go_roundw
              case rel => exact ⟨R', A.take M, xn, HR7.out, .inr ⟨HNA.out.1, by rw [HKN.out, HC.out, HT.out]⟩⟩
              case measure =>
                show lenC (w6.setCell ⟨w.heap.size, 2, none⟩ (.int .i64 xn)) r w.heap.size < lenC wr r w.heap.size
                rw [HLC.out, HR7.out.lenC, if_neg (by have h9 : 0 ≤ xn := HNA.out.1; omega)]
                simp
            · have l7 : ((endP (frmB xb) : Nat) : Int) < (xb.length : Int) := by have := HE.out; omega
              have HD2 := Lib.hid (rdo2 HR7.out.ok xn (endP (frmB xb) : Nat) [] (.slice none 0 0))
              have HEE := Lib.hid he
              clear he
              go_wp2_with fail
              refine (HD2.out).mono ?_
              rintro e w8 ⟨rfl, hdo⟩
              have hr2 : Rises (A.take m ++ [(xn, xb, xs)]) := by rw [← HT.out]; exact HRI.out.tk _
              obtain ⟨p1, p2⟩ := rises_split hr2
              have hds := trim_last (room := room) (b := xb) (k := xs) p1 HNA.out.1 HNA.out.2 p2 HE.out
              rw [← HT.out] at hds
              obtain ⟨e0, R8, hR8⟩ := HR7.out.did hdo hds
              rw [e0]
              have HR8 := Lib.hid hR8
              clear hdo hr2 p1 p2 hds e0 hR8
              go_wp2_with fail
              go_roundw
              case rel => exact ⟨R8, _, xn, HR8.out, .inr ⟨HNA.out.1, HKN.out.symm⟩⟩
              case measure =>
                show lenC w8 r w.heap.size < lenC wr r w.heap.size
                rw [HLC.out, HR8.out.lenC, HT.out, if_neg (by have h9 : 0 ≤ xn := HNA.out.1; omega), List.length_append, List.length_append]
                simp
      · have l2 : ¬ cur < 0 := by omega
        by_cases hl : (openB A).length = 0
        · rw [hl] at hc1
          go_wp2_with fail
          go_meet
          exact ⟨R', cur, HR.out⟩
        · have l1 : (0 : Int) < ((openB A).length : Int) := by omega
          generalize (openB A).length = L at *
          go_wp2_with fail
          go_meet
          exact ⟨R', cur, HR.out⟩
  case rest =>
    obtain ⟨R2, cur, hrj2⟩ := hcut
    have HR2 := Lib.hid hrj2
    have HBN := Lib.hid (show Named (openB A) from cutA_named HN.out _)
    have HBS := Lib.hid (show Syn (openB A) from cutA_syn HS.out _)
    have HB64 : Hid ((openB A).length ≤ 64) := Lib.hid (by rw [← hrj2.len]; exact hrj2.ok.few)
    have HBZ : Hid (sizeS (openB A) ≤ 1000000) := Lib.hid (Nat.le_trans (openB_size A) HZ.out)
    clear HRJ hrj2 HRI HA64 HN HS HZ
    generalize openB A = B at *
    obtain ⟨Bv, cap, ev, hc1, hc2, hc3⟩ := HR2.out.vec
    have EV := Lib.hid ev
    unfold maxLen at hc3
    clear ev
    go_upto_block 2 with fail
    go_cut [11] from 7 to 101 (fun lv wx => lv = .int .i64 (lastF B) ∧ RJ w1 wx r w.heap.size R R2 B room seg cur (.slice none 0 0) (.slice none 0 0))
    case first =>
      go_wp2_with fail
      go_loopw [11, 92] (fun lv iv wr => ∃ k : Nat, k ≤ B.length ∧ iv = .int .i64 k ∧ lv = .int .i64 (lastF (B.take k)) ∧ Below wc.heap.size wc wr) (fun _ iv _ => B.length - (intOf iv).toNat)
      case atStart => exact ⟨0, Nat.zero_le _, rfl, by rw [List.take_zero]; rfl, Below.refl _ _⟩
      case round =>
        obtain ⟨k, hk, rfl, rfl, hb⟩ := hrel
        have HBW := Lib.hid hb
        by_cases hlt : k < B.length
        · have hx : B[k]? = some B[k] := List.getElem?_eq_getElem hlt
          generalize B[k] = x at hx
          have HT : Hid (B.take (k + 1) = B.take k ++ [x]) := Lib.hid (take_succ' hx)
          have HR3 := Lib.hid (HR2.out.keep hb)
          obtain ⟨g, a, c, rfl, hg, ha, hblk, har, k0, k1, k2, b1, b2, hat, hsy⟩ := HR3.out.segm EV.out hx
          have hz := sizeS_mem (List.mem_of_getElem? hx)
          have HBG := Lib.hid (rbegins_any (a := ⟨a, 0, none⟩) (hat.below (below_new (w := wr) (.cells #[.int .i64 x.1, .slice (some ⟨a, 0, none⟩) x.2.1.length c, .int .i64 (x.2.2 : Int)] 108))) b1 b2 (by have := HBZ.out; omega) (Nat.lt_of_lt_of_le ha (below_new _).size))
          have HNB := Lib.hid (below_new (w := wr) (.cells #[.int .i64 x.1, .slice (some ⟨a, 0, none⟩) x.2.1.length c, .int .i64 (x.2.2 : Int)] 108))
          have HSB := Lib.hid (alloc_at wr (.cells #[.int .i64 x.1, .slice (some ⟨a, 0, none⟩) x.2.1.length c, .int .i64 (x.2.2 : Int)] 108))
          have ha3 : (⟨g, 0, none⟩ : Addr).add (k * 3) = ⟨g, k * 3, none⟩ := add0 _ _
          have HLT := Lib.hid hlt
          have hi : (k : Int) < (B.length : Int) := by omega
          obtain ⟨xn, xb, xs⟩ := x
          clear hx hb hblk har hat hsy hz hlt
          go_wp2_with fail
          refine (HBG.out).mono ?_
          rintro e w6 ⟨rfl, hb6⟩
          have hsl : w6.heap[wr.heap.size]? = _ := (hb6.block _ (by rw [asz]; exact Nat.lt_succ_self _)).trans HSB.out
          have s0 := cell_of hsl 0
          have HB6 := Lib.hid (HBW.out.trans ((HNB.out.trans (hb6.mono HNB.out.size)).mono HBW.out.size))
          have HLF := Lib.hid (lastF_snoc (B.take k) (xn, xb, xs))
          clear hsl hb6
          cases hck : (checkB (frmB xb)).isSome with
          | true =>
            have HCK := Lib.hid hck
            clear hck
            go_wp2_with fail
            go_roundw
            case rel => exact ⟨k + 1, HLT.out, by go_num, by rw [HT.out, HLF.out, if_pos HCK.out], HB6.out⟩
            case measure => have := HLT.out; simp [intOf]; omega
          | false =>
            have HCK := Lib.hid hck
            clear hck
            go_wp2_with fail
            go_roundw
            case rel => exact ⟨k + 1, HLT.out, by go_num, by rw [HT.out, HLF.out, if_neg (by rw [HCK.out]; simp)], HB6.out⟩
            case measure => have := HLT.out; simp [intOf]; omega
        · obtain rfl : k = B.length := by omega
          go_wp2_with fail
          go_meet
          exact ⟨by rw [List.take_length], HR2.out.keep HBW.out⟩
    case rest =>
      obtain ⟨rfl, hrj3⟩ := hcut
      have HR3 := Lib.hid hrj3
      clear hrj3 hc1 hc2 hc3 EV HR2
      have HLL : ∃ L, lastF B = L := ⟨_, rfl⟩
      obtain ⟨L, hL⟩ := HLL
      rw [hL]
      have HL := Lib.hid hL
      clear hL
      go_upto_block 4 with fail
      go_cut [11] from 7 to 130 (fun lv wx => lv = .int .i64 L ∧ ∃ R', RJ w1 wx r w.heap.size R R' (openC B) room seg cur (.slice none 0 0) (.slice none 0 0))
      case first =>
        go_wp2_with fail
        go_loopw [] (fun wr => ∃ R' B', RJ w1 wr r w.heap.size R R' B' room seg cur (.slice none 0 0) (.slice none 0 0) ∧ B'.dropWhile (fun x => decide (x.1 < L)) = openC B ∧ ∀ x ∈ B', x ∈ B) (fun wr => lenC wr r w.heap.size)
        case atStart => exact ⟨R2, B, HR3.out, by rw [← HL.out]; rfl, fun x hx => hx⟩
        case round =>
          obtain ⟨R', B', hrj, hdw, hsub⟩ := hrel
          have HR := Lib.hid hrj
          have HDW := Lib.hid hdw
          have HSB := Lib.hid hsub
          obtain ⟨Bv, cap, ev, hc1, hc2, hc3⟩ := hrj.vec
          have HLC := Lib.hid hrj.lenC
          have HRI := Lib.hid hrj.rises
          unfold maxLen at hc3
          cases B' with
          | nil =>
            clear hrj ev hdw hsub hc2
            have hc1' : wr.cell? ⟨r, 1, none⟩ = some (.slice Bv 0 cap) := hc1
            clear hc1
            go_wp2_with fail
            go_meet
            exact ⟨rfl, R', by rw [← HDW.out]; exact HR.out⟩
          | cons x B2 =>
            obtain ⟨g, a, c, rfl, hg, ha, hblk, har, k0, k1, k2, b1, b2, hat, hsy⟩ := HR.out.segm ev (i := 0) (x := x) rfl
            rw [Nat.zero_mul] at k0
            have HNX := Lib.hid (HBN.out x (hsub x (List.mem_cons_self ..)))
            have l1 : (0 : Int) < (((x :: B2).length : Nat) : Int) := by rw [List.length_cons]; omega
            have l2 : 0 < (x :: B2).length := by rw [List.length_cons]; omega
            obtain ⟨xn, xb, xs⟩ := x
            generalize (((xn, xb, xs) :: B2).length) = M at hc1 hc2 l1 l2
            clear hrj ev hdw hsub k1 k2 b1 b2 hat hsy hblk har
            by_cases hlt : xn < L
            · have HLT := Lib.hid hlt
              have HD3 := Lib.hid (rdo3 HR.out.ok xn 0 [] (.slice none 0 0))
              go_wp2_with fail
              refine (HD3.out).mono ?_
              rintro e w7 ⟨rfl, hdo⟩
              have hds := drop_first (A := B2) (y := (xn, xb, xs)) (room := room) HRI.out HNX.out.1 HNX.out.2
              obtain ⟨e0, R7, hR7⟩ := HR.out.did hdo hds
              rw [e0]
              have HR7 := Lib.hid hR7
              clear hdo hds e0 hR7
              go_wp2_with fail
              go_roundw
              case rel => exact ⟨R7, B2, HR7.out, by have h9 := HDW.out; rw [List.dropWhile_cons, if_pos (decide_eq_true HLT.out)] at h9; exact h9, fun y hy => HSB.out y (List.mem_cons_of_mem _ hy)⟩
              case measure =>
                show lenC w7 r w.heap.size < lenC wr r w.heap.size
                rw [HLC.out, HR7.out.lenC, List.length_cons]
                omega
            · have HLT := Lib.hid hlt
              go_wp2_with fail
              go_meet
              refine ⟨rfl, R', ?_⟩
              have h9 := HDW.out
              rw [List.dropWhile_cons, if_neg (by simpa using HLT.out)] at h9
              rw [← h9]
              exact HR.out
      case rest =>
        obtain ⟨rfl, R4, hrj4⟩ := hcut
        have HR4 := Lib.hid hrj4
        have HST := Lib.hid (open_head HR3.out.rises HBN.out)
        rw [HL.out] at HST
        have HC64 : Hid ((openC B).length ≤ 64) := Lib.hid (by rw [← hrj4.len]; exact hrj4.ok.few)
        have HCZ : Hid (∀ x ∈ openC B, x.2.1.length ≤ 1000000) := Lib.hid (fun x hx => Nat.le_trans (sizeS_mem ((openC_sub B).subset hx)) HBZ.out)
        have HRC : Hid ((recsOf (openC B)).length ≤ 1000000) := Lib.hid (Nat.le_trans (recsOf_len _) (Nat.le_trans (sizeS_sub (openC_sub B)) HBZ.out))
        obtain ⟨Bv, cap, ev, hc1, hc2, hc3⟩ := hrj4.vec
        have EV := Lib.hid ev
        unfold maxLen at hc3
        clear hrj4 ev HL HBN HBS HB64 HBZ HR3
        generalize openC B = C at *
        go_wp2_with fail
        go_loopw [136] (fun iv wr => OpenR w1 wr r w.heap.size R R4 C room seg cur iv) (fun iv _ => C.length - (intOf iv).toNat)
        case atStart => exact ⟨0, _, _, [], Nat.zero_le _, rfl, HR4.out, BF.nil _ _, .inl ⟨rfl, rfl⟩, BFs.nil _ _, fun b hb => by cases hb⟩
        case round =>
          obtain ⟨k, sv, rv, xs, hk, rfl, hrj, hsv, hrv, hxs, hrb⟩ := hrel
          have HR := Lib.hid hrj
          have HSV := Lib.hid hsv
          have HRV := Lib.hid hrv
          have HXS := Lib.hid hxs
          have HRB := Lib.hid hrb
          clear hsv hrv hxs hrb
          by_cases hlt : k < C.length
          · have hx : C[k]? = some C[k] := List.getElem?_eq_getElem hlt
            have hm := List.mem_of_getElem? hx
            generalize C[k] = x at hx hm
            have HX := Lib.hid hx
            have HT : Hid (C.take (k + 1) = C.take k ++ [x]) := Lib.hid (take_succ' hx)
            obtain ⟨g, a, c, rfl, hg, ha, hblk, har, k0, k1, k2, b1, b2, hat, hsy⟩ := hrj.segm EV.out hx
            have hz := HCZ.out x hm
            obtain ⟨xn, xb, xs0⟩ := x
            have HNB := Lib.hid (below_new (w := wr) (.cells #[.int .i64 xn, .slice (some ⟨a, 0, none⟩) xb.length c, .int .i64 (xs0 : Int)] 108))
            have HFR := Lib.hid (rframes_any (hat.below HNB.out) b1 b2 hz (Nat.lt_of_lt_of_le ha HNB.out.size))
            have ha3 : (⟨g, 0, none⟩ : Addr).add (k * 3) = ⟨g, k * 3, none⟩ := add0 _ _
            have HLT := Lib.hid hlt
            have HBA := Lib.hid hblk
            have hi : (k : Int) < (C.length : Int) := by omega
            clear hx hm hblk har hat hsy hz hlt hrj b1 b2
            go_wp2_with fail
            refine (HFR.out).mono ?_
            rintro e w6 ⟨fv, fs, rfl, hown, hbf, hb6⟩
            have HB6 := Lib.hid (HNB.out.trans (hb6.mono HNB.out.size))
            have HFO : Hid (OwnS w6 (wr.heap.size + 1) fv fs) := Lib.hid (by rw [asz] at hown; exact hown)
            have HBF := Lib.hid hbf
            have HR6 := Lib.hid (HR.out.keep HB6.out)
            have HSV6 := Lib.hid (HSV.out.below HB6.out)
            have HRV6 := Lib.hid (HRV.out.below HB6.out)
            have HXS6 := Lib.hid (HXS.out.below HB6.out)
            obtain ⟨Af, cf, rfl, hf1, hf2, hf3, hf4⟩ := hown.vis
            have hfl : fs.length = (frmB xb).length := hbf.1
            have HF4 := Lib.hid hf4
            have HFL := Lib.hid hfl
            unfold maxLen at hf2
            clear hown hbf hb6 hf3 hf4 k0 k1 k2
            go_upto_region 30 with fail
            go_cut [152] from 147 to 151 (fun cv wx => w6 = wx ∧ ∃ d, cv = .bool d ∧ (d = true ↔ k = 0 ∧ 0 ≤ L))
            case first =>
              by_cases hk0 : k = 0
              · have HK0 := Lib.hid hk0
                have l1 : ((k : Int) == 0) = true := by rw [hk0]; rfl
                clear hk0
                by_cases hL : 0 ≤ L
                · have HLL := Lib.hid hL
                  have l2 : decide (0 ≤ L) = true := decide_eq_true hL
                  go_wp2_with fail
                  go_meet
                  exact ⟨rfl, _, rfl, by simp [HK0.out, HLL.out]⟩
                · have HLL := Lib.hid hL
                  have l2 : decide (0 ≤ L) = false := decide_eq_false hL
                  go_wp2_with fail
                  go_meet
                  exact ⟨rfl, _, rfl, by simp [HK0.out, HLL.out]⟩
              · have HK0 := Lib.hid hk0
                have l1 : ((k : Int) == 0) = false := by rw [beq_eq_false_iff_ne]; omega
                have l2 : ¬ (k : Int) = 0 := by omega
                clear hk0
                go_wp2_with fail
                go_meet
                exact ⟨rfl, _, rfl, by simp [HK0.out]⟩
            case rest =>
              obtain ⟨rfl, d, rfl, hd⟩ := hcut
              have HD := Lib.hid hd
              clear hd
              go_upto_if 152 with fail
              go_cut [] from 153 to 159 (fun wx => ∃ sv', RJ w1 wx r w.heap.size R R4 C room seg cur sv' rv ∧ BF wx (RBlk r R4) sv' (headS C 0) ∧ Touch (fun b => b = w.heap.size) w6 wx)
              case first =>
                cases d with
                | false =>
                  go_wp2_with fail
                  go_meet
                  refine ⟨sv, HR6.out, ?_, Touch.refl _ _⟩
                  have h8 := HSV6.out
                  by_cases hk0 : k = 0
                  · rw [if_pos hk0] at h8
                    rcases HST.out with ⟨_, hh⟩ | ⟨hL, _⟩
                    · rw [hh]; exact h8
                    · exact absurd (HD.out.2 ⟨hk0, hL⟩) (by simp)
                  · rwa [if_neg hk0] at h8
                | true =>
                  obtain ⟨hk0, hL⟩ := HD.out.1 rfl
                  rcases HST.out with ⟨hL2, _⟩ | ⟨_, y, x1, r1, ls, e1, e2, e3⟩
                  · exact absurd hL2 (by omega)
                  · have HHH := Lib.hid e3
                    have hx0 := HX.out
                    rw [hk0, e1] at hx0
                    cases hx0
                    have hfr : frmB xb = (x1 :: r1) :: ls := e2
                    obtain ⟨f0, ft, rfl⟩ : ∃ f0 ft, fs = f0 :: ft := by
                      cases fs with
                      | nil => rw [hfr] at hfl; cases hfl
                      | cons f0 ft => exact ⟨f0, ft, rfl⟩
                    obtain ⟨af, rfl, haf⟩ := HF4.out 0 f0 rfl
                    have haf' : w6.cell? af = some f0 := haf
                    have hb0 := HBF.out.2 0 f0 (x1 :: r1) rfl (by rw [hfr]; rfl)
                    obtain ⟨ax, cx, rfl, t1, t2, t3, t4, htail⟩ := hb0.tail
                    have hfz3 := free0 HR6.out.head 3
                    have hqc3 := cell_of HR6.out.head 3
                    have l2 : 0 < (frmB xb).length := by rw [hfr, List.length_cons]; omega
                    have l3 : (0 : Int) < ((frmB xb).length : Int) := by omega
                    have hFB : ∀ {v : Value}, BF w6 (fun k => k = a) v r1 → BF (w6.setCell ⟨w.heap.size, 3, none⟩ v) (RBlk r R4) v r1 := fun hv => (hv.mono (G := RBlk r R4) (fun b _ e => by rw [e]; exact HBA.out)).touch ((Touch.refl (fun b => b = w.heap.size) w6).setCell ⟨w.heap.size, 3, none⟩ (fun _ => rfl) _) (fun b hb e => HR6.out.far (by rw [← e]; exact hb))
                    have HFB := Lib.hid (fun v => @hFB v)
                    unfold maxLen at t2
                    clear hFB e2 hfr haf t3 t4 hb0 hfl hk0 hL e1
                    rcases htail with ⟨rfl, rfl, ht⟩ | ⟨hc, ht⟩
                    · have HTL := Lib.hid ht
                      clear ht
                      generalize (frmB xb).length = N at *
                      go_wp2_with fail
                      go_meet
                      exact ⟨_, HR6.out.set 3 _ rfl, by rw [HHH.out]; exact HFB.out _ HTL.out, (Touch.refl (fun b => b = w.heap.size) w6).setCell ⟨w.heap.size, 3, none⟩ (fun _ => rfl) _⟩
                    · have HTL := Lib.hid ht
                      clear ht
                      generalize (frmB xb).length = N at *
                      go_wp2_with fail
                      go_meet
                      exact ⟨_, HR6.out.set 3 _ rfl, by rw [HHH.out]; exact HFB.out _ HTL.out, (Touch.refl (fun b => b = w.heap.size) w6).setCell ⟨w.heap.size, 3, none⟩ (fun _ => rfl) _⟩
              case rest =>
                obtain ⟨sv2, hrj7, hsv7, ht7⟩ := hcut
                have HR7 := Lib.hid hrj7
                have HSV7 := Lib.hid hsv7
                have HT7 := Lib.hid ht7
                clear hrj7 hsv7 ht7
                obtain ⟨nb, hnb⟩ : ∃ nb : Nat, nb = wr.heap.size + 1 := ⟨_, rfl⟩
                have HFV7 : Hid (VIs wc (fun b => nb ≤ b ∧ b < w6.heap.size) (.slice Af fs.length cf) fs) := Lib.hid ((HFO.out.vis.mono (G := fun b => nb ≤ b ∧ b < w6.heap.size) (fun b hb hb2 => ⟨by have h9 : wr.heap.size + 1 ≤ b := hb2; omega, hb⟩)).touch HT7.out (fun b hb e => by have h8 := HR.out.qlt; have h9 := HR.out.touch.size; omega))
                have HFS7 : Hid (BFs wc (fun b => b = a) fs (frmB xb)) := Lib.hid (HBF.out.touch HT7.out (fun b hb e => HR6.out.far (by rw [← e, hb]; exact HBA.out)))
                have HRV7 : Hid (OwnS wc w1.heap.size rv xs) := Lib.hid (HRV6.out.keep HT7.out.size (fun b hb => HT7.out.block b (HRV6.out.lt b hb).2 (fun e => by have h8 := (HRV6.out.lt b hb).1; have h9 := HR6.out.qlt; omega)))
                have HXS7 : Hid (BFs wc (RBlk r R4) xs (recsOf (C.take k))) := Lib.hid (HXS6.out.touch HT7.out (fun b hb e => HR6.out.far (by rw [← e]; exact hb)))
                have HRB7 : Hid (∀ b, rv.ownBlock = some b → ¬ RBlk r R4 b ∧ ¬ (nb ≤ b ∧ b < w6.heap.size)) := Lib.hid (fun b hb => ⟨HRB.out b hb, fun h8 => by have h9 := (HRV.out.lt b hb).2; omega⟩)
                have HZ6 : Hid (w6.heap.size ≤ wc.heap.size) := Lib.hid HT7.out.size
                have HQ6 : Hid (w.heap.size < nb) := Lib.hid (by have h8 := HR.out.qlt; have h9 := HR.out.touch.size; omega)
                have HCT : Hid (∀ m, (recsOf (C.take k) ++ recsB ((frmB xb).take m)).length ≤ 1000000) := Lib.hid (fun m => Nat.le_trans (recs_le (x := (xn, xb, xs0)) HX.out) HRC.out)
                have hfl7 : fs.length = (frmB xb).length := HFL.out
                clear HFO HBF HRV6 HXS6 HT7 hnb
                go_wp2_with fail
                go_loopw [162] (fun iv wi => ∃ (m : Nat) (rv' : Value) (ys : List Value), m ≤ (frmB xb).length ∧ iv = .int .i64 m ∧ RJ w1 wi r w.heap.size R R4 C room seg cur sv2 rv' ∧ BF wi (RBlk r R4) sv2 (headS C 0) ∧ OwnS wi w1.heap.size rv' ys ∧ BFs wi (RBlk r R4) ys (recsOf (C.take k) ++ recsB ((frmB xb).take m)) ∧ (∀ b, rv'.ownBlock = some b → ¬ RBlk r R4 b ∧ ¬ (nb ≤ b ∧ b < w6.heap.size)) ∧ VIs wi (fun b => nb ≤ b ∧ b < w6.heap.size) (.slice Af fs.length cf) fs ∧ BFs wi (fun b => b = a) fs (frmB xb) ∧ w6.heap.size ≤ wi.heap.size) (fun iv _ => (frmB xb).length - (intOf iv).toNat)
                case atStart => exact ⟨0, rv, xs, Nat.zero_le _, rfl, HR7.out, HSV7.out, HRV7.out, by rw [List.take_zero]; show BFs _ _ _ (_ ++ []); rw [List.append_nil]; exact HXS7.out, HRB7.out, HFV7.out, HFS7.out, HZ6.out⟩
                case round =>
                  obtain ⟨m, rv', ys, hmn, rfl, hrj, hsv, hrv, hys, hrb, hfv, hfs, hz⟩ := hrel
                  have HR := Lib.hid hrj
                  have HSV := Lib.hid hsv
                  have HRV := Lib.hid hrv
                  have HYS := Lib.hid hys
                  have HRB := Lib.hid hrb
                  have HFV := Lib.hid hfv
                  have HFS := Lib.hid hfs
                  have HZ := Lib.hid hz
                  clear hsv hrv hys hrb hz hrj
                  by_cases hlt : m < (frmB xb).length
                  · have hl : (frmB xb)[m]? = some (frmB xb)[m] := List.getElem?_eq_getElem hlt
                    generalize (frmB xb)[m] = l at hl
                    have HL := Lib.hid hl
                    have hf : fs[m]? = some (fs[m]'(by rw [hfl7]; exact hlt)) := List.getElem?_eq_getElem _
                    generalize fs[m]'(by rw [hfl7]; exact hlt) = f at hf
                    have hbf := hfs.2 m f l hf hl
                    obtain ⟨Af', cf', ef, hf1', hf2', hf3', hf4'⟩ := hfv
                    injection ef with ef1 _ ef3
                    subst ef1 ef3
                    obtain ⟨af, rfl, haf⟩ := hf4' m f hf
                    have HTK := Lib.hid (saysB_take hl)
                    have HLT := Lib.hid hlt
                    have hi : (m : Int) < ((frmB xb).length : Int) := by omega
                    clear hl hf hfs hf1' hf2' hf3' hf4' hmn
                    cases l with
                    | nil =>
                      obtain ⟨A9, c9, rfl, _⟩ := hbf.1
                      have HE : Hid (recsB ((frmB xb).take (m + 1)) = recsB ((frmB xb).take m)) := Lib.hid (by rw [HTK.out]; show _ ++ [] = _; rw [List.append_nil])
                      clear hbf
                      go_wp2_with fail
                      go_roundw
                      case rel => exact ⟨m + 1, rv', ys, HLT.out, by go_num, HR.out, HSV.out, HRV.out, by rw [HE.out]; exact HYS.out, HRB.out, HFV.out, HFS.out, HZ.out⟩
                      case measure => have := HLT.out; simp [intOf]; omega
                    | cons x r1 =>
                      obtain ⟨ax, cx, rfl, t1, t2, t3, t4, htail⟩ := hbf.tail
                      by_cases hx0 : x.toNat = 0
                      · have HE : Hid (recsB ((frmB xb).take (m + 1)) = recsB ((frmB xb).take m) ++ [r1]) := Lib.hid (by rw [HTK.out]; show _ ++ (if x.toNat = 0 then some r1 else none : Option (List UInt8)).toList = _; rw [if_pos hx0]; rfl)
                        have l1 : (0 : Int) < ((r1.length + 1 : Nat) : Int) := by omega
                        have l2 : 0 < r1.length + 1 := by omega
                        have l3 : ((x.toNat : Int) == 0) = true := by rw [hx0]; rfl
                        have t2' : cx ≤ 9223372036854775807 := by unfold maxLen at t2; omega
                        clear hbf hx0 t2
                        rcases htail with ⟨rfl, rfl, ht⟩ | ⟨hc1, ht⟩
                        · have hq0 : True := trivial
                          have HTL := Lib.hid ht
                          have HA : Hid (Below wr.heap.size wr (wr.drew.alloc (.cells #[.slice (some ax) 0 0] 32))) := Lib.hid ((below_drew (Below.refl _ wr)).trans (below_new (w := wr.drew) _))
                          have HTA := Lib.hid (HTL.out.below HA.out)
                          have hsrc : Src Tryz.prog 1 42 (.slice (some ⟨wr.heap.size, 0, none⟩) 1 1) ([.slice (some ax) 0 0] : List Value).length [.slice (some ax) 0 0] (wr.drew.alloc (.cells #[.slice (some ax) 0 0] 32)) := Src.ofSlice _ Tryz.underlying42 ⟨wr.heap.size, 0, none⟩ 1 1 [.slice (some ax) 0 0] rfl (one_new wr.drew wr.heap.size rfl _ _) (by simp [Value.oneCell'])
                          have hln : ys.length + ([.slice (some ax) 0 0] : List Value).length ≤ 1073741824 := by have h8 := HYS.out.1; have h9 := HCT.out m; show ys.length + 1 ≤ _; omega
                          obtain ⟨v', w', hrun, hown', hgrow, hblk⟩ := run_append_vals (wr.drew.alloc (.cells #[.slice (some ax) 0 0] 32)) w1.heap.size 42 42 rv' ys [.slice (some ax) 0 0] _ (HRV.out.below HA.out) hsrc hln (by have h8 := HR.out.touch.size; have h9 := HA.out.size; omega)
                          have hrow : ∀ b, rv'.ownBlock = some b → w1.heap.size ≤ b ∧ ¬ RBlk r R4 b := fun b hb => ⟨(HRV.out.lt b hb).1, (HRB.out b hb).1⟩
                          have hrj9 := HR.out.grown (.inr rfl) hgrow hrow
                          have ca := hrj9.recc
                          have fa := free0 hrj9.head 4
                          have c4 := HR.out.recc
                          have c4a : (wr.alloc (.cells #[.slice (some ax) 0 0] 32)).cell? ⟨w.heap.size, 4, none⟩ = some rv' := ((below_new (w := wr) _).cell (World.block_lt_of_cell? _ _ c4)).trans c4
                          obtain ⟨A9, c9, ev9, _, _, _, _⟩ := hown'.vis
                          have HTT := Lib.hid (HR.out.putTouch (.inr rfl) hgrow (.slice A9 (ys ++ ([.slice (some ax) 0 0] : List Value)).length c9))
                          rw [ev9] at hown' hblk hrun
                          have hrun2 : (Builtin.append_ #[42, 42] 42 #[rv', .slice (some ⟨wr.heap.size, 0, none⟩) 1 1]).run Tryz.prog (wr.alloc (.cells #[.slice (some ax) 0 0] 32)).drew = .ok (.slice A9 (ys ++ ([.slice (some ax) 0 0] : List Value)).length c9) w' := hrun
                          clear hrun
                          have HJ9 := Lib.hid (hrj9.set 4 (.slice A9 (ys ++ ([.slice (some ax) 0 0] : List Value)).length c9) rfl)
                          have HO9 := Lib.hid hown'
                          have HBK9 : Hid (∀ b, (Value.slice A9 (ys ++ ([.slice (some ax) 0 0] : List Value)).length c9).ownBlock = some b → (¬ RBlk r R4 b ∧ ¬ (nb ≤ b ∧ b < w6.heap.size)) ∧ b ≠ w.heap.size) := Lib.hid (fun b hb => by
                            have h9 : w1.heap.size ≤ b := (HO9.out.lt b hb).1
                            have h8 := HR.out.qlt
                            refine ⟨?_, by omega⟩
                            rcases hblk with e | e
                            · exact HRB.out b (e.symm.trans hb)
                            · have e2 := e.symm.trans hb
                              have e3 : (wr.drew.alloc (.cells #[.slice (some ax) 0 0] 32)).heap.size = b := Option.some.inj e2
                              have e4 : wr.heap.size ≤ b := by rw [← e3]; exact HA.out.size
                              have h7 := HZ.out
                              exact ⟨fun hc => by have := HR.out.ok.lt b hc; omega, by omega⟩)
                          have HSV9 := Lib.hid (HSV.out.touch HTT.out (fun b hb hc => hc.elim (fun e => HR.out.far (by rw [← e]; exact hb)) (fun e => (HRB.out b e).1 hb)))
                          have HYS9 := Lib.hid ((HYS.out.append (BFs.one (HTL.out.mono (G := RBlk r R4) (fun b _ e => by rw [e]; exact HBA.out)))).touch HTT.out (fun b hb hc => hc.elim (fun e => HR.out.far (by rw [← e]; exact hb)) (fun e => (HRB.out b e).1 hb)))
                          have HFV9 := Lib.hid (HFV.out.touch HTT.out (fun b hb hc => hc.elim (fun e => by have h8 := HQ6.out; omega) (fun e => (HRB.out b e).2 hb)))
                          have HFS9 := Lib.hid (HFS.out.touch HTT.out (fun b hb hc => hc.elim (fun e => HR.out.far (by rw [← e, hb]; exact HBA.out)) (fun e => (HRB.out b e).1 (by rw [hb]; exact HBA.out))))
                          have HZ9 : Hid (w6.heap.size ≤ (w'.setCell ⟨w.heap.size, 4, none⟩ (.slice A9 (ys ++ ([.slice (some ax) 0 0] : List Value)).length c9)).heap.size) := Lib.hid (Nat.le_trans HZ.out HTT.out.size)
                          have HO10 : Hid (OwnS (w'.setCell ⟨w.heap.size, 4, none⟩ (.slice A9 (ys ++ ([.slice (some ax) 0 0] : List Value)).length c9)) w1.heap.size (.slice A9 (ys ++ ([.slice (some ax) 0 0] : List Value)).length c9) (ys ++ ([.slice (some ax) 0 0] : List Value))) := Lib.hid (HO9.out.keep (by rw [setCell_szJ]; exact Nat.le_refl _) (fun b hb => Below.heap_setCell _ _ _ _ (fun e => (HBK9.out b hb).2 e)))
                          generalize (ys ++ ([.slice (some ax) 0 0] : List Value)).length = YL at *
                          clear ht hsrc hln hown' hgrow hblk hrow hrj9 ev9
                          go_wp2_with fail
                          go_region_law (first | (refine step_append_run hrun2 (by rfl) _ _ (by rfl) (by rfl) (by rfl) (by rfl) ?_))
                          all_goals
                            clear hrun2
                            go_wp2_with fail
                            go_roundw
                            case rel => exact ⟨m + 1, _, _, HLT.out, by go_num, HJ9.out, HSV9.out, HO10.out, by rw [HE.out, ← List.append_assoc]; exact HYS9.out, fun b hb => (HBK9.out b hb).1, HFV9.out, HFS9.out, HZ9.out⟩
                            case measure => have := HLT.out; simp [intOf]; omega
                        · have hcx : 1 ≤ cx := by omega
                          have HTL := Lib.hid ht
                          have HA : Hid (Below wr.heap.size wr (wr.drew.alloc (.cells #[.slice (some ⟨ax.block, ax.off + 1, none⟩) r1.length (cx - 1)] 32))) := Lib.hid ((below_drew (Below.refl _ wr)).trans (below_new (w := wr.drew) _))
                          have HTA := Lib.hid (HTL.out.below HA.out)
                          have hsrc : Src Tryz.prog 1 42 (.slice (some ⟨wr.heap.size, 0, none⟩) 1 1) ([.slice (some ⟨ax.block, ax.off + 1, none⟩) r1.length (cx - 1)] : List Value).length [.slice (some ⟨ax.block, ax.off + 1, none⟩) r1.length (cx - 1)] (wr.drew.alloc (.cells #[.slice (some ⟨ax.block, ax.off + 1, none⟩) r1.length (cx - 1)] 32)) := Src.ofSlice _ Tryz.underlying42 ⟨wr.heap.size, 0, none⟩ 1 1 [.slice (some ⟨ax.block, ax.off + 1, none⟩) r1.length (cx - 1)] rfl (one_new wr.drew wr.heap.size rfl _ _) (by simp [Value.oneCell'])
                          have hln : ys.length + ([.slice (some ⟨ax.block, ax.off + 1, none⟩) r1.length (cx - 1)] : List Value).length ≤ 1073741824 := by have h8 := HYS.out.1; have h9 := HCT.out m; show ys.length + 1 ≤ _; omega
                          obtain ⟨v', w', hrun, hown', hgrow, hblk⟩ := run_append_vals (wr.drew.alloc (.cells #[.slice (some ⟨ax.block, ax.off + 1, none⟩) r1.length (cx - 1)] 32)) w1.heap.size 42 42 rv' ys [.slice (some ⟨ax.block, ax.off + 1, none⟩) r1.length (cx - 1)] _ (HRV.out.below HA.out) hsrc hln (by have h8 := HR.out.touch.size; have h9 := HA.out.size; omega)
                          have hrow : ∀ b, rv'.ownBlock = some b → w1.heap.size ≤ b ∧ ¬ RBlk r R4 b := fun b hb => ⟨(HRV.out.lt b hb).1, (HRB.out b hb).1⟩
                          have hrj9 := HR.out.grown (.inr rfl) hgrow hrow
                          have ca := hrj9.recc
                          have fa := free0 hrj9.head 4
                          have c4 := HR.out.recc
                          have c4a : (wr.alloc (.cells #[.slice (some ⟨ax.block, ax.off + 1, none⟩) r1.length (cx - 1)] 32)).cell? ⟨w.heap.size, 4, none⟩ = some rv' := ((below_new (w := wr) _).cell (World.block_lt_of_cell? _ _ c4)).trans c4
                          obtain ⟨A9, c9, ev9, _, _, _, _⟩ := hown'.vis
                          have HTT := Lib.hid (HR.out.putTouch (.inr rfl) hgrow (.slice A9 (ys ++ ([.slice (some ⟨ax.block, ax.off + 1, none⟩) r1.length (cx - 1)] : List Value)).length c9))
                          rw [ev9] at hown' hblk hrun
                          have hrun2 : (Builtin.append_ #[42, 42] 42 #[rv', .slice (some ⟨wr.heap.size, 0, none⟩) 1 1]).run Tryz.prog (wr.alloc (.cells #[.slice (some ⟨ax.block, ax.off + 1, none⟩) r1.length (cx - 1)] 32)).drew = .ok (.slice A9 (ys ++ ([.slice (some ⟨ax.block, ax.off + 1, none⟩) r1.length (cx - 1)] : List Value)).length c9) w' := hrun
                          clear hrun
                          have HJ9 := Lib.hid (hrj9.set 4 (.slice A9 (ys ++ ([.slice (some ⟨ax.block, ax.off + 1, none⟩) r1.length (cx - 1)] : List Value)).length c9) rfl)
                          have HO9 := Lib.hid hown'
                          have HBK9 : Hid (∀ b, (Value.slice A9 (ys ++ ([.slice (some ⟨ax.block, ax.off + 1, none⟩) r1.length (cx - 1)] : List Value)).length c9).ownBlock = some b → (¬ RBlk r R4 b ∧ ¬ (nb ≤ b ∧ b < w6.heap.size)) ∧ b ≠ w.heap.size) := Lib.hid (fun b hb => by
                            have h9 : w1.heap.size ≤ b := (HO9.out.lt b hb).1
                            have h8 := HR.out.qlt
                            refine ⟨?_, by omega⟩
                            rcases hblk with e | e
                            · exact HRB.out b (e.symm.trans hb)
                            · have e2 := e.symm.trans hb
                              have e3 : (wr.drew.alloc (.cells #[.slice (some ⟨ax.block, ax.off + 1, none⟩) r1.length (cx - 1)] 32)).heap.size = b := Option.some.inj e2
                              have e4 : wr.heap.size ≤ b := by rw [← e3]; exact HA.out.size
                              have h7 := HZ.out
                              exact ⟨fun hc => by have := HR.out.ok.lt b hc; omega, by omega⟩)
                          have HSV9 := Lib.hid (HSV.out.touch HTT.out (fun b hb hc => hc.elim (fun e => HR.out.far (by rw [← e]; exact hb)) (fun e => (HRB.out b e).1 hb)))
                          have HYS9 := Lib.hid ((HYS.out.append (BFs.one (HTL.out.mono (G := RBlk r R4) (fun b _ e => by rw [e]; exact HBA.out)))).touch HTT.out (fun b hb hc => hc.elim (fun e => HR.out.far (by rw [← e]; exact hb)) (fun e => (HRB.out b e).1 hb)))
                          have HFV9 := Lib.hid (HFV.out.touch HTT.out (fun b hb hc => hc.elim (fun e => by have h8 := HQ6.out; omega) (fun e => (HRB.out b e).2 hb)))
                          have HFS9 := Lib.hid (HFS.out.touch HTT.out (fun b hb hc => hc.elim (fun e => HR.out.far (by rw [← e, hb]; exact HBA.out)) (fun e => (HRB.out b e).1 (by rw [hb]; exact HBA.out))))
                          have HZ9 : Hid (w6.heap.size ≤ (w'.setCell ⟨w.heap.size, 4, none⟩ (.slice A9 (ys ++ ([.slice (some ⟨ax.block, ax.off + 1, none⟩) r1.length (cx - 1)] : List Value)).length c9)).heap.size) := Lib.hid (Nat.le_trans HZ.out HTT.out.size)
                          have HO10 : Hid (OwnS (w'.setCell ⟨w.heap.size, 4, none⟩ (.slice A9 (ys ++ ([.slice (some ⟨ax.block, ax.off + 1, none⟩) r1.length (cx - 1)] : List Value)).length c9)) w1.heap.size (.slice A9 (ys ++ ([.slice (some ⟨ax.block, ax.off + 1, none⟩) r1.length (cx - 1)] : List Value)).length c9) (ys ++ ([.slice (some ⟨ax.block, ax.off + 1, none⟩) r1.length (cx - 1)] : List Value))) := Lib.hid (HO9.out.keep (by rw [setCell_szJ]; exact Nat.le_refl _) (fun b hb => Below.heap_setCell _ _ _ _ (fun e => (HBK9.out b hb).2 e)))
                          generalize (ys ++ ([.slice (some ⟨ax.block, ax.off + 1, none⟩) r1.length (cx - 1)] : List Value)).length = YL at *
                          clear ht hsrc hln hown' hgrow hblk hrow hrj9 ev9
                          go_wp2_with fail
                          have l9 : (1 : Int) ≤ (r1.length : Int) + 1 := by omega
                          go_region_law (first | (refine step_append_run hrun2 (by rfl) _ _ (by rfl) (by rfl) (by rfl) (by rfl) ?_))
                          all_goals
                            clear hrun2
                            go_wp2_with fail
                            go_roundw
                            case rel => exact ⟨m + 1, _, _, HLT.out, by go_num, HJ9.out, HSV9.out, HO10.out, by rw [HE.out, ← List.append_assoc]; exact HYS9.out, fun b hb => (HBK9.out b hb).1, HFV9.out, HFS9.out, HZ9.out⟩
                            case measure => have := HLT.out; simp [intOf]; omega
                      · have HE : Hid (recsB ((frmB xb).take (m + 1)) = recsB ((frmB xb).take m)) := Lib.hid (by rw [HTK.out]; show _ ++ (if x.toNat = 0 then some r1 else none : Option (List UInt8)).toList = _; rw [if_neg hx0]; exact List.append_nil _)
                        have l1 : (0 : Int) < ((r1.length + 1 : Nat) : Int) := by omega
                        have l2 : 0 < r1.length + 1 := by omega
                        have l3 : ((x.toNat : Int) == 0) = false := by rw [beq_eq_false_iff_ne]; omega
                        have l4 : ¬ (x.toNat : Int) = 0 := by omega
                        clear hbf htail t1 t2 t4 hx0
                        go_wp2_with fail
                        go_roundw
                        case rel => exact ⟨m + 1, rv', ys, HLT.out, by go_num, HR.out, HSV.out, HRV.out, by rw [HE.out]; exact HYS.out, HRB.out, HFV.out, HFS.out, HZ.out⟩
                        case measure => have := HLT.out; simp [intOf]; omega
                  · obtain rfl : m = (frmB xb).length := by omega
                    clear hfv hfs
                    go_wp2_with fail
                    go_roundw
                    case rel => exact ⟨k + 1, sv2, rv', ys, HLT.out, by go_num, HR.out, by rw [if_neg (by omega)]; exact HSV.out, HRV.out, by rw [HT.out, recsOf_snoc]; have h9 := HYS.out; rw [List.take_length] at h9; exact h9, fun b hb => (HRB.out b hb).1⟩
                    case measure => have := HLT.out; simp [intOf]; omega
          · obtain rfl : k = C.length := by omega
            clear hrj
            go_wp2_with fail
            go_ret2
            refine ⟨w.heap.size, R4, sv, rv, xs, cur, w1, rfl, HB.out, HR.out, Nat.le_refl _, ?_, HRV.out, by have := HXS.out; rwa [List.take_length] at this⟩
            have := HSV.out
            by_cases h0 : C.length = 0
            · rw [if_pos h0] at this
              obtain rfl : C = [] := List.length_eq_zero_iff.1 h0
              exact this
            · rwa [if_neg h0] at this
end Go.Proofs.YtnegnokielmgkaaGreatDoor
