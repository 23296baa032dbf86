/- The tape: how it turns. -/
import Derived.Test.YtnegnokielmgkaaGreatDoorZTapC
import Derived.Test.YtnegnokielmgkaaGreatDoorZCrcE
set_option linter.unusedSimpArgs false
set_option linter.unusedVariables false
set_option linter.unnecessarySimpa false
namespace Go.Proofs.YtnegnokielmgkaaGreatDoor
open Go.RowKit
open Go.Maps (Keyed)

theorem set_same {α : Type} {l : List α} {j : Nat} {x : α} (hx : l[j]? = some x) : l.set j x = l := by
  refine List.ext_getElem? fun i => ?_
  rw [List.getElem?_set]
  split
  · subst i
    rw [if_pos (List.getElem?_eq_some_iff.1 hx).1, hx]
  · rfl
theorem Sep.nil (t : Nat) : Sep t none [] := ⟨(by simp), (fun e he => by cases he), (fun i j a b k h => by simp at h), (fun e he => by cases he)⟩
theorem Sep.set {t : Nat} {m : Option Nat} {L : List Ent} (h : Sep t m L) {j : Nat} {e e' : Ent} (hj : L[j]? = some e) (N : Nat) (hN : ∀ x ∈ L, ∀ k ∈ x.blocks, k < N) (ht : t < N) (hm : ∀ k, m = some k → k < N)
    (hsb : e'.sb = e.sb) (hv : ∀ k, e'.v.ownBlock = some k → e.v.ownBlock = some k ∨ N ≤ k) : Sep t m (L.set j e') := by
  have hin := List.mem_of_getElem? hj
  have hsN : e.sb < N := hN e hin _ (List.mem_cons_self ..)
  have key : ∀ k ∈ e'.blocks, k ∈ e.blocks ∨ N ≤ k := by
    intro k hk
    rcases List.mem_cons.1 hk with rfl | hk
    · exact .inl (by rw [hsb]; exact List.mem_cons_self ..)
    · rcases hv k (by simpa using hk) with h1 | h1
      · exact .inl (List.mem_cons_of_mem _ (by simpa using h1))
      · exact .inr h1
  have at' : ∀ (i : Nat) (a : Ent), (L.set j e')[i]? = some a → (i = j ∧ a = e') ∨ (i ≠ j ∧ L[i]? = some a) := by
    intro i a ha
    rw [List.getElem?_set] at ha
    split at ha
    · rename_i hij
      split at ha
      · exact .inl ⟨hij.symm, (Option.some.inj ha).symm⟩
      · cases ha
    · rename_i hij
      exact .inr ⟨fun e => hij e.symm, ha⟩
  refine ⟨h.tm, fun x hx k hk => ?_, fun i i' a b k ha hb hka hkb => ?_, fun x hx => ?_⟩
  · rcases List.mem_or_eq_of_mem_set hx with hx | rfl
    · exact h.te x hx k hk
    · rcases key k hk with hk | hk
      · exact h.te e hin k hk
      · exact ⟨by omega, fun e => by have := hm k e; omega⟩
  · replace ha := at' i a ha
    replace hb := at' i' b hb
    rcases ha with ⟨rfl, rfl⟩ | ⟨hi, ha⟩ <;> rcases hb with ⟨rfl, rfl⟩ | ⟨hi', hb⟩
    · rfl
    · rcases key k hka with h1 | h1
      · exact h.ee _ _ _ _ k hj hb h1 hkb
      · have := hN b (List.mem_of_getElem? hb) k hkb; omega
    · rcases key k hkb with h1 | h1
      · exact h.ee _ _ _ _ k ha hj hka h1
      · have := hN a (List.mem_of_getElem? ha) k hka; omega
    · exact h.ee _ _ _ _ k ha hb hka hkb
  · rcases List.mem_or_eq_of_mem_set hx with hx | rfl
    · exact h.own x hx
    · intro he
      rcases hv _ he with h1 | h1
      · rw [hsb] at h1; exact h.own e hin h1
      · rw [hsb] at h1; omega
theorem Sep.snoc {t : Nat} {m : Option Nat} {L : List Ent} (h : Sep t m L) {e : Ent} (N : Nat) (hN : ∀ x ∈ L, ∀ k ∈ x.blocks, k < N) (ht : t < N) (hm : ∀ k ∈ e.blocks, m ≠ some k) (he : ∀ k ∈ e.blocks, N ≤ k) (ho : e.v.ownBlock ≠ some e.sb) : Sep t m (L ++ [e]) := by
  have at' : ∀ (i : Nat) (a : Ent), (L ++ [e])[i]? = some a → (i = L.length ∧ a = e) ∨ L[i]? = some a := by
    intro i a ha
    by_cases hi : i < L.length
    · rw [List.getElem?_append_left hi] at ha; exact .inr ha
    · rw [List.getElem?_append_right (by omega)] at ha
      have h0 : i - L.length = 0 := by
        rcases Nat.eq_zero_or_pos (i - L.length) with h | h
        · exact h
        · rw [List.getElem?_eq_none (by simp; omega)] at ha; cases ha
      rw [h0] at ha
      exact .inl ⟨by omega, by simpa using ha.symm⟩
  refine ⟨h.tm, fun x hx k hk => ?_, fun i i' a b k ha hb hka hkb => ?_, fun x hx => ?_⟩
  · rcases List.mem_append.1 hx with hx | hx
    · exact h.te x hx k hk
    · obtain rfl : x = e := by simpa using hx
      have := he k hk
      exact ⟨by omega, hm k hk⟩
  · replace ha := at' i a ha
    replace hb := at' i' b hb
    rcases ha with ⟨rfl, rfl⟩ | ha <;> rcases hb with ⟨rfl, rfl⟩ | hb
    · rfl
    · have := hN b (List.mem_of_getElem? hb) k hkb; have := he k hka; omega
    · have := hN a (List.mem_of_getElem? ha) k hka; have := he k hkb; omega
    · exact h.ee _ _ _ _ k ha hb hka hkb
  · rcases List.mem_append.1 hx with hx | hx
    · exact h.own x hx
    · obtain rfl : x = e := by simpa using hx
      exact ho
theorem Sep.erase {t : Nat} {m : Option Nat} {L : List Ent} (h : Sep t m L) (j : Nat) : Sep t m (L.eraseIdx j) := by
  have hs := (List.eraseIdx_sublist L j).subset
  refine ⟨h.tm, fun x hx => h.te x (hs hx), fun i i' a b k ha hb hka hkb => ?_, fun x hx => h.own x (hs hx)⟩
  rw [List.getElem?_eraseIdx] at ha hb
  split at ha <;> split at hb
  · exact h.ee _ _ _ _ k ha hb hka hkb
  · have := h.ee _ _ _ _ k ha hb hka hkb; omega
  · have := h.ee _ _ _ _ k ha hb hka hkb; omega
  · have := h.ee _ _ _ _ k ha hb hka hkb; omega

section
variable {w w' : World} {t : Nat} {T : Tp}
theorem TapeAt.ltT (h : TapeAt w t T) : t < w.heap.size := heap_lt h.head
theorem TapeAt.ltM (h : TapeAt w t T) : ∀ k, T.m = some k → k < w.heap.size := fun k hk => h.lt k (List.mem_cons_of_mem _ (List.mem_append.2 (.inl (by rw [hk]; exact List.mem_singleton.2 rfl))))
theorem TapeAt.ltE (h : TapeAt w t T) : ∀ x ∈ T.L, ∀ k ∈ x.blocks, k < w.heap.size := fun x hx k hk => (h.segs x hx).lt k hk
theorem mem_blocks {k : Nat} : k ∈ T.blocks t ↔ k = t ∨ T.m = some k ∨ ∃ e ∈ T.L, k ∈ e.blocks := by
  unfold Tp.blocks
  rw [List.mem_cons, List.mem_append, List.mem_flatMap]
  constructor
  · rintro (h | h | h)
    · exact .inl h
    · exact .inr (.inl (by simpa using h))
    · exact .inr (.inr h)
  · rintro (h | h | h)
    · exact .inl h
    · exact .inr (.inl (by simpa using h))
    · exact .inr (.inr h)
/-- Only the head turns. -/
theorem TapeAt.turn (h : TapeAt w t T) {room left : Nat} {fused down : Bool} (hs : w.heap.size ≤ w'.heap.size) (hk : ∀ k, k < w.heap.size → k ≠ t → w'.heap[k]? = w.heap[k]?)
    (hh : w'.heap[t]? = some (.cells #[.map T.m, .int .i64 (room : Int), .bool fused, .int .i64 (left : Int), .bool down] 77 (0, 0))) (hr : room ≤ 1048576) (hl : left ≤ 9223372036854775807) : TapeAt w' t { T with room := room, fused := fused, left := left, down := down } := by
  refine ⟨hh, ?_, fun e he => (h.segs e he).keep hs fun k hke => hk k (h.ltE e he k hke) (h.sep.te e he k hke).1, h.sep, h.few, h.used, hr, hl⟩
  have hm := h.map
  show MapPart w' T.m T.L T.clock
  cases hT : T.m with
  | none => rw [hT] at hm; exact hm
  | some m =>
    rw [hT] at hm
    exact MapIs.keep hm (hk m (h.ltM m hT) (fun e => h.sep.tm (by rw [hT, e])))
theorem used_set {L : List Ent} {j : Nat} {e e' : Ent} (hj : L[j]? = some e) : used (L.set j e') + e.b.length = used L + e'.b.length := by
  induction L generalizing j with
  | nil => simp at hj
  | cons x L ih =>
    cases j with
    | zero =>
      obtain rfl : x = e := by simpa using hj
      simp [used]; omega
    | succ j =>
      have := ih (j := j) (by simpa using hj)
      simp [used] at this ⊢; omega
theorem used_snoc (L : List Ent) (e : Ent) : used (L ++ [e]) = used L + e.b.length := by simp [used]
theorem used_mem {L : List Ent} {e : Ent} (he : e ∈ L) : e.b.length ≤ used L := by
  induction L with
  | nil => cases he
  | cons x L ih =>
    simp only [used, List.map_cons, List.sum_cons] at *
    rcases List.mem_cons.1 he with rfl | he
    · omega
    · have := ih he; omega
theorem used_erase {L : List Ent} {j : Nat} {e : Ent} (hj : L[j]? = some e) : used (L.eraseIdx j) + e.b.length = used L := by
  induction L generalizing j with
  | nil => simp at hj
  | cons x L ih =>
    cases j with
    | zero =>
      obtain rfl : x = e := by simpa using hj
      simp [used]; omega
    | succ j =>
      have := ih (j := j) (by simpa using hj)
      simp [used] at this ⊢; omega
/-- One segment's bytes, or how many of them are synced, turn. -/
theorem TapeAt.seg (h : TapeAt w t T) {j : Nat} {e : Ent} (hj : T.L[j]? = some e) {v : Value} {b : List UInt8} {s : Nat} (hs : w.heap.size ≤ w'.heap.size)
    (hk : ∀ k, k < w.heap.size → k ≠ e.sb → e.v.ownBlock ≠ some k → w'.heap[k]? = w.heap[k]?) (hh : w'.heap[e.sb]? = some (.cells #[v, .int .i64 (s : Int)] 89 (0, 0))) (hrow : RowIs w' 1 v b.length (bc b))
    (hv : v.ownBlock = e.v.ownBlock ∨ (∀ k, v.ownBlock = some k → w.heap.size ≤ k)) (hsb : s ≤ b.length) (hu : Go.Proofs.YtnegnokielmgkaaGreatDoor.used T.L + b.length ≤ 1048576 + e.b.length) : TapeAt w' t { T with L := T.L.set j { e with v := v, b := b, s := s } } := by
  have hin := List.mem_of_getElem? hj
  have hse := h.segs e hin
  have other : ∀ (i : Nat) (x : Ent), T.L[i]? = some x → i ≠ j → SegAt w' x := fun i x hx hne =>
    (h.segs x (List.mem_of_getElem? hx)).keep hs fun k hkx => hk k (h.ltE x (List.mem_of_getElem? hx) k hkx) (fun e1 => hne (h.sep.ee i j x e k hx hj hkx (by rw [e1]; exact List.mem_cons_self ..))) (fun e1 => hne (h.sep.ee i j x e k hx hj hkx (List.mem_cons_of_mem _ (by rw [e1]; exact List.mem_singleton.2 rfl))))
  have hte := h.sep.te e hin
  refine ⟨?_, ?_, fun x hx => ?_, h.sep.set hj w.heap.size h.ltE h.ltT h.ltM rfl (fun k hkv => ?_), by rw [List.length_set]; exact h.few, ?_, h.room, h.left⟩
  · exact (hk t h.ltT (fun e1 => (hte e.sb (List.mem_cons_self ..)).1 e1.symm) (fun e1 => (hte t (List.mem_cons_of_mem _ (by rw [e1]; exact List.mem_singleton.2 rfl))).1 rfl)).trans h.head
  · have hm := h.map
    show MapPart w' T.m (T.L.set j _) T.clock
    cases hT : T.m with
    | none => rw [hT] at hm; rw [show T.L = [] from hm] at hj; cases hj
    | some m =>
      rw [hT] at hm
      have hme : (T.L.set j { e with v := v, b := b, s := s }).map Ent.me = T.L.map Ent.me := by
        rw [map_set']
        exact set_same (show (T.L.map Ent.me)[j]? = some (Ent.me { e with v := v, b := b, s := s }) from (me_at hj : (T.L.map Ent.me)[j]? = some e.me))
      show MapIs _ _ w' m ((T.L.set j { e with v := v, b := b, s := s }).map Ent.me) T.clock
      rw [hme]
      exact MapIs.keep hm (hk m (h.ltM m hT) (fun e1 => (hte e.sb (List.mem_cons_self ..)).2 (by rw [hT, e1])) (fun e1 => (hte m (List.mem_cons_of_mem _ (by rw [e1]; exact List.mem_singleton.2 rfl))).2 hT))
  · obtain ⟨i, hi⟩ := List.getElem?_of_mem hx
    rw [List.getElem?_set] at hi
    split at hi
    · rename_i hij
      split at hi
      · obtain rfl := Option.some.inj hi
        exact ⟨hh, hrow, hsb, hse.lo, hse.hi⟩
      · cases hi
    · rename_i hij
      exact other i x hi (fun e1 => hij e1.symm)
  · rcases hv with hv | hv
    · exact .inl (hv ▸ hkv)
    · exact .inr (hv k hkv)
  · have := used_set (e' := { e with v := v, b := b, s := s }) hj
    simp only at this ⊢
    omega
end
end Go.Proofs.YtnegnokielmgkaaGreatDoor
