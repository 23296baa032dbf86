/- A law's own net, told by its packets and the sites that are cut off: each call, whatever its numbers. The document's own Nums, and Same of operations (genmefa.py wrote it.) -/
import Derived.Test.YtmbonngjkgcijaaGreatDoorZNetM
import Derived.Test.YtmbonngjkgcijaaGreatDoorZMecE
set_option linter.unusedSimpArgs false
set_option linter.unusedVariables false
set_option linter.unnecessarySimpa false
namespace Go.Proofs.YtmbonngjkgcijaaGreatDoor
open Go.RowKit Go.Shelf
/-- What the map of the sites that are cut off holds. -/
def pairE (e : MapEntry) : Value × Value := (e.key, e.val)
def pairC (s : Int) : Value × Value := (.int .i64 s, .agg #[])
/-- A net made since w0, the sites of C cut off; F: blocks that are none of its. -/
def NC (w0 W : World) (b : Nat) (most : Int) (P : List P3) (C : List Int) (F : Nat → Prop) : Prop :=
  ∃ v ro L mp E c, NetAt W b most v L mp E c ro ∧ L.map Pk.p = P ∧ E.map pairE = C.map pairC ∧ (∀ k, ro k ≠ 0 → w0.heap.size ≤ k ∧ ¬ F k) ∧ Below w0.heap.size w0 W ∧ ∀ k, F k → k < W.heap.size
/-- What a call of the net leaves. -/
def NCP (w0 w : World) (b : Nat) (most : Int) (P : List P3) (C : List Int) (F : Nat → Prop) (w' : World) : Prop := NC w0 w' b most P C F ∧ Touch (fun k => w0.heap.size ≤ k ∧ ¬ F k) w w'
def inP (P : List P3) (i : Int) : Prop := 0 ≤ i ∧ i < (P.length : Int)
instance (P : List P3) (i : Int) : Decidable (inP P i) := inferInstanceAs (Decidable (_ ∧ _))
theorem inP_get {P : List P3} {i : Int} (h : inP P i) : ∃ (j : Nat) (p : P3), i = (j : Int) ∧ P[j]? = some p ∧ j < P.length := by
  obtain ⟨j, rfl⟩ := Int.eq_ofNat_of_zero_le h.1
  have := h.2
  exact ⟨j, P[j]'(by omega), rfl, List.getElem?_eq_getElem (by omega), by omega⟩
theorem keys_not {E : List MapEntry} {C : List Int} {s : Int} (h : E.map pairE = C.map pairC) (hs : s ∉ C) : ∀ e ∈ E, e.key ≠ .int .i64 s := fun e he q => by
  have h1 : pairE e ∈ E.map pairE := List.mem_map_of_mem he
  rw [h] at h1
  obtain ⟨x, hx, hxe⟩ := List.mem_map.1 h1
  have h2 := congrArg Prod.fst hxe
  rw [show (pairE e).1 = e.key from rfl, q] at h2
  cases h2
  exact hs hx
section
variable {w0 w : World} {b : Nat} {most : Int} {P : List P3} {C : List Int} {F : Nat → Prop}
theorem NC.below (h : NC w0 w b most P C F) {W : World} (hb : Below w.heap.size w W) : NC w0 W b most P C F := by
  obtain ⟨v, ro, L, mp, E, c, h1, h2, hk, h3, h4, h5⟩ := h
  exact ⟨v, ro, L, mp, E, c, h1.below hb, h2, hk, h3, h4.trans (hb.mono h4.size), fun k hk => Nat.lt_of_lt_of_le (h5 k hk) hb.size⟩
theorem NC.pbelow (h : NC w0 w b most P C F) {W : World} (hb : Below w.heap.size w W) : NCP w0 w b most P C F W := ⟨h.below hb, .of_below hb⟩
theorem NC.bel (h : NC w0 w b most P C F) : Below w0.heap.size w0 w := by
  obtain ⟨_, _, _, _, _, _, _, _, _, _, h4, _⟩ := h
  exact h4
theorem NC.next {v : Value} {ro : Nat → Nat} {L : List Pk} {mp c : Nat} {E : List MapEntry} (h1 : NetAt w b most v L mp E c ro) (hk : E.map pairE = C.map pairC) (h3 : ∀ k, ro k ≠ 0 → w0.heap.size ≤ k ∧ ¬ F k) (h4 : Below w0.heap.size w0 w) (h5 : ∀ k, F k → k < w.heap.size) {P' : List P3} {W : World} (hp : NetP w b most mp E c ro P' W) : NCP w0 w b most P' C F W := by
  obtain ⟨v', ro', L', q1, q2, q3⟩ := hp
  have hT : Touch (fun k => w0.heap.size ≤ k ∧ ¬ F k) w W := q2.1.mono (fun k _ e => h3 k e)
  refine ⟨⟨v', ro', L', mp, E, c, q1, q3, hk, fun k hk => ?_, h4.trans (hT.below (fun i e => e.1) h4.size), fun k hk => Nat.lt_of_lt_of_le (h5 k hk) hT.size⟩, hT⟩
  by_cases hlt : k < w.heap.size
  · rw [q2.2 k hlt] at hk; exact h3 k hk
  · exact ⟨Nat.le_trans h4.size (Nat.le_of_not_lt hlt), fun e => hlt (h5 k e)⟩
theorem NC.add (h : NC w0 w b most P C F) {W : World} (hb : Below w.heap.size w W) : NC w0 W b most P C (fun k => F k ∨ (w.heap.size ≤ k ∧ k < W.heap.size)) := by
  obtain ⟨v, ro, L, mp, E, c, h1, h2, hk, h3, h4, h5⟩ := h
  refine ⟨v, ro, L, mp, E, c, h1.below hb, h2, hk, fun k hk => ⟨(h3 k hk).1, fun e => ?_⟩, h4.trans (hb.mono h4.size), fun k hk => ?_⟩
  · rcases e with e | e
    · exact (h3 k hk).2 e
    · have := h1.lt k hk; omega
  · rcases hk with e | e
    · exact Nat.lt_of_lt_of_le (h5 k e) hb.size
    · exact e.2
/-- The net beside a change of blocks that are none of its. -/
theorem NC.keepF (h : NC w0 w b most P C F) {S : Nat → Prop} {W : World} (hT : Touch S w W) (hS : ∀ k, S k → F k ∧ w0.heap.size ≤ k) : NC w0 W b most P C F := by
  obtain ⟨v, ro, L, mp, E, c, h1, h2, hk, h3, h4, h5⟩ := h
  refine ⟨v, ro, L, mp, E, c, h1.keep hT (fun k e => ?_), h2, hk, h3, h4.trans (hT.below (fun i e => (hS i e).2) h4.size), fun k hk => Nat.lt_of_lt_of_le (h5 k hk) hT.size⟩
  by_cases q : ro k = 0
  · exact q
  · exact ((h3 k q).2 (hS k e).1).elim
theorem nc_new {most : Int} (h1 : 1 ≤ most) (h2 : most ≤ 1024) : Calls Tryz.prog 11 #[.int .i64 most] w fun e w' => ∃ b, e = .returned (.tuple #[.pointer (some ⟨b, 0, none⟩), .int .i64 0]) ∧ NC w w' b most [] [] (fun _ => False) := by
  refine (nnew_ok h1 h2).mono ?_
  rintro e w' ⟨b, mp, ro, rfl, hn, hr, hb⟩
  exact ⟨b, rfl, _, ro, [], mp, [], 0, hn, rfl, rfl, fun k hk => ⟨hr k hk, fun e => e⟩, hb, fun k e => e.elim⟩
theorem nc_len (h : NC w0 w b most P C F) : Calls Tryz.prog 16 #[.pointer (some ⟨b, 0, none⟩)] w fun e w' => e = .returned (.int .i64 P.length) ∧ w' = w := by
  obtain ⟨v, ro, L, mp, E, c, h1, rfl, hk, h3, h4, h5⟩ := h
  rw [List.length_map]
  exact nlen_any h1
theorem nc_few (h : NC w0 w b most P C F) : P.length ≤ 1024 ∧ ∀ p ∈ P, p.1 ≠ [] ∧ p.1.length ≤ 20000 := by
  obtain ⟨v, ro, L, mp, E, c, h1, rfl, hk, h3, h4, h5⟩ := h
  refine ⟨by rw [List.length_map]; exact h1.few.1, fun p hp => ?_⟩
  obtain ⟨x, hx, rfl⟩ := List.mem_map.1 hp
  exact h1.few.2 x hx
theorem nc_drop (hG : Glob w0) (h : NC w0 w b most P C F) (i : Int) : Calls Tryz.prog 25 #[.pointer (some ⟨b, 0, none⟩), .int .i64 i] w fun e w' => e = .returned (.int .i64 (if inP P i then 0 else 3)) ∧ NCP w0 w b most (if inP P i then P.eraseIdx i.toNat else P) C F w' := by
  have h' := h
  obtain ⟨v, ro, L, mp, E, c, h1, rfl, hk, h3, h4, h5⟩ := h
  by_cases hi : inP (L.map Pk.p) i
  · rw [if_pos hi, if_pos hi]
    obtain ⟨j, p, rfl, hj, hl⟩ := inP_get hi
    rw [List.length_map] at hl
    refine (nDrop_ok (hG.below h4) (old_errT hG h3) h1 hl).mono ?_
    rintro e w' ⟨rfl, hp⟩
    exact ⟨rfl, NC.next h1 hk h3 h4 h5 hp⟩
  · rw [if_neg hi, if_neg hi]
    refine (nDrop_no (hG.below h4) (nfind_no h1 (fun e => hi ⟨e.1, by rw [List.length_map]; exact e.2⟩))).mono ?_
    rintro e w' ⟨rfl, hb⟩
    exact ⟨rfl, h'.pbelow hb⟩
/-- What a doubled packet leaves. -/
def dupL (P : List P3) (j : Nat) : List P3 := match P[j]? with
  | some p => P ++ [(p.1, p.2.1, 0)]
  | none => P
theorem nc_twice (hG : Glob w0) (h : NC w0 w b most P C F) (hm : most ≤ 1024) (hl : (P.length : Int) < most) (i : Int) : Calls Tryz.prog 26 #[.pointer (some ⟨b, 0, none⟩), .int .i64 i] w fun e w' => e = .returned (.int .i64 (if inP P i then 0 else 3)) ∧ NCP w0 w b most (if inP P i then dupL P i.toNat else P) C F w' := by
  have h' := h
  obtain ⟨v, ro, L, mp, E, c, h1, rfl, hk, h3, h4, h5⟩ := h
  rw [List.length_map] at hl
  by_cases hi : inP (L.map Pk.p) i
  · rw [if_pos hi, if_pos hi]
    obtain ⟨j, p, rfl, hj, hjl⟩ := inP_get hi
    obtain ⟨x, hx, rfl⟩ := get_p hj
    refine (nTwice_ok (hG.below h4) (old_errT hG h3) h1 hm hx hl).mono ?_
    rintro e w' ⟨rfl, hp⟩
    refine ⟨rfl, NC.next h1 hk h3 h4 h5 ?_⟩
    rw [Int.toNat_natCast, dupL, hj]
    exact hp
  · rw [if_neg hi, if_neg hi]
    refine (nTwice_no (hG.below h4) (nfind_no h1 (fun e => hi ⟨e.1, by rw [List.length_map]; exact e.2⟩))).mono ?_
    rintro e w' ⟨rfl, hb⟩
    exact ⟨rfl, h'.pbelow hb⟩
/-- What a moved packet leaves. -/
def moveL (P : List P3) (j k : Nat) : List P3 := match P[j]? with
  | some p => (P.eraseIdx j).insertIdx k p
  | none => P
theorem nc_move (hG : Glob w0) (h : NC w0 w b most P C F) (i k : Int) : Calls Tryz.prog 27 #[.pointer (some ⟨b, 0, none⟩), .int .i64 i, .int .i64 k] w fun e w' => e = .returned (.int .i64 (if inP P i then (if inP P k then 0 else 2) else 3)) ∧ NCP w0 w b most (if inP P i ∧ inP P k then moveL P i.toNat k.toNat else P) C F w' := by
  have h' := h
  obtain ⟨v, ro, L, mp, E, c, h1, rfl, hke, h3, h4, h5⟩ := h
  by_cases hi : inP (L.map Pk.p) i
  · rw [if_pos hi]
    obtain ⟨j, p, rfl, hj, hjl⟩ := inP_get hi
    obtain ⟨x, hx, rfl⟩ := get_p hj
    by_cases hk : inP (L.map Pk.p) k
    · rw [if_pos hk, if_pos ⟨hi, hk⟩]
      obtain ⟨q, _, rfl, _, hql⟩ := inP_get hk
      rw [List.length_map] at hql
      refine (nMove_ok (hG.below h4) (old_errT hG h3) h1 hx hql).mono ?_
      rintro e w' ⟨rfl, hp⟩
      refine ⟨rfl, NC.next h1 hke h3 h4 h5 ?_⟩
      rw [Int.toNat_natCast, Int.toNat_natCast, moveL, hj]
      exact hp
    · rw [if_neg hk, if_neg (fun e => hk e.2)]
      refine (nMove_arg (hG.below h4) h1 hx (fun e => hk ⟨e.1, by rw [List.length_map]; exact e.2⟩)).mono ?_
      rintro e w' ⟨rfl, hb⟩
      exact ⟨rfl, h'.pbelow hb⟩
  · rw [if_neg hi, if_neg (fun e => hi e.1)]
    refine (nMove_no (hG.below h4) (nfind_no h1 (fun e => hi ⟨e.1, by rw [List.length_map]; exact e.2⟩))).mono ?_
    rintro e w' ⟨rfl, hb⟩
    exact ⟨rfl, h'.pbelow hb⟩
/-- What a packet that is held leaves. -/
def holdL (P : List P3) (j : Nat) (k : Int) : List P3 := match P[j]? with
  | some p => P.set j (p.1, p.2.1, k)
  | none => P
theorem nc_hold (hG : Glob w0) (h : NC w0 w b most P C F) (i k : Int) : Calls Tryz.prog 28 #[.pointer (some ⟨b, 0, none⟩), .int .i64 i, .int .i64 k] w fun e w' => e = .returned (.int .i64 (if inP P i then (if 0 ≤ k ∧ k ≤ 1000 then 0 else 2) else 3)) ∧ NCP w0 w b most (if inP P i ∧ 0 ≤ k ∧ k ≤ 1000 then holdL P i.toNat k else P) C F w' := by
  have h' := h
  obtain ⟨v, ro, L, mp, E, c, h1, rfl, hke, h3, h4, h5⟩ := h
  by_cases hi : inP (L.map Pk.p) i
  · rw [if_pos hi]
    obtain ⟨j, p, rfl, hj, hjl⟩ := inP_get hi
    obtain ⟨x, hx, rfl⟩ := get_p hj
    by_cases hk : 0 ≤ k ∧ k ≤ 1000
    · rw [if_pos hk, if_pos ⟨hi, hk⟩]
      refine (nHold_ok (hG.below h4) (old_errT hG h3) h1 hx hk).mono ?_
      rintro e w' ⟨rfl, hp⟩
      refine ⟨rfl, NC.next h1 hke h3 h4 h5 ?_⟩
      rw [Int.toNat_natCast, holdL, hj]
      exact hp
    · rw [if_neg hk, if_neg (fun e => hk e.2)]
      refine (nHold_arg (hG.below h4) h1 hx hk).mono ?_
      rintro e w' ⟨rfl, hb⟩
      exact ⟨rfl, h'.pbelow hb⟩
  · rw [if_neg hi, if_neg (fun e => hi e.1)]
    refine (nHold_no (hG.below h4) (nfind_no h1 (fun e => hi ⟨e.1, by rw [List.length_map]; exact e.2⟩))).mono ?_
    rintro e w' ⟨rfl, hb⟩
    exact ⟨rfl, h'.pbelow hb⟩
/-- How many bits a packet has; what a packet of which one is turned leaves. -/
def bitsP (P : List P3) (j : Nat) : Int := match P[j]? with
  | some p => 8 * (p.1.length : Int)
  | none => 0
def spoilL (P : List P3) (j k : Nat) : List P3 := match P[j]? with
  | some p => P.set j (spoilB p.1 k, p.2.1, p.2.2)
  | none => P
theorem nc_spoil (hG : Glob w0) (h : NC w0 w b most P C F) (i k : Int) : Calls Tryz.prog 29 #[.pointer (some ⟨b, 0, none⟩), .int .i64 i, .int .i64 k] w fun e w' => e = .returned (.int .i64 (if inP P i then (if 0 ≤ k ∧ k < bitsP P i.toNat then 0 else 2) else 3)) ∧ NCP w0 w b most (if inP P i ∧ 0 ≤ k ∧ k < bitsP P i.toNat then spoilL P i.toNat k.toNat else P) C F w' := by
  have h' := h
  obtain ⟨v, ro, L, mp, E, c, h1, rfl, hke, h3, h4, h5⟩ := h
  by_cases hi : inP (L.map Pk.p) i
  · rw [if_pos hi]
    obtain ⟨j, p, rfl, hj, hjl⟩ := inP_get hi
    obtain ⟨x, hx, rfl⟩ := get_p hj
    have hbit : bitsP (L.map Pk.p) j = 8 * (x.bs.length : Int) := by unfold bitsP; rw [hj]; rfl
    rw [Int.toNat_natCast, hbit]
    by_cases hk : 0 ≤ k ∧ k < 8 * (x.bs.length : Int)
    · rw [if_pos hk, if_pos ⟨hi, hk⟩]
      obtain ⟨q, rfl⟩ := Int.eq_ofNat_of_zero_le hk.1
      have := hk.2
      refine (nSpoil_ok (hG.below h4) (old_errT hG h3) h1 hx (k := q) (by omega)).mono ?_
      rintro e w' ⟨rfl, hp⟩
      refine ⟨rfl, NC.next h1 hke h3 h4 h5 ?_⟩
      rw [Int.toNat_natCast, spoilL, hj]
      exact hp
    · rw [if_neg hk, if_neg (fun e => hk e.2)]
      refine (nSpoil_arg (hG.below h4) h1 hx hk).mono ?_
      rintro e w' ⟨rfl, hb⟩
      exact ⟨rfl, h'.pbelow hb⟩
  · rw [if_neg hi, if_neg (fun e => hi e.1)]
    refine (nSpoil_no (hG.below h4) (nfind_no h1 (fun e => hi ⟨e.1, by rw [List.length_map]; exact e.2⟩))).mono ?_
    rintro e w' ⟨rfl, hb⟩
    exact ⟨rfl, h'.pbelow hb⟩
/-- The bytes of a packet. -/
def bytesL (P : List P3) (i : Int) : List UInt8 := if inP P i then ((P[i.toNat]?.map (·.1)).getD []) else []
theorem nc_packet (h : NC w0 w b most P C F) (i : Int) : Calls Tryz.prog 21 #[.pointer (some ⟨b, 0, none⟩), .int .i64 i] w fun e w' => ∃ v', e = .returned v' ∧ OwnBy w' w.heap.size v' (bytesL P i) ∧ Below w.heap.size w w' := by
  obtain ⟨v, ro, L, mp, E, c, h1, rfl, hke, h3, h4, h5⟩ := h
  unfold bytesL
  by_cases hi : inP (L.map Pk.p) i
  · rw [if_pos hi]
    obtain ⟨j, p, rfl, hj, hjl⟩ := inP_get hi
    obtain ⟨x, hx, rfl⟩ := get_p hj
    rw [Int.toNat_natCast, hj]
    exact nPacket_ok h1 hx
  · rw [if_neg hi]
    refine (nPacket_no (nfind_no h1 (fun e => hi ⟨e.1, by rw [List.length_map]; exact e.2⟩))).mono ?_
    rintro e w' ⟨rfl, hb⟩
    exact ⟨_, rfl, .inl ⟨rfl, rfl⟩, hb⟩
theorem nc_waits (h : NC w0 w b most P C F) (i : Int) : Calls Tryz.prog 34 #[.pointer (some ⟨b, 0, none⟩), .int .i64 i] w fun e w' => e = .returned (.int .i64 (if inP P i then ((P[i.toNat]?.map (·.2.2)).getD 0) else 0)) ∧ Below w.heap.size w w' := by
  obtain ⟨v, ro, L, mp, E, c, h1, rfl, hke, h3, h4, h5⟩ := h
  by_cases hi : inP (L.map Pk.p) i
  · rw [if_pos hi]
    obtain ⟨j, p, rfl, hj, hjl⟩ := inP_get hi
    obtain ⟨x, hx, rfl⟩ := get_p hj
    rw [Int.toNat_natCast, hj]
    refine (nWaits_ok h1 hx).mono ?_
    rintro e w' ⟨rfl, rfl⟩
    exact ⟨rfl, Below.refl _ _⟩
  · rw [if_neg hi]
    exact nWaits_no (nfind_no h1 (fun e => hi ⟨e.1, by rw [List.length_map]; exact e.2⟩))
theorem nc_tick (h : NC w0 w b most P C F) (hw : ∀ p ∈ P, 0 ≤ p.2.2 ∧ p.2.2 ≤ 1000) : Calls Tryz.prog 30 #[.pointer (some ⟨b, 0, none⟩)] w fun e w' => e = .returned (.tuple #[]) ∧ NCP w0 w b most (P.map tickP) C F w' := by
  obtain ⟨v, ro, L, mp, E, c, h1, rfl, hke, h3, h4, h5⟩ := h
  refine (nTick_any h1 (fun e he => hw _ (List.mem_map_of_mem he))).mono ?_
  rintro e w' ⟨rfl, hp⟩
  exact ⟨rfl, NC.next h1 hke h3 h4 h5 hp⟩
theorem nc_none (hG : Glob w0) (h : NC w0 w b most P C F) {i : Int} (hi : ¬ inP P i) : Calls Tryz.prog 22 #[.pointer (some ⟨b, 0, none⟩), .int .i64 i] w fun e w' => e = .returned (.tuple #[zeroM, .int .i64 3]) ∧ NCP w0 w b most P C F w' := by
  have h' := h
  obtain ⟨v, ro, L, mp, E, c, h1, rfl, hke, h3, h4, h5⟩ := h
  refine (nDeliver_no (hG.below h4) (fun W hW => nfind_no (h1.below hW) (fun e => hi ⟨e.1, by rw [List.length_map]; exact e.2⟩))).mono ?_
  rintro e w' ⟨rfl, hb⟩
  exact ⟨rfl, h'.pbelow hb⟩
theorem nc_busy (hG : Glob w0) (h : NC w0 w b most P C F) {i : Nat} {p : P3} (hi : P[i]? = some p) (hw : 0 < p.2.2) : Calls Tryz.prog 22 #[.pointer (some ⟨b, 0, none⟩), .int .i64 i] w fun e w' => e = .returned (.tuple #[zeroM, .int .i64 20]) ∧ NCP w0 w b most P C F w' := by
  have h' := h
  obtain ⟨v, ro, L, mp, E, c, h1, rfl, hke, h3, h4, h5⟩ := h
  obtain ⟨x, hx, rfl⟩ := get_p hi
  refine (nDeliver_busy (hG.below h4) h1 hx hw).mono ?_
  rintro e w' ⟨rfl, hb⟩
  exact ⟨rfl, h'.pbelow hb⟩
end
end Go.Proofs.YtmbonngjkgcijaaGreatDoor

namespace Go.Proofs.YtmbonngjkgcijaaGreatDoor
open Go.RowKit Go.Shelf

set_option maxRecDepth 100000 in
set_option maxHeartbeats 4000000 in
theorem rnums_eq {w : World} {v u : Value} {P Q : List Int} (h : NumsAt w v P) (h2 : NumsAt w u Q) :
    Calls Tryz.prog 70 #[v, u] w fun e w' => e = .returned (.bool (decide (P = Q))) ∧ Below w.heap.size w w' := by
  obtain ⟨A, c, rfl, hc1, hc2, hcl⟩ := h
  obtain ⟨A2, c2, rfl, hd1, hd2, hdl⟩ := h2
  unfold maxLen at hc2 hd2
  by_cases hne : P.length = Q.length
  · obtain ⟨m, hm⟩ : ∃ m, P.length = m := ⟨_, rfl⟩
    have hm2 : Q.length = m := hne.symm.trans hm
    rw [hm] at hc1 ⊢
    rw [hm2] at hd1 ⊢
    have hmb : m ≤ 9223372036854775807 := by omega
    have HM := Lib.hid hm
    have HM2 := Lib.hid hm2
    have HC := Lib.hid hcl
    have HD := Lib.hid hdl
    clear hm hm2 hne hcl hdl
    go_enter Tryz.func70, Tryz.ntmps70
    go_wp2_with fail
    go_loopw [13] (fun iv wr => ∃ i : Nat, i ≤ m ∧ iv = .int .i64 i ∧ (∀ j < i, P[j]? = Q[j]?) ∧ Below w.heap.size w wr) (fun iv _ => m - (intOf iv).toNat)
    case atStart => exact ⟨0, Nat.zero_le _, rfl, fun j hj => by omega, Below.refl _ _⟩
    case round =>
      obtain ⟨i, hi, rfl, hsame, hbw⟩ := hrel
      have HB := Lib.hid hbw
      by_cases hlt : i < m
      · obtain ⟨x, hx⟩ : ∃ r, P[i]? = some r := ⟨_, List.getElem?_eq_getElem (by rw [HM.out]; exact hlt)⟩
        obtain ⟨y, hy⟩ : ∃ r, Q[i]? = some r := ⟨_, List.getElem?_eq_getElem (by rw [HM2.out]; exact hlt)⟩
        obtain ⟨a, rfl, q1, k1⟩ := HC.out i x hx
        obtain ⟨a2, rfl, q2, l1⟩ := HD.out i y hy
        replace k1 := (hbw.cell (by rw [add_block]; exact q1)).trans k1
        replace l1 := (hbw.cell (by rw [add_block]; exact q2)).trans l1
        have HK : Hid (∀ W, Below wr.heap.size wr W → W.cell? (a.add i) = some (.int .i64 x) ∧ W.cell? (a2.add i) = some (.int .i64 y)) := Lib.hid (fun W hW => ⟨(hW.cell (World.block_lt_of_cell? _ _ k1)).trans k1, (hW.cell (World.block_lt_of_cell? _ _ l1)).trans l1⟩)
        have HLT := Lib.hid hlt
        have HSA := Lib.hid hsame
        have HXY := Lib.hid (And.intro hx hy)
        have hiI : (i : Int) < (m : Int) := by omega
        have hiB : (i : Int) ≤ 9223372036854775806 := by omega
        clear hx hy q1 q2 k1 l1 hlt hsame hbw hi
        by_cases hxy : x = y
        · subst hxy
          have HN : Hid (∀ j < i + 1, P[j]? = Q[j]?) := Lib.hid (fun j hj => by
            by_cases hji : j = i
            · subst hji; rw [HXY.out.1, HXY.out.2]
            · exact HSA.out j (by omega))
          go_wp2_with fail
          refine wp_only ?_
          refine wp_region_held_drew (S := fun W => W.cell? (a.add i) = some (.int .i64 x) ∧ W.cell? (a2.add i) = some (.int .i64 x)) (by kernel_rfl) (HK.out _ (below_drew (Below.refl _ _))) (fun hHeld => ?_)
          refine tkH (i := 0) (oi := { dst := some 16, op := .move (.tmp 0), type := 34, pos := "ref.go:162", after := #[], guard := none }) (v := ?vv1) ?hy1 ?rest1
          case hy1 => (refine Or.inl ⟨by rfl, ?_⟩; intro W hSw; (try dsimp only at hSw); go_simp; (try with_reducible rfl))
          try simp only [Act.put, pzz]
          refine tkH (i := 1) (oi := { dst := some 17, op := .move (.tmp 5), type := 3, pos := "ref.go:162", after := #[], guard := none }) (v := ?vv2) ?hy2 ?rest2
          case hy2 => (refine Or.inl ⟨by rfl, ?_⟩; intro W hSw; (try dsimp only at hSw); go_simp; (try with_reducible rfl))
          try simp only [Act.put, pzz]
          refine tkH (i := 2) (oi := { dst := some 18, op := .indexAddr 34 (.tmp 16) (.tmp 17), type := 0, pos := "ref.go:162", after := #[⟨0, .data⟩, ⟨1, .data⟩], guard := none }) (v := ?vv3) ?hy3 ?rest3
          case hy3 => (refine Or.inl ⟨by rfl, ?_⟩; intro W hSw; (try dsimp only at hSw); go_simp; (try with_reducible rfl))
          try simp only [Act.put, pzz]
          refine tkH (i := 3) (oi := { dst := some 19, op := .load 2 (.tmp 18), type := 2, pos := "ref.go:162", after := #[⟨2, .data⟩], guard := none }) (v := ?vv4) ?hy4 ?rest4
          case hy4 => (refine Or.inl ⟨by rfl, ?_⟩; intro W hSw; (try dsimp only at hSw); go_simp; (try with_reducible rfl))
          try simp only [Act.put, pzz]
          refine tkH (i := 4) (oi := { dst := some 20, op := .move (.tmp 1), type := 34, pos := "ref.go:162", after := #[], guard := none }) (v := ?vv5) ?hy5 ?rest5
          case hy5 => (refine Or.inl ⟨by rfl, ?_⟩; intro W hSw; (try dsimp only at hSw); go_simp; (try with_reducible rfl))
          try simp only [Act.put, pzz]
          refine tkH (i := 5) (oi := { dst := some 21, op := .move (.tmp 5), type := 3, pos := "ref.go:162", after := #[], guard := none }) (v := ?vv6) ?hy6 ?rest6
          case hy6 => (refine Or.inl ⟨by rfl, ?_⟩; intro W hSw; (try dsimp only at hSw); go_simp; (try with_reducible rfl))
          try simp only [Act.put, pzz]
          refine tkH (i := 6) (oi := { dst := some 22, op := .indexAddr 34 (.tmp 20) (.tmp 21), type := 0, pos := "ref.go:162", after := #[⟨4, .data⟩, ⟨5, .data⟩], guard := none }) (v := ?vv7) ?hy7 ?rest7
          case hy7 => (refine Or.inl ⟨by rfl, ?_⟩; intro W hSw; (try dsimp only at hSw); go_simp; (try with_reducible rfl))
          try simp only [Act.put, pzz]
          refine tkH (i := 7) (oi := { dst := some 23, op := .load 2 (.tmp 22), type := 2, pos := "ref.go:162", after := #[⟨6, .data⟩], guard := none }) (v := ?vv8) ?hy8 ?rest8
          case hy8 => (refine Or.inl ⟨by rfl, ?_⟩; intro W hSw; (try dsimp only at hSw); go_simp; (try with_reducible rfl))
          try simp only [Act.put, pzz]
          refine tkH (i := 8) (oi := { dst := some 24, op := .binOp .neq 2 (.tmp 19) (.tmp 23) 2, type := 4, pos := "ref.go:162", after := #[⟨3, .data⟩, ⟨7, .data⟩], guard := none }) (v := ?vv9) ?hy9 ?rest9
          case hy9 => (refine Or.inl ⟨by rfl, ?_⟩; intro W hSw; (try dsimp only at hSw); go_simp; (try with_reducible rfl))
          try simp only [Act.put, pzz]
          refine wpAnyH_done (by kernel_rfl) ?_ _
          clear hHeld
          dsimp only [onlyN]
          have HB2 := Lib.hid (below_drew HB.out)
          go_wp2_with fail
          go_roundw
          case rel => exact ⟨i + 1, HLT.out, by go_num, HN.out, HB2.out⟩
          case measure => have := HLT.out; simp [intOf]; omega
        · have hb : (x != y) = true := by simpa using hxy
          have HPN : Hid (decide (P = Q) = false) := Lib.hid (by
            simp only [decide_eq_false_iff_not]
            rintro rfl
            exact hxy (Option.some.inj (HXY.out.1.symm.trans HXY.out.2)))
          clear hxy
          go_wp2_with fail
          refine wp_only ?_
          refine wp_region_held_drew (S := fun W => W.cell? (a.add i) = some (.int .i64 x) ∧ W.cell? (a2.add i) = some (.int .i64 y)) (by kernel_rfl) (HK.out _ (below_drew (Below.refl _ _))) (fun hHeld => ?_)
          refine tkH (i := 0) (oi := { dst := some 16, op := .move (.tmp 0), type := 34, pos := "ref.go:162", after := #[], guard := none }) (v := ?vv10) ?hy10 ?rest10
          case hy10 => (refine Or.inl ⟨by rfl, ?_⟩; intro W hSw; (try dsimp only at hSw); go_simp; (try with_reducible rfl))
          try simp only [Act.put, pzz]
          refine tkH (i := 1) (oi := { dst := some 17, op := .move (.tmp 5), type := 3, pos := "ref.go:162", after := #[], guard := none }) (v := ?vv11) ?hy11 ?rest11
          case hy11 => (refine Or.inl ⟨by rfl, ?_⟩; intro W hSw; (try dsimp only at hSw); go_simp; (try with_reducible rfl))
          try simp only [Act.put, pzz]
          refine tkH (i := 2) (oi := { dst := some 18, op := .indexAddr 34 (.tmp 16) (.tmp 17), type := 0, pos := "ref.go:162", after := #[⟨0, .data⟩, ⟨1, .data⟩], guard := none }) (v := ?vv12) ?hy12 ?rest12
          case hy12 => (refine Or.inl ⟨by rfl, ?_⟩; intro W hSw; (try dsimp only at hSw); go_simp; (try with_reducible rfl))
          try simp only [Act.put, pzz]
          refine tkH (i := 3) (oi := { dst := some 19, op := .load 2 (.tmp 18), type := 2, pos := "ref.go:162", after := #[⟨2, .data⟩], guard := none }) (v := ?vv13) ?hy13 ?rest13
          case hy13 => (refine Or.inl ⟨by rfl, ?_⟩; intro W hSw; (try dsimp only at hSw); go_simp; (try with_reducible rfl))
          try simp only [Act.put, pzz]
          refine tkH (i := 4) (oi := { dst := some 20, op := .move (.tmp 1), type := 34, pos := "ref.go:162", after := #[], guard := none }) (v := ?vv14) ?hy14 ?rest14
          case hy14 => (refine Or.inl ⟨by rfl, ?_⟩; intro W hSw; (try dsimp only at hSw); go_simp; (try with_reducible rfl))
          try simp only [Act.put, pzz]
          refine tkH (i := 5) (oi := { dst := some 21, op := .move (.tmp 5), type := 3, pos := "ref.go:162", after := #[], guard := none }) (v := ?vv15) ?hy15 ?rest15
          case hy15 => (refine Or.inl ⟨by rfl, ?_⟩; intro W hSw; (try dsimp only at hSw); go_simp; (try with_reducible rfl))
          try simp only [Act.put, pzz]
          refine tkH (i := 6) (oi := { dst := some 22, op := .indexAddr 34 (.tmp 20) (.tmp 21), type := 0, pos := "ref.go:162", after := #[⟨4, .data⟩, ⟨5, .data⟩], guard := none }) (v := ?vv16) ?hy16 ?rest16
          case hy16 => (refine Or.inl ⟨by rfl, ?_⟩; intro W hSw; (try dsimp only at hSw); go_simp; (try with_reducible rfl))
          try simp only [Act.put, pzz]
          refine tkH (i := 7) (oi := { dst := some 23, op := .load 2 (.tmp 22), type := 2, pos := "ref.go:162", after := #[⟨6, .data⟩], guard := none }) (v := ?vv17) ?hy17 ?rest17
          case hy17 => (refine Or.inl ⟨by rfl, ?_⟩; intro W hSw; (try dsimp only at hSw); go_simp; (try with_reducible rfl))
          try simp only [Act.put, pzz]
          refine tkH (i := 8) (oi := { dst := some 24, op := .binOp .neq 2 (.tmp 19) (.tmp 23) 2, type := 4, pos := "ref.go:162", after := #[⟨3, .data⟩, ⟨7, .data⟩], guard := none }) (v := (.bool true)) ?hy18 ?rest18
          case hy18 => ((refine Or.inl ⟨by rfl, ?_⟩; intro W hSw; (try dsimp only at hSw); go_simp; (try with_reducible rfl)))
          try simp only [Act.put, pzz]
          refine wpAnyH_done (by kernel_rfl) ?_ _
          clear hHeld
          dsimp only [onlyN]
          have HB2 := Lib.hid (below_drew HB.out)
          go_wp2_with fail
          go_ret
          exact ⟨by rw [HPN.out]; rfl, HB2.out⟩
      · obtain rfl : i = m := by omega
        have hpq : decide (P = Q) = true := by
          simp only [decide_eq_true_eq]
          apply List.ext_getElem?
          intro j
          by_cases hj : j < i
          · exact hsame j hj
          · rw [List.getElem?_eq_none (by rw [HM.out]; omega), List.getElem?_eq_none (by rw [HM2.out]; omega)]
        have HPQ := Lib.hid hpq
        clear hsame hpq hbw
        go_wp2_with fail
        go_ret
        exact ⟨by rw [HPQ.out]; rfl, HB.out⟩
  · have hneI : ¬ (P.length : Int) = (Q.length : Int) := by omega
    have hneb : ((P.length : Int) != (Q.length : Int)) = true := by simpa using hneI
    have HPN : Hid (decide (P = Q) = false) := Lib.hid (by simp only [decide_eq_false_iff_not]; rintro rfl; exact hne rfl)
    clear hcl hdl hne
    go_enter Tryz.func70, Tryz.ntmps70
    go_wp2_with fail
    go_ret
    exact ⟨by rw [HPN.out]; rfl, Below.refl _ _⟩
set_option maxRecDepth 100000 in
set_option maxHeartbeats 4000000 in
theorem rops_eq {w : World} {v u : Value} {P Q : List OpV} (h : OpsAt w v P) (h2 : OpsAt w u Q) :
    Calls Tryz.prog 71 #[v, u] w fun e w' => e = .returned (.bool (decide (P = Q))) ∧ Below w.heap.size w w' := by
  obtain ⟨A, c, rfl, hc1, hc2, hcl⟩ := h.form
  obtain ⟨A2, c2, rfl, hd1, hd2, hdl⟩ := h2.form
  clear h h2
  unfold maxLen at hc2 hd2
  by_cases hne : P.length = Q.length
  · obtain ⟨m, hm⟩ : ∃ m, P.length = m := ⟨_, rfl⟩
    have hm2 : Q.length = m := hne.symm.trans hm
    rw [hm] at hc1 ⊢
    rw [hm2] at hd1 ⊢
    have hmb : m ≤ 9223372036854775807 := by omega
    have HM := Lib.hid hm
    have HM2 := Lib.hid hm2
    have HC := Lib.hid hcl
    have HD := Lib.hid hdl
    clear hm hm2 hne hcl hdl
    go_enter Tryz.func71, Tryz.ntmps71
    go_wp2_with fail
    go_loopw [13] (fun iv wr => ∃ i : Nat, i ≤ m ∧ iv = .int .i64 i ∧ (∀ j < i, P[j]? = Q[j]?) ∧ Below w.heap.size w wr) (fun iv _ => m - (intOf iv).toNat)
    case atStart => exact ⟨0, Nat.zero_le _, rfl, fun j hj => by omega, Below.refl _ _⟩
    case round =>
      obtain ⟨i, hi, rfl, hsame, hbw⟩ := hrel
      have HB := Lib.hid hbw
      by_cases hlt : i < m
      · obtain ⟨x, hx⟩ : ∃ r, P[i]? = some r := ⟨_, List.getElem?_eq_getElem (by rw [HM.out]; exact hlt)⟩
        obtain ⟨y, hy⟩ : ∃ r, Q[i]? = some r := ⟨_, List.getElem?_eq_getElem (by rw [HM2.out]; exact hlt)⟩
        obtain ⟨a, rfl, q1, k1, k2, k3, k4⟩ := HC.out i x hx
        obtain ⟨a2, rfl, q2, l1, l2, l3, l4⟩ := HD.out i y hy
        have r1 : (a.add (i * 4)).block < w.heap.size := by rw [add_block]; exact q1
        have r2 : (a2.add (i * 4)).block < w.heap.size := by rw [add_block]; exact q2
        have HK : Hid (∀ W, Below wr.heap.size wr W → W.cell? (a.add (i * 4)) = some (.int .i64 x.k) ∧ W.cell? ⟨(a.add (i * 4)).block, (a.add (i * 4)).off + 1, none⟩ = some (.string x.s) ∧ W.cell? ⟨(a.add (i * 4)).block, (a.add (i * 4)).off + 2, none⟩ = some (.int .i64 x.n) ∧ W.cell? ⟨(a.add (i * 4)).block, (a.add (i * 4)).off + 3, none⟩ = some (.int .i64 x.lo) ∧ W.cell? (a2.add (i * 4)) = some (.int .i64 y.k) ∧ W.cell? ⟨(a2.add (i * 4)).block, (a2.add (i * 4)).off + 1, none⟩ = some (.string y.s) ∧ W.cell? ⟨(a2.add (i * 4)).block, (a2.add (i * 4)).off + 2, none⟩ = some (.int .i64 y.n) ∧ W.cell? ⟨(a2.add (i * 4)).block, (a2.add (i * 4)).off + 3, none⟩ = some (.int .i64 y.lo)) := Lib.hid (fun W hW => by
          have hW2 := hbw.trans (hW.mono hbw.size)
          exact ⟨(hW2.cell r1).trans k1, (hW2.cell (p := ⟨(a.add (i * 4)).block, (a.add (i * 4)).off + 1, none⟩) r1).trans k2, (hW2.cell (p := ⟨(a.add (i * 4)).block, (a.add (i * 4)).off + 2, none⟩) r1).trans k3, (hW2.cell (p := ⟨(a.add (i * 4)).block, (a.add (i * 4)).off + 3, none⟩) r1).trans k4, (hW2.cell r2).trans l1, (hW2.cell (p := ⟨(a2.add (i * 4)).block, (a2.add (i * 4)).off + 1, none⟩) r2).trans l2, (hW2.cell (p := ⟨(a2.add (i * 4)).block, (a2.add (i * 4)).off + 2, none⟩) r2).trans l3, (hW2.cell (p := ⟨(a2.add (i * 4)).block, (a2.add (i * 4)).off + 3, none⟩) r2).trans l4⟩)
        have HLT := Lib.hid hlt
        have HSA := Lib.hid hsame
        have HXY := Lib.hid (And.intro hx hy)
        have hiI : (i : Int) < (m : Int) := by omega
        have hiB : (i : Int) ≤ 9223372036854775806 := by omega
        clear hx hy q1 q2 r1 r2 k1 k2 k3 k4 l1 l2 l3 l4 hlt hsame hbw hi
        by_cases hxy : x = y
        · subst hxy
          have HN : Hid (∀ j < i + 1, P[j]? = Q[j]?) := Lib.hid (fun j hj => by
            by_cases hji : j = i
            · subst hji; rw [HXY.out.1, HXY.out.2]
            · exact HSA.out j (by omega))
          go_wp2_with fail
          refine wp_only ?_
          refine wp_region_held_drew (S := fun W => W.cell? (a.add (i * 4)) = some (.int .i64 x.k) ∧ W.cell? ⟨(a.add (i * 4)).block, (a.add (i * 4)).off + 1, none⟩ = some (.string x.s) ∧ W.cell? ⟨(a.add (i * 4)).block, (a.add (i * 4)).off + 2, none⟩ = some (.int .i64 x.n) ∧ W.cell? ⟨(a.add (i * 4)).block, (a.add (i * 4)).off + 3, none⟩ = some (.int .i64 x.lo) ∧ W.cell? (a2.add (i * 4)) = some (.int .i64 x.k) ∧ W.cell? ⟨(a2.add (i * 4)).block, (a2.add (i * 4)).off + 1, none⟩ = some (.string x.s) ∧ W.cell? ⟨(a2.add (i * 4)).block, (a2.add (i * 4)).off + 2, none⟩ = some (.int .i64 x.n) ∧ W.cell? ⟨(a2.add (i * 4)).block, (a2.add (i * 4)).off + 3, none⟩ = some (.int .i64 x.lo)) (by kernel_rfl) (HK.out _ (below_drew (Below.refl _ _))) (fun hHeld => ?_)
          refine tkH (i := 0) (oi := { dst := some 16, op := .move (.tmp 0), type := 35, pos := "ref.go:263", after := #[], guard := none }) (v := ?vv19) ?hy19 ?rest19
          case hy19 => (refine Or.inl ⟨by rfl, ?_⟩; intro W hSw; (try dsimp only at hSw); go_simp; (try with_reducible rfl))
          try simp only [Act.put, pzz]
          refine tkH (i := 1) (oi := { dst := some 17, op := .move (.tmp 5), type := 3, pos := "ref.go:263", after := #[], guard := none }) (v := ?vv20) ?hy20 ?rest20
          case hy20 => (refine Or.inl ⟨by rfl, ?_⟩; intro W hSw; (try dsimp only at hSw); go_simp; (try with_reducible rfl))
          try simp only [Act.put, pzz]
          refine tkH (i := 2) (oi := { dst := some 18, op := .indexAddr 35 (.tmp 16) (.tmp 17), type := 0, pos := "ref.go:263", after := #[⟨0, .data⟩, ⟨1, .data⟩], guard := none }) (v := ?vv21) ?hy21 ?rest21
          case hy21 => (refine Or.inl ⟨by rfl, ?_⟩; intro W hSw; (try dsimp only at hSw); go_simp; (try with_reducible rfl))
          try simp only [Act.put, pzz]
          refine tkH (i := 3) (oi := { dst := some 19, op := .load 168 (.tmp 18), type := 168, pos := "ref.go:263", after := #[⟨2, .data⟩], guard := none }) (v := ?vv22) ?hy22 ?rest22
          case hy22 => (refine Or.inl ⟨by rfl, ?_⟩; intro W hSw; (try dsimp only at hSw); go_simp; (try with_reducible rfl))
          try simp only [Act.put, pzz]
          refine tkH (i := 4) (oi := { dst := some 20, op := .move (.tmp 1), type := 35, pos := "ref.go:263", after := #[], guard := none }) (v := ?vv23) ?hy23 ?rest23
          case hy23 => (refine Or.inl ⟨by rfl, ?_⟩; intro W hSw; (try dsimp only at hSw); go_simp; (try with_reducible rfl))
          try simp only [Act.put, pzz]
          refine tkH (i := 5) (oi := { dst := some 21, op := .move (.tmp 5), type := 3, pos := "ref.go:263", after := #[], guard := none }) (v := ?vv24) ?hy24 ?rest24
          case hy24 => (refine Or.inl ⟨by rfl, ?_⟩; intro W hSw; (try dsimp only at hSw); go_simp; (try with_reducible rfl))
          try simp only [Act.put, pzz]
          refine tkH (i := 6) (oi := { dst := some 22, op := .indexAddr 35 (.tmp 20) (.tmp 21), type := 0, pos := "ref.go:263", after := #[⟨4, .data⟩, ⟨5, .data⟩], guard := none }) (v := ?vv25) ?hy25 ?rest25
          case hy25 => (refine Or.inl ⟨by rfl, ?_⟩; intro W hSw; (try dsimp only at hSw); go_simp; (try with_reducible rfl))
          try simp only [Act.put, pzz]
          refine tkH (i := 7) (oi := { dst := some 23, op := .load 168 (.tmp 22), type := 168, pos := "ref.go:263", after := #[⟨6, .data⟩], guard := none }) (v := ?vv26) ?hy26 ?rest26
          case hy26 => (refine Or.inl ⟨by rfl, ?_⟩; intro W hSw; (try dsimp only at hSw); go_simp; (try with_reducible rfl))
          try simp only [Act.put, pzz]
          refine tkH (i := 8) (oi := { dst := some 24, op := .binOp .neq 168 (.tmp 19) (.tmp 23) 168, type := 4, pos := "ref.go:263", after := #[⟨3, .data⟩, ⟨7, .data⟩], guard := none }) (v := ?vv27) ?hy27 ?rest27
          case hy27 => (refine Or.inl ⟨by rfl, ?_⟩; intro W hSw; (try dsimp only at hSw); go_simp; (try with_reducible rfl))
          try simp only [Act.put, pzz]
          refine wpAnyH_done (by kernel_rfl) ?_ _
          clear hHeld
          dsimp only [onlyN]
          have HB2 := Lib.hid (below_drew HB.out)
          go_wp2_with fail
          go_roundw
          case rel => exact ⟨i + 1, HLT.out, by go_num, HN.out, HB2.out⟩
          case measure => have := HLT.out; simp [intOf]; omega
        · have HNQ := Lib.hid hxy
          have HPN : Hid (decide (P = Q) = false) := Lib.hid (by
            simp only [decide_eq_false_iff_not]
            rintro rfl
            exact hxy (Option.some.inj (HXY.out.1.symm.trans HXY.out.2)))
          clear hxy
          go_wp2_with fail
          refine wp_only ?_
          refine wp_region_held_drew (S := fun W => W.cell? (a.add (i * 4)) = some (.int .i64 x.k) ∧ W.cell? ⟨(a.add (i * 4)).block, (a.add (i * 4)).off + 1, none⟩ = some (.string x.s) ∧ W.cell? ⟨(a.add (i * 4)).block, (a.add (i * 4)).off + 2, none⟩ = some (.int .i64 x.n) ∧ W.cell? ⟨(a.add (i * 4)).block, (a.add (i * 4)).off + 3, none⟩ = some (.int .i64 x.lo) ∧ W.cell? (a2.add (i * 4)) = some (.int .i64 y.k) ∧ W.cell? ⟨(a2.add (i * 4)).block, (a2.add (i * 4)).off + 1, none⟩ = some (.string y.s) ∧ W.cell? ⟨(a2.add (i * 4)).block, (a2.add (i * 4)).off + 2, none⟩ = some (.int .i64 y.n) ∧ W.cell? ⟨(a2.add (i * 4)).block, (a2.add (i * 4)).off + 3, none⟩ = some (.int .i64 y.lo)) (by kernel_rfl) (HK.out _ (below_drew (Below.refl _ _))) (fun hHeld => ?_)
          refine tkH (i := 0) (oi := { dst := some 16, op := .move (.tmp 0), type := 35, pos := "ref.go:263", after := #[], guard := none }) (v := ?vv28) ?hy28 ?rest28
          case hy28 => (refine Or.inl ⟨by rfl, ?_⟩; intro W hSw; (try dsimp only at hSw); go_simp; (try with_reducible rfl))
          try simp only [Act.put, pzz]
          refine tkH (i := 1) (oi := { dst := some 17, op := .move (.tmp 5), type := 3, pos := "ref.go:263", after := #[], guard := none }) (v := ?vv29) ?hy29 ?rest29
          case hy29 => (refine Or.inl ⟨by rfl, ?_⟩; intro W hSw; (try dsimp only at hSw); go_simp; (try with_reducible rfl))
          try simp only [Act.put, pzz]
          refine tkH (i := 2) (oi := { dst := some 18, op := .indexAddr 35 (.tmp 16) (.tmp 17), type := 0, pos := "ref.go:263", after := #[⟨0, .data⟩, ⟨1, .data⟩], guard := none }) (v := ?vv30) ?hy30 ?rest30
          case hy30 => (refine Or.inl ⟨by rfl, ?_⟩; intro W hSw; (try dsimp only at hSw); go_simp; (try with_reducible rfl))
          try simp only [Act.put, pzz]
          refine tkH (i := 3) (oi := { dst := some 19, op := .load 168 (.tmp 18), type := 168, pos := "ref.go:263", after := #[⟨2, .data⟩], guard := none }) (v := ?vv31) ?hy31 ?rest31
          case hy31 => (refine Or.inl ⟨by rfl, ?_⟩; intro W hSw; (try dsimp only at hSw); go_simp; (try with_reducible rfl))
          try simp only [Act.put, pzz]
          refine tkH (i := 4) (oi := { dst := some 20, op := .move (.tmp 1), type := 35, pos := "ref.go:263", after := #[], guard := none }) (v := ?vv32) ?hy32 ?rest32
          case hy32 => (refine Or.inl ⟨by rfl, ?_⟩; intro W hSw; (try dsimp only at hSw); go_simp; (try with_reducible rfl))
          try simp only [Act.put, pzz]
          refine tkH (i := 5) (oi := { dst := some 21, op := .move (.tmp 5), type := 3, pos := "ref.go:263", after := #[], guard := none }) (v := ?vv33) ?hy33 ?rest33
          case hy33 => (refine Or.inl ⟨by rfl, ?_⟩; intro W hSw; (try dsimp only at hSw); go_simp; (try with_reducible rfl))
          try simp only [Act.put, pzz]
          refine tkH (i := 6) (oi := { dst := some 22, op := .indexAddr 35 (.tmp 20) (.tmp 21), type := 0, pos := "ref.go:263", after := #[⟨4, .data⟩, ⟨5, .data⟩], guard := none }) (v := ?vv34) ?hy34 ?rest34
          case hy34 => (refine Or.inl ⟨by rfl, ?_⟩; intro W hSw; (try dsimp only at hSw); go_simp; (try with_reducible rfl))
          try simp only [Act.put, pzz]
          refine tkH (i := 7) (oi := { dst := some 23, op := .load 168 (.tmp 22), type := 168, pos := "ref.go:263", after := #[⟨6, .data⟩], guard := none }) (v := ?vv35) ?hy35 ?rest35
          case hy35 => (refine Or.inl ⟨by rfl, ?_⟩; intro W hSw; (try dsimp only at hSw); go_simp; (try with_reducible rfl))
          try simp only [Act.put, pzz]
          refine tkH (i := 8) (oi := { dst := some 24, op := .binOp .neq 168 (.tmp 19) (.tmp 23) 168, type := 4, pos := "ref.go:263", after := #[⟨3, .data⟩, ⟨7, .data⟩], guard := none }) (v := (.bool true)) ?hy36 ?rest36
          case hy36 => ((refine Or.inl ⟨by rfl, ?_⟩; intro W hSw; (try dsimp only at hSw); go_simp; exact op_ne HNQ.out))
          try simp only [Act.put, pzz]
          refine wpAnyH_done (by kernel_rfl) ?_ _
          clear hHeld
          dsimp only [onlyN]
          have HB2 := Lib.hid (below_drew HB.out)
          go_wp2_with fail
          go_ret
          exact ⟨by rw [HPN.out]; rfl, HB2.out⟩
      · obtain rfl : i = m := by omega
        have hpq : decide (P = Q) = true := by
          simp only [decide_eq_true_eq]
          apply List.ext_getElem?
          intro j
          by_cases hj : j < i
          · exact hsame j hj
          · rw [List.getElem?_eq_none (by rw [HM.out]; omega), List.getElem?_eq_none (by rw [HM2.out]; omega)]
        have HPQ := Lib.hid hpq
        clear hsame hpq hbw
        go_wp2_with fail
        go_ret
        exact ⟨by rw [HPQ.out]; rfl, HB.out⟩
  · have hneI : ¬ (P.length : Int) = (Q.length : Int) := by omega
    have hneb : ((P.length : Int) != (Q.length : Int)) = true := by simpa using hneI
    have HPN : Hid (decide (P = Q) = false) := Lib.hid (by simp only [decide_eq_false_iff_not]; rintro rfl; exact hne rfl)
    clear hcl hdl hne
    go_enter Tryz.func71, Tryz.ntmps71
    go_wp2_with fail
    go_ret
    exact ⟨by rw [HPN.out]; rfl, Below.refl _ _⟩
end Go.Proofs.YtmbonngjkgcijaaGreatDoor
