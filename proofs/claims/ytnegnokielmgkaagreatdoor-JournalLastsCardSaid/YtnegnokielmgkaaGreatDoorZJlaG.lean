/- JournalLasts: a fuse, the power, a sync of a law's own journal. JournalLasts: the reference's Same of two lists that are the same. A law's own journal, and blocks beside it that its calls leave alone. JournalLasts: what the law's loop begins with. JournalLasts: records that are appended in place to a list of the law's own, beside a journal. JournalLasts: a journal beside a list of the law's own that grows. -/
import Derived.Test.YtnegnokielmgkaaGreatDoorZJlaA
import Derived.Test.YtnegnokielmgkaaGreatDoorZJsaE
import Derived.Test.YtnegnokielmgkaaGreatDoorZTapK
set_option linter.unusedSimpArgs false
set_option linter.unusedVariables false
set_option linter.unnecessarySimpa false
namespace Go.Proofs.YtnegnokielmgkaaGreatDoor
open Go.RowKit

def fuseN (n : Int) : Int := if 0 ≤ n then n else -1
theorem tp_fuse {w : World} {t : Nat} {T : Tp} {p : Pl} (h : TP w t T p) (hd : p.down = false) {n : Int} (hn : n ≤ 9223372036854775807) : Calls Tryz.prog 30 #[.pointer (some ⟨t, 0, none⟩), .int .i64 n] w fun e w' => e = .returned (.tuple #[]) ∧ TPd w t T { p with fuse := fuseN n } w' := by
  have hT : T.down = false := by
    have := h.eq.down
    rw [hd] at this
    exact this
  refine (fuse_ok h.tape hT hn).mono fun e w' ⟨e1, k1, k2⟩ => ⟨e1, { T with fused := decide (0 ≤ n), left := n.toNat }, ⟨k1, ⟨h.eq.room, h.eq.A, ?_, h.eq.down⟩, h.rises⟩, k2.mono (fun k _ hk => by subst hk; exact t_mem), fun k hk => .inl hk⟩
  show fuseT { T with fused := decide (0 ≤ n), left := n.toNat } = fuseN n
  unfold fuseT fuseN
  by_cases h0 : 0 ≤ n
  · simp [h0]; omega
  · simp [h0]
theorem jaq_fuse {w0 w : World} {N j t q : Nat} {J : Js} (h : JAwq w0 w N j t q J) (hd : J.p.down = false) {n : Int} (hn : n ≤ 9223372036854775807) : Calls Tryz.prog 30 #[.pointer (some ⟨t, 0, none⟩), .int .i64 n] w fun e w' => e = .returned (.tuple #[]) ∧ JAwq w0 w' w'.heap.size j t q { J with p := { J.p with fuse := fuseN n } } := by
  obtain ⟨h1, h2, h3, h4, h7, h8, h9, T, sv, rv, xs, h5, h6⟩ := h
  exact (tp_fuse h5.tp hd hn).mono fun e w' ⟨e1, k1⟩ => ⟨e1, JAwq.step h1 h2 h3 h7 h8 h9 h6 (h5.tpd k1) rfl⟩
theorem jaq_sync {w0 w : World} {N j t q : Nat} {J : Js} (h : JAwq w0 w N j t q J) : Calls Tryz.prog 33 #[.pointer (some ⟨j, 0, none⟩)] w fun e w' => e = .returned (.int .i64 (syncP J).1) ∧ JAwq w0 w' w'.heap.size j t q (syncP J).2 := by
  obtain ⟨h1, h2, h3, h4, h7, h8, h9, T, sv, rv, xs, h5, h6⟩ := h
  exact (jsync h5 (ok2_awk h1 h2 h3 (fun k hk => ⟨(h6 k hk).1, (h6 k hk).2.1⟩))).mono fun e w' ⟨e1, hd⟩ => ⟨e1, JAwq.step h1 h2 h3 h7 h8 h9 h6 hd rfl⟩
theorem jdown_any {w : World} {t : Nat} {T : Tp} (hT : TapeAt w t T) : Calls Tryz.prog 17 #[.pointer (some ⟨t, 0, none⟩)] w fun e w' => e = .returned (.bool T.down) ∧ ∃ n, w' = w.drewN n := by
  have hc : w.cell? ⟨t, 4, none⟩ = some (.bool T.down) := cell_of hT.head 4
  clear hT
  cases hd : T.down with
  | true =>
    rw [hd] at hc
    go_enter Tryz.func17, Tryz.ntmps17
    go_wp2
    go_ret
    exact ⟨rfl, 0, rfl⟩
  | false =>
    rw [hd] at hc
    go_enter Tryz.func17, Tryz.ntmps17
    go_wp2
    go_ret
    exact ⟨rfl, 0, rfl⟩
theorem jaq_down {w0 w : World} {N j t q : Nat} {J : Js} (h : JAwq w0 w N j t q J) : Calls Tryz.prog 17 #[.pointer (some ⟨t, 0, none⟩)] w fun e w' => e = .returned (.bool J.p.down) ∧ Below w.heap.size w w' := by
  obtain ⟨T, sv, rv, xs, h5⟩ := h.at
  refine (jdown_any h5.tp.tape).mono fun e w' ⟨e1, n, e2⟩ => ⟨?_, ?_⟩
  · rw [e1]
    have : T.down = J.p.down := h5.tp.eq.down
    rw [this]
  · rw [e2]
    exact below_drewN (Below.refl _ _) n
end Go.Proofs.YtnegnokielmgkaaGreatDoor

namespace Go.Proofs.YtnegnokielmgkaaGreatDoor
open Go.RowKit

set_option maxRecDepth 100000 in
set_option maxHeartbeats 2000000 in
theorem rsame_eq {w : World} {a b : Value} {ls : List (List UInt8)} (ha : PIs w a ls) (hb : PIs w b ls) : Calls Tryz.prog 37 #[a, b] w fun e w' => e = .returned (.bool true) ∧ Below w.heap.size w w' := by
  have HA := Lib.hid ha
  have HB := Lib.hid hb
  obtain ⟨A, ca, rfl, a1, a2, _⟩ := ha
  obtain ⟨B, cb, rfl, b1, b2, _⟩ := hb
  unfold maxLen at a2 b2
  go_enter Tryz.func37, Tryz.ntmps37
  go_wp2_with fail
  go_loopw [13] (fun i wr => ∃ k : Nat, k ≤ ls.length ∧ i = .int .i64 k ∧ Below w.heap.size w wr) (fun i _ => ls.length - (intOf i).toNat)
  case atStart => exact ⟨0, by omega, rfl, Below.refl _ _⟩
  case round =>
    obtain ⟨k, hk, rfl, hbl⟩ := hrel
    have HBL := Lib.hid hbl
    by_cases hlt : k < ls.length
    · have hl : ls[k]? = some ls[k] := List.getElem?_eq_getElem hlt
      obtain ⟨A1, c1, e1, _, _, ha3⟩ := HA.out.below hbl
      obtain ⟨B1, d1, e2, _, _, hb3⟩ := HB.out.below hbl
      injection e1 with e1 _ e3
      injection e2 with e2 _ e4
      subst e1 e2 e3 e4
      obtain ⟨a, x, rfl, _, hx, hxb⟩ := ha3 k _ hl
      obtain ⟨b, y, rfl, _, hy, hyb⟩ := hb3 k _ hl
      generalize ls[k] = l at *
      have cv1 := bis_string (hxb.below (below_drew (Below.refl _ wr)))
      have cv2 := bis_string (hyb.below (below_drew (Below.refl _ wr)))
      obtain ⟨X, cx, rfl, _⟩ := hxb
      obtain ⟨Y, cy, rfl, _⟩ := hyb
      have HLT := Lib.hid hlt
      have l1 : (k : Int) < (ls.length : Int) := by omega
      clear ha3 hb3 hl hbl
      go_wp2_with fail
      go_region_held (fun W => W.cell? (a.add k) = some (.slice X l.length cx) ∧ W.cell? (b.add k) = some (.slice Y l.length cy) ∧ (convert 32 9 (.slice X l.length cx)).run Tryz.prog W = .ok (.string ⟨l.toArray⟩) W ∧ (convert 32 9 (.slice Y l.length cy)).run Tryz.prog W = .ok (.string ⟨l.toArray⟩) W) (first | exact ⟨hx, hy, cv1, cv2⟩ | exact ⟨by go_keep, by go_keep, cv1, cv2⟩) (fail)
      go_wp2_with fail
      go_roundw
      case rel => exact ⟨k + 1, HLT.out, by go_num, by first | exact HBL.out | exact below_drew HBL.out⟩
      case measure => have := HLT.out; simp [intOf]; omega
    · obtain rfl : k = ls.length := by omega
      go_wp2_with fail
      go_ret
      exact ⟨rfl, HBL.out⟩
end Go.Proofs.YtnegnokielmgkaaGreatDoor

namespace Go.Proofs.YtnegnokielmgkaaGreatDoor
open Go.RowKit

/-- A journal of the law's own; the blocks D are none of its own. -/
def JAwd (w0 w : World) (D : Nat → Prop) (j t : Nat) (J : Js) : Prop := Glob w0 ∧ Mov w0 ∧ Below w0.heap.size w0 w ∧ (∀ k, D k → k < w.heap.size) ∧ ∃ T sv rv xs, JAt w j t T J sv rv xs ∧ ∀ k, JB j t T rv k → w0.heap.size ≤ k ∧ ¬ D k
/-- What the law had ahead, and the blocks D, are as they were. -/
def KeptD (w0 w : World) (D : Nat → Prop) (w' : World) : Prop := w.heap.size ≤ w'.heap.size ∧ ∀ k, k < w.heap.size → (k < w0.heap.size ∨ D k) → w'.heap[k]? = w.heap[k]?
section
variable {w0 w w' : World} {D D' : Nat → Prop} {j t : Nat} {J : Js}
theorem JAwd.below (h : JAwd w0 w D j t J) : Below w0.heap.size w0 w := h.2.2.1
theorem JAwd.lt (h : JAwd w0 w D j t J) : ∀ k, D k → k < w.heap.size := h.2.2.2.1
theorem JAwd.ok2 (h : JAwd w0 w D j t J) : Glob w ∧ Mov w := ⟨h.1.below h.2.2.1, h.2.1.below h.2.2.1⟩
theorem JAwd.at (h : JAwd w0 w D j t J) : ∃ T sv rv xs, JAt w j t T J sv rv xs := by
  obtain ⟨_, _, _, _, T, sv, rv, xs, h5, _⟩ := h
  exact ⟨T, sv, rv, xs, h5⟩
theorem JAwd.keep (h : JAwd w0 w D j t J) (hb : Below w.heap.size w w') : JAwd w0 w' D j t J := by
  obtain ⟨h1, h2, h3, h4, T, sv, rv, xs, h5, h6⟩ := h
  exact ⟨h1, h2, h3.trans (hb.mono h3.size), fun k hk => Nat.lt_of_lt_of_le (h4 k hk) hb.size, T, sv, rv, xs, h5.below hb, h6⟩
/-- Blocks that were made since are none of the journal's. -/
theorem JAwd.more (h : JAwd w0 w D j t J) (hb : Below w.heap.size w w') (hD : ∀ k, D' k → (D k ∨ w.heap.size ≤ k) ∧ k < w'.heap.size) : JAwd w0 w' D' j t J := by
  obtain ⟨h1, h2, h3, h4, T, sv, rv, xs, h5, h6⟩ := h
  refine ⟨h1, h2, h3.trans (hb.mono h3.size), fun k hk => (hD k hk).2, T, sv, rv, xs, h5.below hb, fun k hk => ⟨(h6 k hk).1, fun hd => ?_⟩⟩
  rcases (hD k hd).1 with hd | hd
  · exact (h6 k hk).2 hd
  · have := h5.lt k hk
    omega
theorem JAwd.less (h : JAwd w0 w D j t J) (hD : ∀ k, D' k → D k) : JAwd w0 w D' j t J := by
  obtain ⟨h1, h2, h3, h4, T, sv, rv, xs, h5, h6⟩ := h
  exact ⟨h1, h2, h3, fun k hk => h4 k (hD k hk), T, sv, rv, xs, h5, fun k hk => ⟨(h6 k hk).1, fun hd => (h6 k hk).2 (hD k hd)⟩⟩
theorem JAwd.step {T : Tp} {J' : Js} {rv : Value} (h1 : Glob w0) (h2 : Mov w0) (h3 : Below w0.heap.size w0 w) (h4 : ∀ k, D k → k < w.heap.size) (h6 : ∀ k, JB j t T rv k → w0.heap.size ≤ k ∧ ¬ D k) (hd : JD w (JB j t T rv) j t J' w') : JAwd w0 w' D j t J' ∧ KeptD w0 w D w' := by
  obtain ⟨T', sv', rv', xs', k1, k2, k3⟩ := hd
  have hsz := h3.size
  refine ⟨⟨h1, h2, h3.trans (k2.below (fun k hk => (h6 k hk).1) hsz), fun k hk => Nat.lt_of_lt_of_le (h4 k hk) k2.size, T', sv', rv', xs', k1, fun k hk => ?_⟩, k2.size, fun k hk hor => k2.block k hk fun hc => ?_⟩
  · rcases k3 k hk with hk | hk
    · exact h6 k hk
    · exact ⟨by omega, fun hd => by have := h4 k hd; omega⟩
  · rcases hor with hor | hor
    · have := (h6 k hc).1; omega
    · exact (h6 k hc).2 hor
theorem jad_ok2 {T : Tp} {rv : Value} (h1 : Glob w0) (h2 : Mov w0) (h3 : Below w0.heap.size w0 w) (h6 : ∀ k, JB j t T rv k → w0.heap.size ≤ k ∧ ¬ D k) : Ok2 w (JB j t T rv) :=
  ⟨h1.below h3, h2.below h3, fun hc => by have := (h6 _ hc).1; have := h1.lt; omega, fun hc => by have := (h6 _ hc).1; have := h2.lt; omega⟩
/-- What a call of the journal answers and leaves. -/
def JadP (w0 w : World) (D : Nat → Prop) (j t : Nat) (r : Int × Js) (e : Ending) (w' : World) : Prop := e = .returned (.int .i64 r.1) ∧ JAwd w0 w' D j t r.2 ∧ KeptD w0 w D w'
theorem jad_append (h : JAwd w0 w D j t J) {A : Option Addr} {c : Nat} {recs : List (List UInt8)} (hP : ∀ w', KeptD w0 w D w' → PIs w' (.slice A recs.length c) recs) (hl : recs.length ≤ 1000) (hJl : J.rs.length ≤ 900000) :
    Calls Tryz.prog 31 #[.pointer (some ⟨j, 0, none⟩), .slice A recs.length c] w (JadP w0 w D j t (addP J recs)) := by
  obtain ⟨h1, h2, h3, h4, T, sv, rv, xs, h5, h6⟩ := h
  refine (jappend h5 (jad_ok2 h1 h2 h3 h6) (fun w' ht => hP w' ⟨ht.size, fun k hk hor => ht.block k hk fun hc => ?_⟩) hl hJl).mono fun e w' ⟨e1, hd⟩ => ⟨e1, JAwd.step h1 h2 h3 h4 h6 hd⟩
  rcases hor with hor | hor
  · have := (h6 k hc).1; omega
  · exact (h6 k hc).2 hor
theorem jad_write (h : JAwd w0 w D j t J) {A : Option Addr} {c : Nat} {recs : List (List UInt8)} (hP : ∀ w', KeptD w0 w D w' → PIs w' (.slice A recs.length c) recs) (hl : recs.length ≤ 1000) (hJl : J.rs.length ≤ 900000) :
    Calls Tryz.prog 32 #[.pointer (some ⟨j, 0, none⟩), .slice A recs.length c] w (JadP w0 w D j t (writeP J recs)) := by
  obtain ⟨h1, h2, h3, h4, T, sv, rv, xs, h5, h6⟩ := h
  refine (jwrite h5 (jad_ok2 h1 h2 h3 h6) (fun w' ht => hP w' ⟨ht.size, fun k hk hor => ht.block k hk fun hc => ?_⟩) hl hJl).mono fun e w' ⟨e1, hd⟩ => ⟨e1, JAwd.step h1 h2 h3 h4 h6 hd⟩
  rcases hor with hor | hor
  · have := (h6 k hc).1; omega
  · exact (h6 k hc).2 hor
theorem jad_save (h : JAwd w0 w D j t J) {A : Option Addr} {c : Nat} {st : List UInt8} (hP : ∀ w', KeptD w0 w D w' → BIs w' (.slice A st.length c) st) (hl : st.length ≤ 1000000) :
    Calls Tryz.prog 34 #[.pointer (some ⟨j, 0, none⟩), .slice A st.length c] w (JadP w0 w D j t (saveP J st)) := by
  obtain ⟨h1, h2, h3, h4, T, sv, rv, xs, h5, h6⟩ := h
  refine (jsave h5 (jad_ok2 h1 h2 h3 h6) (fun w' ht => hP w' ⟨ht.size, fun k hk hor => ht.block k hk fun hc => ?_⟩) hl).mono fun e w' ⟨e1, hd⟩ => ⟨e1, JAwd.step h1 h2 h3 h4 h6 hd⟩
  rcases hor with hor | hor
  · have := (h6 k hc).1; omega
  · exact (h6 k hc).2 hor
theorem jad_sync (h : JAwd w0 w D j t J) : Calls Tryz.prog 33 #[.pointer (some ⟨j, 0, none⟩)] w (JadP w0 w D j t (syncP J)) := by
  obtain ⟨h1, h2, h3, h4, T, sv, rv, xs, h5, h6⟩ := h
  exact (jsync h5 (jad_ok2 h1 h2 h3 h6)).mono fun e w' ⟨e1, hd⟩ => ⟨e1, JAwd.step h1 h2 h3 h4 h6 hd⟩
theorem jad_fuse (h : JAwd w0 w D j t J) (hd : J.p.down = false) {n : Int} (hn : n ≤ 9223372036854775807) : Calls Tryz.prog 30 #[.pointer (some ⟨t, 0, none⟩), .int .i64 n] w fun e w' => e = .returned (.tuple #[]) ∧ JAwd w0 w' D j t { J with p := { J.p with fuse := fuseN n } } ∧ KeptD w0 w D w' := by
  obtain ⟨h1, h2, h3, h4, T, sv, rv, xs, h5, h6⟩ := h
  exact (tp_fuse h5.tp hd hn).mono fun e w' ⟨e1, k1⟩ => ⟨e1, JAwd.step h1 h2 h3 h4 h6 (h5.tpd k1)⟩
theorem jad_down (h : JAwd w0 w D j t J) : Calls Tryz.prog 17 #[.pointer (some ⟨t, 0, none⟩)] w fun e w' => e = .returned (.bool J.p.down) ∧ Below w.heap.size w w' := by
  obtain ⟨T, sv, rv, xs, h5⟩ := h.at
  refine (jdown_any h5.tp.tape).mono fun e w' ⟨e1, n, e2⟩ => ⟨?_, ?_⟩
  · rw [e1]
    have : T.down = J.p.down := h5.tp.eq.down
    rw [this]
  · rw [e2]
    exact below_drewN (Below.refl _ _) n
/-- A slice of the law's own whose block is among D stays, and its values read as they did. -/
theorem OwnS.keptD {base : Nat} {v : Value} {xs : List Value} (ho : OwnS w base v xs) (hD : ∀ g, v.ownBlock = some g → D g) (h : KeptD w0 w D w') : OwnS w' base v xs :=
  ho.keep h.1 (fun k hk => h.2 k (ho.lt k hk).2 (.inr (hD k hk)))
theorem pis_keptD {base : Nat} {v : Value} {xs : List Value} {ls : List (List UInt8)} (hb : Below w0.heap.size w0 w) (ho : OwnS w base v xs) (hD : ∀ g, v.ownBlock = some g → D g) (hx : OldB w0 xs ls) (h : KeptD w0 w D w') : PIs w' v ls := by
  obtain ⟨A, cap, rfl, h1, h2, h3, h4⟩ := (ho.keptD hD h).vis
  refine ⟨A, cap, by rw [hx.1], by rw [← hx.1]; exact h1, h2, fun i l hl => ?_⟩
  have hi : i < xs.length := by rw [hx.1]; exact (List.getElem?_eq_some_iff.1 hl).1
  obtain ⟨a, rfl, hc⟩ := h4 i _ (List.getElem?_eq_getElem hi)
  exact ⟨a, _, rfl, (h3 a rfl).2, hc, bis_old (hx.2 i _ l (List.getElem?_eq_getElem hi) hl) (Nat.le_trans hb.size h.1) (fun k hk => (h.2 k (Nat.lt_of_lt_of_le hk hb.size) (.inl hk)).trans (hb.block k hk))⟩
end
end Go.Proofs.YtnegnokielmgkaaGreatDoor

namespace Go.Proofs.YtnegnokielmgkaaGreatDoor
open Go.RowKit

theorem beg_awd {w w' : World} {room seg : Nat} {e : Ending} (h : BegP w room seg e w') : ∃ t j q, e = .returned (.tuple #[.pointer (some ⟨t, 0, none⟩), .pointer (some ⟨j, 0, none⟩), .pointer (some ⟨q, 0, none⟩)]) ∧ JAwd w w' (· = q) j t ⟨⟨room, [], -1, false⟩, seg, [], []⟩ ∧ w'.cell? ⟨q, 1, none⟩ = some (.int .i64 (seg : Int)) := by
  obtain ⟨t, j, q, N, e1, ⟨h1, h2, h3, h4, T, sv, rv, xs, h5, h6⟩, h7, h8, h9⟩ := h
  exact ⟨t, j, q, e1, ⟨h1, h2, h3, fun k hk => by rw [hk]; exact h8, T, sv, rv, xs, h5, fun k hk => ⟨(h6 k hk).1, fun hd => by have := (h6 k hk).2; omega⟩⟩, h9⟩
theorem inv_none : Inv [] [] [] [] := ⟨List.Pairwise.nil, (fun x hx => by cases hx), (fun x hx => by cases hx), (fun i x hx => by cases hx), (fun x hx => by cases hx), (fun x hx => by cases hx), rfl, rfl, (fun _ => rfl), (fun B x e => by simp at e)⟩
theorem bis_nil (w : World) : BIs w (.slice none 0 0) [] := ⟨none, 0, rfl, Nat.le_refl _, by unfold maxLen; omega, fun i b hi => by simp at hi⟩
end Go.Proofs.YtnegnokielmgkaaGreatDoor

namespace Go.Proofs.YtnegnokielmgkaaGreatDoor
open Go.RowKit

/-- A value that is a slice. -/
def isSl (u : Value) : Prop := ∃ A n c, u = .slice A n c
/-- A block of which all cells are slices. -/
def Sl (w : World) (g : Nat) : Prop := ∀ (a : Addr) (u : Value), a.block = g → w.cell? a = some u → isSl u
/-- The block of a slice of slices holds nothing else. -/
def SlV (w : World) (v : Value) : Prop := ∀ g, v.ownBlock = some g → Sl w g
theorem cell_spot {w : World} {a : Addr} {u : Value} (h : w.cell? a = some u) : a = ⟨a.block, a.off, none⟩ := by
  obtain ⟨b, o, s⟩ := a
  cases s with
  | none => rfl
  | some x =>
    unfold World.cell? at h
    split at h
    · simp at h
    · cases h
theorem Sl.keep {w w' : World} {g : Nat} (h : Sl w g) (hk : w'.heap[g]? = w.heap[g]?) : Sl w' g := fun a u ha hu => by
  subst ha
  exact h a u rfl ((World.cell?_of_block hk).symm.trans hu)
theorem mem_zero {n : Nat} {u : Value} {j : Nat} (h : (Builtin.zeroCells (Value.cells (.slice none 0 0)) n)[j]? = some u) : isSl u := by
  have hm := Array.mem_of_getElem? h
  unfold Builtin.zeroCells at hm
  simp [Value.cells] at hm
  obtain ⟨x, _, hx⟩ := hm
  rw [Nat.mod_one] at hx
  have e : Value.slice none 0 0 = u := by simpa using hx
  rw [← e]
  exact ⟨_, _, _, rfl⟩
theorem new_cell_at (w : World) (cs : Array Value) (t : TypeId) {a : Addr} {u : Value} (ha : a.block = w.heap.size) (h : (w.drew.alloc (.cells cs t)).cell? a = some u) : cs[a.off]? = some u := by
  have hb : (w.drew.alloc (.cells cs t)).heap[w.heap.size]? = some (.cells cs t (0, 0)) := heap_alloc_new w.drew _
  rw [cell_spot h, ha, cell_of_row _ _ _ _ _ _ hb] at h
  exact h
theorem run_append_sl (w : World) (base : Nat) (ty tx : TypeId) (v : Value) (l ms : List Value) (x : Value) (hown : OwnS w base v l) (hs : Src Tryz.prog 1 tx x ms.length ms w) (hlen : l.length + ms.length ≤ 1073741824) (hbase : base ≤ w.heap.size) (hsl : ∀ u ∈ l ++ ms, isSl u) (hS : SlV w v) :
    ∃ v' w', (Builtin.append_ #[42, tx] ty #[v, x]).run Tryz.prog w = .ok v' w' ∧ OwnS w' base v' (l ++ ms) ∧ w.grownBy w' v.ownBlock ∧ (v'.ownBlock = v.ownBlock ∨ v'.ownBlock = some w.heap.size) ∧ SlV w' v' := by
  obtain ⟨i0, hi, hz0, hz1, hz2⟩ := info_parts info22v
  have hs' : Src Tryz.prog i0.size tx x ms.length ms w := by rw [hz1]; exact hs
  obtain ⟨v', w', hr, h2, h3, h4⟩ := run_append_vals w base ty tx v l ms x hown hs hlen hbase
  refine ⟨v', w', hr, h2, h3, h4, ?_⟩
  have grow : ∀ (A : Option Addr) (sCap : Nat), v = .slice A l.length sCap → (Builtin.firstCells i0.size l.length (.slice A l.length sCap)).run Tryz.prog w.drew = .ok l.toArray w.drew → sCap < l.length + ms.length → SlV w' v' := by
    intro A sCap hv hold hg
    have hfit : Builtin.nextslicecap (l.length + ms.length) sCap * i0.bytes ≤ 281474976710656 := by
      have := Go.Room.nextslicecap_le' hg
      rw [hz2]; omega
    have hr2 := run_append_grow_src (P := Tryz.prog) w 42 tx ty 32 i0 _ Tryz.underlying42 hi hz0 A l.length sCap l hold x ms.length ms hs' hg (by omega) hfit
    rw [← hv, hr] at hr2
    injection hr2 with e1 e2
    subst e1 e2
    intro g hgg
    have hg2 : g = w.heap.size := (Option.some.inj hgg).symm
    subst hg2
    intro a u ha hu
    have hu := new_cell_at w _ _ ha hu
    rw [Array.getElem?_append] at hu
    split at hu
    · exact hsl u (by
        have := Array.mem_of_getElem? hu
        simpa using this)
    · exact mem_zero hu
  rcases hown with ⟨rfl, rfl⟩ | ⟨g, cap, rfl, ho⟩
  · by_cases hz : ms = []
    · subst hz
      have hr2 := run_append_nothing w 42 tx ty 32 i0 Tryz.underlying42 hi none 0 0 (Nat.le_refl _) x hs'
      rw [hr] at hr2
      injection hr2 with e1 e2
      subst e1 e2
      exact hS
    · exact grow none 0 rfl (by simp [Builtin.firstCells]) (by simpa using List.length_pos_iff.2 hz)
  · by_cases hroom : l.length + ms.length ≤ cap
    · have hr2 := run_append_room_src (P := Tryz.prog) w 42 tx ty 32 i0 Tryz.underlying42 hi g 0 l.length cap x ms.length ms hs' hroom
        (by rw [hz1]; intro j hj; have := (ho.there (l.length + j) (by omega)).1; simpa using this) (by rw [hz1]; intro j hj; have := (ho.there (l.length + j) (by omega)).2; simpa using this)
      rw [hz1] at hr2
      have e0 : 0 + l.length * 1 = l.length := by omega
      rw [e0, hr] at hr2
      injection hr2 with e1 e2
      subst e1 e2
      have hex : ∀ j, j < ms.length → (w.cell? ⟨g, l.length + j, none⟩).isSome = true := fun j hj => (ho.there (l.length + j) (by omega)).1
      intro g' hgg
      have hg2 : g' = g := (Option.some.inj hgg).symm
      subst hg2
      intro a u ha hu
      by_cases hin : l.length ≤ a.off ∧ a.off < l.length + ms.length
      · have h3 := World.cell?_setCells_in g' ms l.length w hex (a.off - l.length) (by omega)
        rw [show l.length + (a.off - l.length) = a.off from by omega] at h3
        rw [cell_spot hu, ha, h3] at hu
        have := Option.some.inj hu
        rw [← this]
        exact hsl _ (List.mem_append.2 (.inr (List.getElem_mem _)))
      · rw [World.cell?_setCells_out g' ms l.length w a (fun _ _ => by omega)] at hu
        exact hS g' rfl a u ha hu
    · exact grow (some ⟨g, 0, none⟩) cap rfl (by rw [hz1]; exact run_firstCells_some w.drew 1 l.length ⟨g, 0, none⟩ l.length cap l (by simp) (fun j u hu => by
        rw [add0]; exact ho.holds j _ hu)) (by omega)
/-- the same, as an arm of a walk -/
theorem wpList_append_sl (w : World) {ops : Array Oper} {rest : List Oper} {o : Oper} {a : Act} {Q : Exit → Act → World → Prop} (hgd : o.guard = none) (s x : Operand) (tx : TypeId)
    (ho : o.op = .call { callee := .builtin .append, args := #[s, x], argTypes := #[42, tx] })
    (base : Nat) (l ms : List Value) (v y : Value) (hs : a.eval s = v) (hx : a.eval x = y) (hown : OwnS w base v l) (hsrc : Src Tryz.prog 1 tx y ms.length ms w) (hlen : l.length + ms.length ≤ 1073741824) (hbase : base ≤ w.heap.size) (hsl : ∀ u ∈ l ++ ms, isSl u) (hS : SlV w v)
    (h : ∀ v' w', OwnS w' base v' (l ++ ms) → w.grownBy w' v.ownBlock → (v'.ownBlock = v.ownBlock ∨ v'.ownBlock = some w.heap.size) → SlV w' v' → wpList Tryz.prog ops Q rest (a.put o.dst v') w') : wpList Tryz.prog ops Q (o :: rest) a w :=
  wpList_plain hgd fun K hK => by
    obtain ⟨v', w', hr, h2, h3, h4, h5⟩ := run_append_sl w base o.type tx v l ms y hown hsrc hlen hbase hsl hS
    unfold Oper.wp execOp
    simp only [ho, resolve, invoke, builtin, Sem.run_bind, Sem.run_pure, Result.andThen_ok, List.map_toArray, List.map_cons, List.map_nil, hs, hx, hr]
    exact hK _ _ (h v' w' h2 h3 h4 h5)
end Go.Proofs.YtnegnokielmgkaaGreatDoor

namespace Go.Proofs.YtnegnokielmgkaaGreatDoor
open Go.RowKit

section
variable {w0 w w' : World} {D : Nat → Prop} {j t : Nat} {J : Js} {v v' : Value}
theorem bis_grown {x : Value} {l : List UInt8} (h : BIs w x l) (hg : w.grownBy w' v.ownBlock) (hS : SlV w v) : BIs w' x l := by
  obtain ⟨A, cap, e, h1, h2, h3⟩ := h
  refine ⟨A, cap, e, h1, h2, fun i b hi => ?_⟩
  obtain ⟨a, q1, q2, q3⟩ := h3 i b hi
  refine ⟨a, q1, Nat.lt_of_lt_of_le q2 hg.size, (World.cell?_of_block (a := a.add i) ?_).trans q3⟩
  rw [add_block]
  refine hg.block _ q2 fun e2 => ?_
  obtain ⟨A', n', c', e3⟩ := hS _ e2.symm (a.add i) _ (add_block _ _) q3
  cases e3
theorem bf_grown {F : Nat → Prop} {x : Value} {l : List UInt8} (h : BF w F x l) (hg : w.grownBy w' v.ownBlock) (hS : SlV w v) : BF w' F x l := ⟨bis_grown h.1 hg hS, fun a n c e => ⟨(h.2 a n c e).1, Nat.lt_of_lt_of_le (h.2 a n c e).2 hg.size⟩⟩
theorem JAt.grown {T : Tp} {sv rv : Value} {xs : List Value} (h : JAt w j t T J sv rv xs) (hg : w.grownBy w' v.ownBlock) (hS : SlV w v) (hD : ∀ g, v.ownBlock = some g → ¬ JB j t T rv g) : JAt w' j t T J sv rv xs := by
  have ht : Touch (fun k => v.ownBlock = some k) w w' := ⟨hg.os, hg.tape, hg.output, hg.size, fun k hk hn => hg.block k hk (fun e => hn e.symm)⟩
  exact ⟨(hg.block j (heap_lt h.head) (fun e => hD j e.symm (.inl rfl))).trans h.head, h.tp.touch ht (fun k hk e => hD k e (.inr (.inl hk))), bf_grown h.st hg hS, h.row.keep hg.size (fun k hk => hg.block k (h.row.lt k hk).2 (fun e => hD k e.symm (.inr (.inr hk)))), ⟨h.recs.1, fun i x l hx hl => bf_grown (h.recs.2 i x l hx hl) hg hS⟩, h.jt, h.rj, h.rt⟩
theorem JAwd.grown {base : Nat} {l : List Value} (h : JAwd w0 w D j t J) (hg : w.grownBy w' v.ownBlock) (hD : ∀ g, v.ownBlock = some g → D g) (hb : ∀ g, v.ownBlock = some g → w0.heap.size ≤ g) (hS : SlV w v) (hv : v'.ownBlock = v.ownBlock ∨ v'.ownBlock = some w.heap.size) (ho : OwnS w' base v' l) : JAwd w0 w' (fun k => D k ∨ v'.ownBlock = some k) j t J := by
  obtain ⟨h1, h2, h3, h4, T, sv, rv, xs, h5, h6⟩ := h
  refine ⟨h1, h2, h3.grown hg h3.size hb, fun k hk => ?_, T, sv, rv, xs, h5.grown hg hS (fun g e hj => (h6 g hj).2 (hD g e)), fun k hk => ⟨(h6 k hk).1, fun hd => ?_⟩⟩
  · rcases hk with hk | hk
    · exact Nat.lt_of_lt_of_le (h4 k hk) hg.size
    · exact (ho.lt k hk).2
  · rcases hd with hd | hd
    · exact (h6 k hk).2 hd
    · rcases hv with e | e
      · exact (h6 k hk).2 (hD k (e.symm.trans hd))
      · have e2 : w.heap.size = k := Option.some.inj (e.symm.trans hd)
        have := h5.lt k hk
        omega
/-- Another list of the law's own, when one grows. -/
theorem OwnS.grownD {base : Nat} {u : Value} {l : List Value} (h : OwnS w base u l) (hg : w.grownBy w' v.ownBlock) (hne : ∀ g, u.ownBlock = some g → v.ownBlock ≠ some g) : OwnS w' base u l := h.keep hg.size (fun k hk => hg.block k (h.lt k hk).2 (fun e => hne k hk e.symm))
end
/-- A list of the law's own, as the source of an append. -/
theorem OwnS.src {w : World} {base : Nat} {v : Value} {xs : List Value} (h : OwnS w base v xs) (hs : ∀ u ∈ xs, isSl u) : Src Tryz.prog 1 42 v xs.length xs w := by
  obtain ⟨A, cap, rfl, h1, h2, h3, h4⟩ := h.vis
  cases A with
  | none =>
    have : xs = [] := by
      cases xs with
      | nil => rfl
      | cons x r => obtain ⟨a, e, _⟩ := h4 0 x rfl; cases e
    subst this
    exact Src.ofNil w Tryz.underlying42 cap
  | some a =>
    exact Src.ofSlice w Tryz.underlying42 a xs.length cap xs (by simp) (fun j u hu => by
      obtain ⟨a', e, hc⟩ := h4 j u hu
      cases e; exact hc) (fun u hu => by
      obtain ⟨A, n, c, rfl⟩ := hs u hu
      rfl)
theorem OldB.sl {w0 : World} {xs : List Value} {ls : List (List UInt8)} (h : OldB w0 xs ls) : ∀ u ∈ xs, isSl u := fun u hu => by
  obtain ⟨i, hi⟩ := List.getElem?_of_mem hu
  have hl : i < ls.length := by rw [← h.1]; exact (List.getElem?_eq_some_iff.1 hi).1
  obtain ⟨A, cap, rfl, _⟩ := h.2 i u _ hi (List.getElem?_eq_getElem hl)
  exact ⟨_, _, _, rfl⟩
theorem OldB.append {w0 : World} {xs ys : List Value} {ls ms : List (List UInt8)} (h : OldB w0 xs ls) (k : OldB w0 ys ms) : OldB w0 (xs ++ ys) (ls ++ ms) := by
  refine ⟨by rw [List.length_append, List.length_append, h.1, k.1], fun i x l hx hl => ?_⟩
  by_cases hi : i < xs.length
  · rw [List.getElem?_append_left hi] at hx
    rw [List.getElem?_append_left (by rw [← h.1]; exact hi)] at hl
    exact h.2 i x l hx hl
  · rw [List.getElem?_append_right (by omega)] at hx
    rw [List.getElem?_append_right (by rw [← h.1]; omega), ← h.1] at hl
    exact k.2 _ x l hx hl
end Go.Proofs.YtnegnokielmgkaaGreatDoor
