/- The tape in memory; what is wrong with a call: upto, named, ready, look, open. -/
import Derived.Test.YtojmfjmnfpnmmaaDoorErrM
import Derived.Test.YtojmfjmnfpnmmaaDoorCrcD
import Derived.Test.YtojmfjmnfpnmmaaDoorBasB
set_option linter.unusedSimpArgs false
set_option linter.unusedVariables false
set_option linter.unnecessarySimpa false
namespace Go.Proofs.YtojmfjmnfpnmmaaDoor
open Go.RowKit

/-- One segment: its number, its block, its bytes as they lie, its bytes, how many are synced, its entry's stamp. -/
structure Ent where
  n : Int
  sb : Nat
  v : Value
  b : List UInt8
  s : Nat
  born : Nat
def Ent.me (e : Ent) : MapEntry := ⟨.int .i64 e.n, .pointer (some ⟨e.sb, 0, none⟩), e.born⟩
def Ent.blocks (e : Ent) : List Nat := e.sb :: e.v.ownBlock.toList
structure SegAt (w : World) (e : Ent) : Prop where
  head : w.heap[e.sb]? = some (.cells #[e.v, .int .i64 (e.s : Int)] 66 (0, 0))
  row : RowIs w 1 e.v e.b.length (bc e.b)
  le : e.s ≤ e.b.length
  lo : 0 ≤ e.n
  hi : e.n ≤ 1048576
structure Tp where
  m : Option Nat
  L : List Ent
  clock : Nat
  room : Nat
  fused : Bool
  left : Nat
  down : Bool
def used (L : List Ent) : Nat := (L.map fun e => e.b.length).sum
def Tp.blocks (t : Nat) (T : Tp) : List Nat := t :: (T.m.toList ++ T.L.flatMap Ent.blocks)
def MapPart (w : World) : Option Nat → List Ent → Nat → Prop
  | none, L, _ => L = []
  | some m, L, c => MapIs Tryd.prog 3 w m (L.map Ent.me) c
/-- No block serves two. -/
structure Sep (t : Nat) (m : Option Nat) (L : List Ent) : Prop where
  tm : m ≠ some t
  te : ∀ e ∈ L, ∀ k ∈ e.blocks, k ≠ t ∧ m ≠ some k
  ee : ∀ (i j : Nat) (a b : Ent) (k : Nat), L[i]? = some a → L[j]? = some b → k ∈ a.blocks → k ∈ b.blocks → i = j
  own : ∀ e ∈ L, e.v.ownBlock ≠ some e.sb
structure TapeAt (w : World) (t : Nat) (T : Tp) : Prop where
  head : w.heap[t]? = some (.cells #[.map T.m, .int .i64 (T.room : Int), .bool T.fused, .int .i64 (T.left : Int), .bool T.down] 56 (0, 0))
  map : MapPart w T.m T.L T.clock
  segs : ∀ e ∈ T.L, SegAt w e
  sep : Sep t T.m T.L
  few : T.L.length ≤ 64
  used : used T.L ≤ 1048576
  room : T.room ≤ 1048576
  left : T.left ≤ 9223372036854775807

theorem SegAt.keep {w w' : World} {e : Ent} (h : SegAt w e) (hs : w.heap.size ≤ w'.heap.size) (hk : ∀ k ∈ e.blocks, w'.heap[k]? = w.heap[k]?) : SegAt w' e :=
  ⟨(hk _ (List.mem_cons_self ..)).trans h.head, h.row.keep hs (fun g hg => hk g (List.mem_cons_of_mem _ (by rw [hg]; exact List.mem_singleton.2 rfl))), h.le, h.lo, h.hi⟩
theorem SegAt.lt {w : World} {e : Ent} (h : SegAt w e) : ∀ k ∈ e.blocks, k < w.heap.size := by
  intro k hk
  rcases List.mem_cons.1 hk with rfl | hk
  · exact heap_lt h.head
  · exact h.row.lt k (by simpa using hk)
theorem TapeAt.lt {w : World} {t : Nat} {T : Tp} (h : TapeAt w t T) : ∀ k ∈ T.blocks t, k < w.heap.size := by
  intro k hk
  rcases List.mem_cons.1 hk with rfl | hk
  · exact heap_lt h.head
  · rcases List.mem_append.1 hk with hk | hk
    · have hm := h.map
      cases hT : T.m with
      | none => rw [hT] at hk; cases hk
      | some m =>
        rw [hT] at hk hm
        obtain rfl : k = m := by simpa using hk
        exact MapIs.lt hm
    · obtain ⟨e, he, hk⟩ := List.mem_flatMap.1 hk
      exact (h.segs e he).lt k hk
theorem TapeAt.keep {w w' : World} {t : Nat} {T : Tp} (h : TapeAt w t T) (hs : w.heap.size ≤ w'.heap.size) (hk : ∀ k ∈ T.blocks t, w'.heap[k]? = w.heap[k]?) : TapeAt w' t T := by
  refine ⟨(hk _ (List.mem_cons_self ..)).trans h.head, ?_, fun e he => (h.segs e he).keep hs fun k hke => hk k (List.mem_cons_of_mem _ (List.mem_append.2 (.inr (List.mem_flatMap.2 ⟨e, he, hke⟩)))), h.sep, h.few, h.used, h.room, h.left⟩
  have hm := h.map
  cases hT : T.m with
  | none => rw [hT] at hm; exact hm
  | some m =>
    rw [hT] at hm
    exact MapIs.keep hm (hk m (List.mem_cons_of_mem _ (List.mem_append.2 (.inl (by rw [hT]; exact List.mem_singleton.2 rfl)))))
theorem TapeAt.below {w w' : World} {t : Nat} {T : Tp} (h : TapeAt w t T) (hb : Below w.heap.size w w') : TapeAt w' t T := h.keep hb.size fun k hk => hb.block k (h.lt k hk)
theorem TapeAt.touch {S : Nat → Prop} {w w' : World} {t : Nat} {T : Tp} (h : TapeAt w t T) (hb : Touch S w w') (hS : ∀ k ∈ T.blocks t, ¬ S k) : TapeAt w' t T := h.keep hb.size fun k hk => hb.block k (h.lt k hk) (hS k hk)

/-- An error of that number; no error: 0. -/
def ErrP (E : Int) (w : World) (v : Value) (w' : World) : Prop := ∃ c, ErrIs w' c v ∧ codeOf c = E ∧ (E = 0 → c = []) ∧ NumOk c ∧ c.length < 100 ∧ Below w.heap.size w w'
theorem ErrP.none (w : World) : ErrP 0 w .nilIface w := ⟨[], rfl, rfl, fun _ => rfl, (fun e h => by cases h), by decide, Below.refl _ _⟩
theorem ErrP.form {E : Int} {w w' : World} {v : Value} (h : ErrP E w v w') (hE : E ≠ 0) : ∃ t u, v = .iface t u := by
  obtain ⟨c, h1, h2, _⟩ := h
  cases c with
  | nil => exact absurd h2.symm hE
  | cons k r => exact h1.form1
theorem ErrP.nil {w w' : World} {v : Value} (h : ErrP 0 w v w') : v = .nilIface ∧ Below w.heap.size w w' := by
  obtain ⟨c, h1, _, h3, _, _, h6⟩ := h
  rw [h3 rfl] at h1
  exact ⟨h1, h6⟩
theorem ErrP.below {E : Int} {w w' : World} {v : Value} (h : ErrP E w v w') : Below w.heap.size w w' := by
  obtain ⟨_, _, _, _, _, _, h⟩ := h
  exact h
theorem ErrP.after {E : Int} {w0 w w' : World} {v : Value} (h : ErrP E w v w') (hb : Below w0.heap.size w0 w) : ErrP E w0 v w' := by
  obtain ⟨c, h1, h2, h3, h4, h5, h6⟩ := h
  exact ⟨c, h1, h2, h3, h4, h5, hb.trans (h6.mono hb.size)⟩
theorem ErrP.ahead {E : Int} {w w' w'' : World} {v : Value} (h : ErrP E w v w') (hb : Below w'.heap.size w' w'') : ErrP E w v w'' := by
  obtain ⟨c, h1, h2, h3, h4, h5, h6⟩ := h
  exact ⟨c, h1.below hb, h2, h3, h4, h5, h6.trans (hb.mono h6.size)⟩
theorem onto_cons (k x : Lk) (c : List Lk) : onto k (x :: c) = k :: x :: c := rfl
theorem NumOk.cons {k : Lk} {c : List Lk} (hk : k.isNum = false) (h : NumOk c) : NumOk (k :: c) := fun e he => by
  rcases List.mem_cons.1 he with rfl | he
  · cases hk
  · exact h e he
theorem numOk_one {e : Int} (h : e ≠ 0) : NumOk [.num e] := fun x hx => by
  obtain h2 : Lk.num x = Lk.num e := by simpa using hx
  cases h2
  exact h

/-- Chains that the tape makes. -/
theorem ErrP.of {E : Int} {w w' : World} {v : Value} (c : List Lk) (h : ErrIs w' c v) (hb : Below w.heap.size w w') (h1 : codeOf c = E) (h2 : c ≠ []) (hE : E ≠ 0) (h3 : NumOk c) (h4 : c.length < 100) : ErrP E w v w' := ⟨c, h, h1, fun h => absurd h hE, h3, h4, hb⟩

set_option maxRecDepth 100000 in
theorem upto_ok {w : World} {most n : Int} (h0 : 0 ≤ n) (h1 : n ≤ most) : Calls Tryd.prog 44 #[.int .i64 most, .int .i64 n] w fun e w' => e = .returned .nilIface ∧ w = w' := by
  have q1 : decide (n < 0) = false := decide_eq_false (by omega)
  have q2 : decide (most < n) = false := decide_eq_false (by omega)
  go_enter Tryd.func44, Tryd.ntmps44
  go_wp2_with fail
  go_ret
  exact ⟨rfl, rfl⟩
set_option maxRecDepth 100000 in
theorem upto_no {w : World} {most n : Int} (h : n < 0 ∨ most < n) : Calls Tryd.prog 44 #[.int .i64 most, .int .i64 n] w fun e w' => ∃ v, e = .returned v ∧ ErrIs w' [.bnd most n, .num 2] v ∧ Below w.heap.size w w' := by
  have HN := Lib.hid (new_any 2 w)
  by_cases hn : n < 0
  · have q1 : decide (n < 0) = true := decide_eq_true hn
    go_enter Tryd.func44, Tryd.ntmps44
    go_wp2_with fail
    refine (HN.out).mono ?_
    rintro e w1 ⟨v1, rfl, he1, hb1⟩
    have HB := Lib.hid (bound_any most n he1)
    have HB1 := Lib.hid hb1
    clear he1 hb1
    go_wp2_with fail
    refine (HB.out).mono ?_
    rintro e w2 ⟨v2, rfl, he2, hb2⟩
    have H2 := Lib.hid (And.intro he2 (HB1.out.trans (hb2.mono HB1.out.size)))
    clear he2 hb2
    go_wp2
    go_ret
    exact ⟨_, rfl, H2.out⟩
  · have q1 : decide (n < 0) = false := decide_eq_false hn
    have q2 : decide (most < n) = true := decide_eq_true (by omega)
    go_enter Tryd.func44, Tryd.ntmps44
    go_wp2_with fail
    refine (HN.out).mono ?_
    rintro e w1 ⟨v1, rfl, he1, hb1⟩
    have HB := Lib.hid (bound_any most n he1)
    have HB1 := Lib.hid hb1
    clear he1 hb1
    go_wp2_with fail
    refine (HB.out).mono ?_
    rintro e w2 ⟨v2, rfl, he2, hb2⟩
    have H2 := Lib.hid (And.intro he2 (HB1.out.trans (hb2.mono HB1.out.size)))
    clear he2 hb2
    go_wp2
    go_ret
    exact ⟨_, rfl, H2.out⟩

/-- May a number be a segment's? -/
def nameB (n : Int) : Bool := decide (0 ≤ n ∧ n ≤ 1048576)
theorem nameB_iff {n : Int} : nameB n = true ↔ 0 ≤ n ∧ n ≤ 1048576 := by unfold nameB; exact decide_eq_true_iff
set_option maxRecDepth 100000 in
theorem named_nil {w : World} (seg : Int) : Calls Tryd.prog 48 #[.pointer none, .int .i64 seg] w fun e w' => ∃ v, e = .returned v ∧ ErrP 1 w v w' := by
  have HN := Lib.hid (new_any 1 w)
  go_enter Tryd.func48, Tryd.ntmps48
  go_wp2_with fail
  refine (HN.out).mono ?_
  rintro e w1 ⟨v1, rfl, he1, hb1⟩
  have H1 : Hid (ErrP 1 w v1 w1) := .of [.num 1] he1 hb1 rfl (by simp) (by decide) (numOk_one (by decide)) (by decide)
  clear he1 hb1
  go_wp2
  go_ret
  exact ⟨_, rfl, H1.out⟩
set_option maxRecDepth 100000 in
theorem named_ok {w : World} (a : Addr) {seg : Int} (h : nameB seg = true) : Calls Tryd.prog 48 #[.pointer (some a), .int .i64 seg] w fun e w' => e = .returned .nilIface ∧ w = w' := by
  obtain ⟨h0, h1⟩ := nameB_iff.1 h
  have HU := Lib.hid (upto_ok (w := w) h0 h1)
  have HA := Lib.hid (at_nil seg w)
  clear h0 h1 h
  go_enter Tryd.func48, Tryd.ntmps48
  go_wp2_with fail
  refine (HU.out).mono ?_
  rintro e w1 ⟨rfl, rfl⟩
  go_wp2_with fail
  refine (HA.out).mono ?_
  rintro e w1 ⟨rfl, rfl⟩
  go_wp2
  go_ret
  exact ⟨rfl, rfl⟩
set_option maxRecDepth 100000 in
theorem named_no {w : World} (a : Addr) {seg : Int} (h : nameB seg = false) : Calls Tryd.prog 48 #[.pointer (some a), .int .i64 seg] w fun e w' => ∃ v, e = .returned v ∧ ErrP 2 w v w' := by
  have hn : seg < 0 ∨ 1048576 < seg := by
    refine Classical.byContradiction fun hc => ?_
    rw [nameB_iff.2 ⟨by omega, by omega⟩] at h
    cases h
  have HU := Lib.hid (upto_no (w := w) hn)
  clear h hn
  go_enter Tryd.func48, Tryd.ntmps48
  go_wp2_with fail
  refine (HU.out).mono ?_
  rintro e w1 ⟨v1, rfl, he1, hb1⟩
  have HA := Lib.hid (at_any seg he1)
  have HB1 := Lib.hid hb1
  clear he1 hb1
  go_wp2_with fail
  refine (HA.out).mono ?_
  rintro e w2 ⟨v2, rfl, he2, hb2⟩
  have H2 : Hid (ErrP 2 w v2 w2) := .of _ he2 (HB1.out.trans (hb2.mono HB1.out.size)) rfl (by simp [onto_cons]) (by decide) (.cons rfl (.cons rfl (numOk_one (by decide)))) (by simp [onto_cons])
  clear he2 hb2
  go_wp2
  go_ret
  exact ⟨_, rfl, H2.out⟩
end Go.Proofs.YtojmfjmnfpnmmaaDoor
