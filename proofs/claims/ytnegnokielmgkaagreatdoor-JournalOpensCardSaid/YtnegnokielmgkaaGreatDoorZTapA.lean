/- The tape in memory; what is wrong with a call: upto, named, ready, look, open. The tape: look-ups; ready, look, open. -/
import Derived.Test.YtnegnokielmgkaaGreatDoorZErrB
import Derived.Test.YtnegnokielmgkaaGreatDoorZCrcD
import Derived.Test.YtnegnokielmgkaaGreatDoorZBasB
set_option linter.unusedSimpArgs false
set_option linter.unusedVariables false
set_option linter.unnecessarySimpa false
namespace Go.Proofs.YtnegnokielmgkaaGreatDoor
open Go.RowKit

/-- One segment: its number, its block, its bytes as they lie, its bytes, how many are synced, its entry's stamp. -/
structure Ent where
  n : Int
  sb : Nat
  v : Value
  b : List UInt8
  s : Nat
  born : Nat
def Ent.me (e : Ent) : MapEntry := ⟨.int .i64 e.n, .pointer (some ⟨e.sb, 0, none⟩), e.born⟩
def Ent.blocks (e : Ent) : List Nat := e.sb :: e.v.ownBlock.toList
structure SegAt (w : World) (e : Ent) : Prop where
  head : w.heap[e.sb]? = some (.cells #[e.v, .int .i64 (e.s : Int)] 89 (0, 0))
  row : RowIs w 1 e.v e.b.length (bc e.b)
  le : e.s ≤ e.b.length
  lo : 0 ≤ e.n
  hi : e.n ≤ 1048576
structure Tp where
  m : Option Nat
  L : List Ent
  clock : Nat
  room : Nat
  fused : Bool
  left : Nat
  down : Bool
def used (L : List Ent) : Nat := (L.map fun e => e.b.length).sum
def Tp.blocks (t : Nat) (T : Tp) : List Nat := t :: (T.m.toList ++ T.L.flatMap Ent.blocks)
def MapPart (w : World) : Option Nat → List Ent → Nat → Prop
  | none, L, _ => L = []
  | some m, L, c => MapIs Tryz.prog 3 w m (L.map Ent.me) c
/-- No block serves two. -/
structure Sep (t : Nat) (m : Option Nat) (L : List Ent) : Prop where
  tm : m ≠ some t
  te : ∀ e ∈ L, ∀ k ∈ e.blocks, k ≠ t ∧ m ≠ some k
  ee : ∀ (i j : Nat) (a b : Ent) (k : Nat), L[i]? = some a → L[j]? = some b → k ∈ a.blocks → k ∈ b.blocks → i = j
  own : ∀ e ∈ L, e.v.ownBlock ≠ some e.sb
structure TapeAt (w : World) (t : Nat) (T : Tp) : Prop where
  head : w.heap[t]? = some (.cells #[.map T.m, .int .i64 (T.room : Int), .bool T.fused, .int .i64 (T.left : Int), .bool T.down] 77 (0, 0))
  map : MapPart w T.m T.L T.clock
  segs : ∀ e ∈ T.L, SegAt w e
  sep : Sep t T.m T.L
  few : T.L.length ≤ 64
  used : used T.L ≤ 1048576
  room : T.room ≤ 1048576
  left : T.left ≤ 9223372036854775807

theorem SegAt.keep {w w' : World} {e : Ent} (h : SegAt w e) (hs : w.heap.size ≤ w'.heap.size) (hk : ∀ k ∈ e.blocks, w'.heap[k]? = w.heap[k]?) : SegAt w' e :=
  ⟨(hk _ (List.mem_cons_self ..)).trans h.head, h.row.keep hs (fun g hg => hk g (List.mem_cons_of_mem _ (by rw [hg]; exact List.mem_singleton.2 rfl))), h.le, h.lo, h.hi⟩
theorem SegAt.lt {w : World} {e : Ent} (h : SegAt w e) : ∀ k ∈ e.blocks, k < w.heap.size := by
  intro k hk
  rcases List.mem_cons.1 hk with rfl | hk
  · exact heap_lt h.head
  · exact h.row.lt k (by simpa using hk)
theorem TapeAt.lt {w : World} {t : Nat} {T : Tp} (h : TapeAt w t T) : ∀ k ∈ T.blocks t, k < w.heap.size := by
  intro k hk
  rcases List.mem_cons.1 hk with rfl | hk
  · exact heap_lt h.head
  · rcases List.mem_append.1 hk with hk | hk
    · have hm := h.map
      cases hT : T.m with
      | none => rw [hT] at hk; cases hk
      | some m =>
        rw [hT] at hk hm
        obtain rfl : k = m := by simpa using hk
        exact MapIs.lt hm
    · obtain ⟨e, he, hk⟩ := List.mem_flatMap.1 hk
      exact (h.segs e he).lt k hk
theorem TapeAt.keep {w w' : World} {t : Nat} {T : Tp} (h : TapeAt w t T) (hs : w.heap.size ≤ w'.heap.size) (hk : ∀ k ∈ T.blocks t, w'.heap[k]? = w.heap[k]?) : TapeAt w' t T := by
  refine ⟨(hk _ (List.mem_cons_self ..)).trans h.head, ?_, fun e he => (h.segs e he).keep hs fun k hke => hk k (List.mem_cons_of_mem _ (List.mem_append.2 (.inr (List.mem_flatMap.2 ⟨e, he, hke⟩)))), h.sep, h.few, h.used, h.room, h.left⟩
  have hm := h.map
  cases hT : T.m with
  | none => rw [hT] at hm; exact hm
  | some m =>
    rw [hT] at hm
    exact MapIs.keep hm (hk m (List.mem_cons_of_mem _ (List.mem_append.2 (.inl (by rw [hT]; exact List.mem_singleton.2 rfl)))))
theorem TapeAt.below {w w' : World} {t : Nat} {T : Tp} (h : TapeAt w t T) (hb : Below w.heap.size w w') : TapeAt w' t T := h.keep hb.size fun k hk => hb.block k (h.lt k hk)
theorem TapeAt.touch {S : Nat → Prop} {w w' : World} {t : Nat} {T : Tp} (h : TapeAt w t T) (hb : Touch S w w') (hS : ∀ k ∈ T.blocks t, ¬ S k) : TapeAt w' t T := h.keep hb.size fun k hk => hb.block k (h.lt k hk) (hS k hk)

/-- An error of that number; no error: 0. -/
def ErrP (E : Int) (w : World) (v : Value) (w' : World) : Prop := ∃ c, ErrIs w' c v ∧ codeOf c = E ∧ (E = 0 → c = []) ∧ NumOk c ∧ c.length < 100 ∧ Below w.heap.size w w'
theorem ErrP.none (w : World) : ErrP 0 w .nilIface w := ⟨[], rfl, rfl, fun _ => rfl, (fun e h => by cases h), by decide, Below.refl _ _⟩
theorem ErrP.form {E : Int} {w w' : World} {v : Value} (h : ErrP E w v w') (hE : E ≠ 0) : ∃ t u, v = .iface t u := by
  obtain ⟨c, h1, h2, _⟩ := h
  cases c with
  | nil => exact absurd h2.symm hE
  | cons k r => exact h1.form1
theorem ErrP.nil {w w' : World} {v : Value} (h : ErrP 0 w v w') : v = .nilIface ∧ Below w.heap.size w w' := by
  obtain ⟨c, h1, _, h3, _, _, h6⟩ := h
  rw [h3 rfl] at h1
  exact ⟨h1, h6⟩
theorem ErrP.below {E : Int} {w w' : World} {v : Value} (h : ErrP E w v w') : Below w.heap.size w w' := by
  obtain ⟨_, _, _, _, _, _, h⟩ := h
  exact h
theorem ErrP.after {E : Int} {w0 w w' : World} {v : Value} (h : ErrP E w v w') (hb : Below w0.heap.size w0 w) : ErrP E w0 v w' := by
  obtain ⟨c, h1, h2, h3, h4, h5, h6⟩ := h
  exact ⟨c, h1, h2, h3, h4, h5, hb.trans (h6.mono hb.size)⟩
theorem ErrP.ahead {E : Int} {w w' w'' : World} {v : Value} (h : ErrP E w v w') (hb : Below w'.heap.size w' w'') : ErrP E w v w'' := by
  obtain ⟨c, h1, h2, h3, h4, h5, h6⟩ := h
  exact ⟨c, h1.below hb, h2, h3, h4, h5, h6.trans (hb.mono h6.size)⟩
theorem onto_cons (k x : Lk) (c : List Lk) : onto k (x :: c) = k :: x :: c := rfl
theorem NumOk.cons {k : Lk} {c : List Lk} (hk : k.isNum = false) (h : NumOk c) : NumOk (k :: c) := fun e he => by
  rcases List.mem_cons.1 he with rfl | he
  · cases hk
  · exact h e he
theorem numOk_one {e : Int} (h : e ≠ 0) : NumOk [.num e] := fun x hx => by
  obtain h2 : Lk.num x = Lk.num e := by simpa using hx
  cases h2
  exact h

/-- Chains that the tape makes. -/
theorem ErrP.of {E : Int} {w w' : World} {v : Value} (c : List Lk) (h : ErrIs w' c v) (hb : Below w.heap.size w w') (h1 : codeOf c = E) (h2 : c ≠ []) (hE : E ≠ 0) (h3 : NumOk c) (h4 : c.length < 100) : ErrP E w v w' := ⟨c, h, h1, fun h => absurd h hE, h3, h4, hb⟩

set_option maxRecDepth 100000 in
theorem upto_ok {w : World} {most n : Int} (h0 : 0 ≤ n) (h1 : n ≤ most) : Calls Tryz.prog 74 #[.int .i64 most, .int .i64 n] w fun e w' => e = .returned .nilIface ∧ w = w' := by
  have q1 : decide (n < 0) = false := decide_eq_false (by omega)
  have q2 : decide (most < n) = false := decide_eq_false (by omega)
  go_enter Tryz.func74, Tryz.ntmps74
  go_wp2_with fail
  go_ret
  exact ⟨rfl, rfl⟩
set_option maxRecDepth 100000 in
theorem upto_no {w : World} {most n : Int} (h : n < 0 ∨ most < n) : Calls Tryz.prog 74 #[.int .i64 most, .int .i64 n] w fun e w' => ∃ v, e = .returned v ∧ ErrIs w' [.bnd most n, .num 2] v ∧ Below w.heap.size w w' := by
  have HN := Lib.hid (new_any 2 w)
  by_cases hn : n < 0
  · have q1 : decide (n < 0) = true := decide_eq_true hn
    go_enter Tryz.func74, Tryz.ntmps74
    go_wp2_with fail
    refine (HN.out).mono ?_
    rintro e w1 ⟨v1, rfl, he1, hb1⟩
    have HB := Lib.hid (bound_any most n he1)
    have HB1 := Lib.hid hb1
    clear he1 hb1
    go_wp2_with fail
    refine (HB.out).mono ?_
    rintro e w2 ⟨v2, rfl, he2, hb2⟩
    have H2 := Lib.hid (And.intro he2 (HB1.out.trans (hb2.mono HB1.out.size)))
    clear he2 hb2
    go_wp2
    go_ret
    exact ⟨_, rfl, H2.out⟩
  · have q1 : decide (n < 0) = false := decide_eq_false hn
    have q2 : decide (most < n) = true := decide_eq_true (by omega)
    go_enter Tryz.func74, Tryz.ntmps74
    go_wp2_with fail
    refine (HN.out).mono ?_
    rintro e w1 ⟨v1, rfl, he1, hb1⟩
    have HB := Lib.hid (bound_any most n he1)
    have HB1 := Lib.hid hb1
    clear he1 hb1
    go_wp2_with fail
    refine (HB.out).mono ?_
    rintro e w2 ⟨v2, rfl, he2, hb2⟩
    have H2 := Lib.hid (And.intro he2 (HB1.out.trans (hb2.mono HB1.out.size)))
    clear he2 hb2
    go_wp2
    go_ret
    exact ⟨_, rfl, H2.out⟩

/-- May a number be a segment's? -/
def nameB (n : Int) : Bool := decide (0 ≤ n ∧ n ≤ 1048576)
theorem nameB_iff {n : Int} : nameB n = true ↔ 0 ≤ n ∧ n ≤ 1048576 := by unfold nameB; exact decide_eq_true_iff
set_option maxRecDepth 100000 in
theorem named_nil {w : World} (seg : Int) : Calls Tryz.prog 83 #[.pointer none, .int .i64 seg] w fun e w' => ∃ v, e = .returned v ∧ ErrP 1 w v w' := by
  have HN := Lib.hid (new_any 1 w)
  go_enter Tryz.func83, Tryz.ntmps83
  go_wp2_with fail
  refine (HN.out).mono ?_
  rintro e w1 ⟨v1, rfl, he1, hb1⟩
  have H1 : Hid (ErrP 1 w v1 w1) := .of [.num 1] he1 hb1 rfl (by simp) (by decide) (numOk_one (by decide)) (by decide)
  clear he1 hb1
  go_wp2
  go_ret
  exact ⟨_, rfl, H1.out⟩
set_option maxRecDepth 100000 in
theorem named_ok {w : World} (a : Addr) {seg : Int} (h : nameB seg = true) : Calls Tryz.prog 83 #[.pointer (some a), .int .i64 seg] w fun e w' => e = .returned .nilIface ∧ w = w' := by
  obtain ⟨h0, h1⟩ := nameB_iff.1 h
  have HU := Lib.hid (upto_ok (w := w) h0 h1)
  have HA := Lib.hid (at_nil seg w)
  clear h0 h1 h
  go_enter Tryz.func83, Tryz.ntmps83
  go_wp2_with fail
  refine (HU.out).mono ?_
  rintro e w1 ⟨rfl, rfl⟩
  go_wp2_with fail
  refine (HA.out).mono ?_
  rintro e w1 ⟨rfl, rfl⟩
  go_wp2
  go_ret
  exact ⟨rfl, rfl⟩
set_option maxRecDepth 100000 in
theorem named_no {w : World} (a : Addr) {seg : Int} (h : nameB seg = false) : Calls Tryz.prog 83 #[.pointer (some a), .int .i64 seg] w fun e w' => ∃ v, e = .returned v ∧ ErrP 2 w v w' := by
  have hn : seg < 0 ∨ 1048576 < seg := by
    refine Classical.byContradiction fun hc => ?_
    rw [nameB_iff.2 ⟨by omega, by omega⟩] at h
    cases h
  have HU := Lib.hid (upto_no (w := w) hn)
  clear h hn
  go_enter Tryz.func83, Tryz.ntmps83
  go_wp2_with fail
  refine (HU.out).mono ?_
  rintro e w1 ⟨v1, rfl, he1, hb1⟩
  have HA := Lib.hid (at_any seg he1)
  have HB1 := Lib.hid hb1
  clear he1 hb1
  go_wp2_with fail
  refine (HA.out).mono ?_
  rintro e w2 ⟨v2, rfl, he2, hb2⟩
  have H2 : Hid (ErrP 2 w v2 w2) := .of _ he2 (HB1.out.trans (hb2.mono HB1.out.size)) rfl (by simp [onto_cons]) (by decide) (.cons rfl (.cons rfl (numOk_one (by decide)))) (by simp [onto_cons])
  clear he2 hb2
  go_wp2
  go_ret
  exact ⟨_, rfl, H2.out⟩
end Go.Proofs.YtnegnokielmgkaaGreatDoor

namespace Go.Proofs.YtnegnokielmgkaaGreatDoor
open Go.RowKit
open Go.Maps (Keyed)

theorem keyed : Keyed Tryz.prog 3 := Go.Maps.int_keyed Tryz.underlying3
theorem zeroPtr (w : World) : (zeroValue 86).run Tryz.prog w = .ok (.pointer none) w := by kernel_rfl
theorem key_int {n : Int} (h : nameB n = true) : keyOf Tryz.prog 3 (.int .i64 n) = some (.int .i64 n) := by
  obtain ⟨h0, h1⟩ := nameB_iff.1 h
  refine Go.Maps.keyOf_int_mk Tryz.underlying3 ?_
  have e1 : IntKind.i64.min = -9223372036854775808 := by decide
  have e2 : IntKind.i64.max = 9223372036854775807 := by decide
  simp [Lit.wf, e1, e2]
  omega
theorem seg_cases (L : List Ent) (n : Int) : (∃ (j : Nat) (e : Ent), L[j]? = some e ∧ e.n = n) ∨ ∀ e ∈ L, e.n ≠ n := by
  by_cases h : ∃ e ∈ L, e.n = n
  · obtain ⟨e, he, hn⟩ := h
    obtain ⟨j, hj⟩ := List.getElem?_of_mem he
    exact .inl ⟨j, e, hj, hn⟩
  · exact .inr fun e he hn => h ⟨e, he, hn⟩
theorem me_at {L : List Ent} {j : Nat} {e : Ent} (h : L[j]? = some e) : (L.map Ent.me)[j]? = some e.me := by rw [List.getElem?_map, h]; rfl
theorem me_miss {L : List Ent} {n : Int} (h : ∀ e ∈ L, e.n ≠ n) : ∀ e ∈ L.map Ent.me, e.key ≠ .int .i64 n := by
  intro x hx hk
  obtain ⟨e, he, rfl⟩ := List.mem_map.1 hx
  injection hk with _ hk
  exact h e he hk
section
variable (w : World) {ops : Array Oper} {rest : List Oper} {o : Oper} {a : Act} {Q : Exit → Act → World → Prop}
theorem wpList_tape_hit (hg : o.guard = none) (m x : Operand) (hop : o.op = Op.lookup 75 m x false) {mo : Option Nat} {L : List Ent} {c : Nat} (h : MapPart w mo L c) (hm : a.eval m = .map mo) (n : Int) (hx : a.eval x = .int .i64 n) (hn : nameB n = true) {j : Nat} {e : Ent} (hj : L[j]? = some e) (he : e.n = n)
    (hK : wpList Tryz.prog ops Q rest (a.put o.dst (.pointer (some ⟨e.sb, 0, none⟩))) w) : wpList Tryz.prog ops Q (o :: rest) a w := by
  cases mo with
  | none =>
    have h : L = [] := h
    rw [h] at hj
    cases hj
  | some r => exact wpList_look_hit w hg m x 75 false hop keyed Tryz.underlying75 (h : MapIs _ _ w r (L.map Ent.me) c) hm _ _ hx (key_int hn) (me_at hj) (by rw [← he]; rfl) hK
theorem wpList_tape_miss (hg : o.guard = none) (m x : Operand) (hop : o.op = Op.lookup 75 m x false) {mo : Option Nat} {L : List Ent} {c : Nat} (h : MapPart w mo L c) (hm : a.eval m = .map mo) (n : Int) (hx : a.eval x = .int .i64 n) (hn : nameB n = true) (hL : ∀ e ∈ L, e.n ≠ n)
    (hK : wpList Tryz.prog ops Q rest (a.put o.dst (.pointer none)) w) : wpList Tryz.prog ops Q (o :: rest) a w := by
  cases mo with
  | none =>
    refine wpList_plain hg fun K' hK' => ?_
    have hr := Go.Maps.look_nil (w := w) false keyed Tryz.underlying75 (zeroPtr w) (key_int hn)
    unfold Oper.wp
    simp only [execOp, hop, hm, hx, Sem.run_bind, Sem.run_pure, hr, Result.andThen]
    exact hK' _ _ hK
  | some r => exact wpList_look_miss w hg m x 75 false hop keyed Tryz.underlying75 (zeroPtr w) (h : MapIs _ _ w r (L.map Ent.me) c) hm _ _ hx (key_int hn) (me_miss hL) hK
theorem wpList_tape_len (hg : o.guard = none) (m : Operand) (hop : o.op = Op.call { callee := Callee.builtin Builtin.len, args := #[m], argTypes := #[75] }) {mo : Option Nat} {L : List Ent} {c : Nat} (h : MapPart w mo L c) (hm : a.eval m = .map mo)
    (hK : wpList Tryz.prog ops Q rest (a.put o.dst (.int .i64 (L.length : Int))) w) : wpList Tryz.prog ops Q (o :: rest) a w := by
  cases mo with
  | none =>
    have h : L = [] := h
    subst h
    refine wpList_plain hg fun K' hK' => ?_
    have hr := Go.Maps.len_nil (P := Tryz.prog) (w := w) Tryz.underlying75 o.type
    unfold Oper.wp
    simp only [execOp, hop, resolve, invoke, builtin, Sem.run_bind, Sem.run_pure, Result.andThen_ok, List.map_toArray, List.map_cons, List.map_nil, hm, hr]
    exact hK' _ _ hK
  | some r =>
    have := wpList_map_len w hg m 75 hop Tryz.underlying75 (h : MapIs _ _ w r (L.map Ent.me) c) hm (by rw [List.length_map]; exact hK)
    exact this
end
theorem TapeAt.one {w : World} {t : Nat} {T : Tp} (h : TapeAt w t T) {i j : Nat} {a b : Ent} (ha : T.L[i]? = some a) (hb : T.L[j]? = some b) (hn : a.n = b.n) : i = j := by
  have hm := h.map
  cases hT : T.m with
  | none => rw [hT] at hm; rw [show T.L = [] from hm] at ha; cases ha
  | some m =>
    rw [hT] at hm
    exact MapIs.inj (hm : MapIs _ _ w m (T.L.map Ent.me) T.clock) (me_at ha) (me_at hb) (by unfold Ent.me; rw [hn])

/-- What is wrong with a change of that segment, be it there or not. -/
def readyE (T : Tp) (seg : Int) : Int := if nameB seg = false then 2 else if T.down then 8 else 0
set_option maxRecDepth 100000 in
theorem ready_nil {w : World} (seg : Int) : Calls Tryz.prog 57 #[.pointer none, .int .i64 seg] w fun e w' => ∃ v, e = .returned v ∧ ErrP 1 w v w' := by
  have HN := Lib.hid (named_nil (w := w) seg)
  go_enter Tryz.func57, Tryz.ntmps57
  go_wp2_with fail
  refine (HN.out).mono ?_
  rintro e w1 ⟨v1, rfl, h1⟩
  have H1 := Lib.hid h1
  obtain ⟨t, u, rfl⟩ := h1.form (by decide)
  clear h1
  go_wp2
  go_ret
  exact ⟨_, rfl, H1.out⟩
set_option maxRecDepth 100000 in
theorem ready_any {w : World} {t : Nat} {T : Tp} (hT : TapeAt w t T) (seg : Int) : Calls Tryz.prog 57 #[.pointer (some ⟨t, 0, none⟩), .int .i64 seg] w fun e w' => ∃ v, e = .returned v ∧ ErrP (readyE T seg) w v w' := by
  have hc := cell_of hT.head 4
  by_cases hn : nameB seg = false
  · have HN := Lib.hid (named_no (w := w) ⟨t, 0, none⟩ hn)
    have e : readyE T seg = 2 := by unfold readyE; rw [if_pos hn]
    rw [e]
    clear hc hn e
    go_enter Tryz.func57, Tryz.ntmps57
    go_wp2_with fail
    refine (HN.out).mono ?_
    rintro e w1 ⟨v1, rfl, h1⟩
    have H1 := Lib.hid h1
    obtain ⟨t, u, rfl⟩ := h1.form (by decide)
    clear h1
    go_wp2
    go_ret
    exact ⟨_, rfl, H1.out⟩
  · have hn' : nameB seg = true := by cases h : nameB seg <;> simp_all
    have HN := Lib.hid (named_ok (w := w) ⟨t, 0, none⟩ hn')
    by_cases hd : T.down = true
    · have e : readyE T seg = 8 := by unfold readyE; rw [if_neg hn, if_pos hd]
      rw [e]
      have hc' : w.cell? ⟨t, 4, none⟩ = some (.bool true) := by rw [hc, ← hd]; rfl
      have HW := Lib.hid (new_any 8 w)
      clear hc hn hn' e hd
      go_enter Tryz.func57, Tryz.ntmps57
      go_wp2_with fail
      refine (HN.out).mono ?_
      rintro e w1 ⟨rfl, rfl⟩
      go_wp2_with fail
      refine (HW.out).mono ?_
      rintro e w1 ⟨v1, rfl, he1, hb1⟩
      have HA := Lib.hid (at_any seg he1)
      have HB1 := Lib.hid hb1
      clear he1 hb1
      go_wp2_with fail
      refine (HA.out).mono ?_
      rintro e w2 ⟨v2, rfl, he2, hb2⟩
      have H2 : Hid (ErrP 8 w v2 w2) := .of _ he2 (HB1.out.trans (hb2.mono HB1.out.size)) rfl (by simp [newL, onto_cons]) (by decide) (.cons rfl (numOk_one (by decide))) (by simp [newL, onto_cons])
      clear he2 hb2
      go_wp2
      go_ret
      exact ⟨_, rfl, H2.out⟩
    · have hd' : T.down = false := by cases h : T.down <;> simp_all
      have e : readyE T seg = 0 := by unfold readyE; rw [if_neg hn, if_neg hd]
      rw [e]
      have hc' : w.cell? ⟨t, 4, none⟩ = some (.bool false) := by rw [hc, ← hd']; rfl
      clear hc hn hn' e hd hd'
      go_enter Tryz.func57, Tryz.ntmps57
      go_wp2_with fail
      refine (HN.out).mono ?_
      rintro e w1 ⟨rfl, rfl⟩
      go_wp2
      go_ret
      exact ⟨_, rfl, .none _⟩

set_option maxRecDepth 100000 in
theorem look_nil' {w : World} (seg : Int) : Calls Tryz.prog 53 #[.pointer none, .int .i64 seg] w fun e w' => ∃ v, e = .returned (.tuple #[.pointer none, v]) ∧ ErrP 1 w v w' := by
  have HN := Lib.hid (named_nil (w := w) seg)
  go_enter Tryz.func53, Tryz.ntmps53
  go_wp2_with fail
  refine (HN.out).mono ?_
  rintro e w1 ⟨v1, rfl, h1⟩
  have H1 := Lib.hid h1
  obtain ⟨t, u, rfl⟩ := h1.form (by decide)
  clear h1
  go_wp2
  go_ret2
  exact ⟨_, rfl, H1.out⟩
set_option maxRecDepth 100000 in
theorem look_no {w : World} (t : Nat) {seg : Int} (hn : nameB seg = false) : Calls Tryz.prog 53 #[.pointer (some ⟨t, 0, none⟩), .int .i64 seg] w fun e w' => ∃ v, e = .returned (.tuple #[.pointer none, v]) ∧ ErrP 2 w v w' := by
  have HN := Lib.hid (named_no (w := w) ⟨t, 0, none⟩ hn)
  clear hn
  go_enter Tryz.func53, Tryz.ntmps53
  go_wp2_with fail
  refine (HN.out).mono ?_
  rintro e w1 ⟨v1, rfl, h1⟩
  have H1 := Lib.hid h1
  obtain ⟨t, u, rfl⟩ := h1.form (by decide)
  clear h1
  go_wp2
  go_ret2
  exact ⟨_, rfl, H1.out⟩
set_option maxRecDepth 100000 in
theorem look_hit {w : World} {t : Nat} {T : Tp} (hT : TapeAt w t T) {seg : Int} (hn : nameB seg = true) {j : Nat} {e : Ent} (hj : T.L[j]? = some e) (he : e.n = seg) : Calls Tryz.prog 53 #[.pointer (some ⟨t, 0, none⟩), .int .i64 seg] w fun x w' => x = .returned (.tuple #[.pointer (some ⟨e.sb, 0, none⟩), .nilIface]) ∧ w = w' := by
  have HN := Lib.hid (named_ok (w := w) ⟨t, 0, none⟩ hn)
  have hc : w.cell? ⟨t, 0, none⟩ = some (.map T.m) := cell_of hT.head 0
  have HM := Lib.hid hT.map
  have HNN := Lib.hid hn
  have HJ := Lib.hid hj
  have HE := Lib.hid he
  clear hn hj he
  go_enter Tryz.func53, Tryz.ntmps53
  go_wp2_with fail
  refine (HN.out).mono ?_
  rintro x w1 ⟨rfl, rfl⟩
  go_wp2_with (at_lookup; refine wpList_tape_hit _ rfl _ _ rfl HM.out rfl seg rfl HNN.out HJ.out HE.out ?_)
  go_wp2
  go_ret2
  exact ⟨rfl, rfl⟩
set_option maxRecDepth 100000 in
theorem look_miss {w : World} {t : Nat} {T : Tp} (hT : TapeAt w t T) {seg : Int} (hn : nameB seg = true) (hL : ∀ e ∈ T.L, e.n ≠ seg) : Calls Tryz.prog 53 #[.pointer (some ⟨t, 0, none⟩), .int .i64 seg] w fun x w' => ∃ v, x = .returned (.tuple #[.pointer none, v]) ∧ ErrP 3 w v w' := by
  have HN := Lib.hid (named_ok (w := w) ⟨t, 0, none⟩ hn)
  have hc : w.cell? ⟨t, 0, none⟩ = some (.map T.m) := cell_of hT.head 0
  have HM := Lib.hid hT.map
  have HNN := Lib.hid hn
  have HL := Lib.hid hL
  have HW := Lib.hid (new_any 3 w)
  clear hn hL
  go_enter Tryz.func53, Tryz.ntmps53
  go_wp2_with fail
  refine (HN.out).mono ?_
  rintro x w1 ⟨rfl, rfl⟩
  go_wp2_with (at_lookup; refine wpList_tape_miss _ rfl _ _ rfl HM.out rfl seg rfl HNN.out HL.out ?_)
  go_wp2_with fail
  refine (HW.out).mono ?_
  rintro e w1 ⟨v1, rfl, he1, hb1⟩
  have HA := Lib.hid (at_any seg he1)
  have HB1 := Lib.hid hb1
  clear he1 hb1
  go_wp2_with fail
  refine (HA.out).mono ?_
  rintro e w2 ⟨v2, rfl, he2, hb2⟩
  have H2 : Hid (ErrP 3 w v2 w2) := .of _ he2 (HB1.out.trans (hb2.mono HB1.out.size)) rfl (by simp [newL, onto_cons]) (by decide) (.cons rfl (numOk_one (by decide))) (by simp [newL, onto_cons])
  clear he2 hb2
  go_wp2
  go_ret2
  exact ⟨_, rfl, H2.out⟩

set_option maxRecDepth 100000 in
theorem open_nil {w : World} (seg : Int) : Calls Tryz.prog 75 #[.pointer none, .int .i64 seg] w fun e w' => ∃ v, e = .returned (.tuple #[.pointer none, v]) ∧ ErrP 1 w v w' := by
  have HN := Lib.hid (ready_nil (w := w) seg)
  go_enter Tryz.func75, Tryz.ntmps75
  go_wp2_with fail
  refine (HN.out).mono ?_
  rintro e w1 ⟨v1, rfl, h1⟩
  have H1 := Lib.hid h1
  obtain ⟨t, u, rfl⟩ := h1.form (by decide)
  clear h1
  go_wp2
  go_ret2
  exact ⟨_, rfl, H1.out⟩
set_option maxRecDepth 100000 in
theorem open_no {w : World} {t : Nat} {T : Tp} (hT : TapeAt w t T) {seg : Int} (hE : readyE T seg ≠ 0) : Calls Tryz.prog 75 #[.pointer (some ⟨t, 0, none⟩), .int .i64 seg] w fun e w' => ∃ v, e = .returned (.tuple #[.pointer none, v]) ∧ ErrP (readyE T seg) w v w' := by
  have HN := Lib.hid (ready_any hT seg)
  have HE := Lib.hid hE
  clear hE
  go_enter Tryz.func75, Tryz.ntmps75
  go_wp2_with fail
  refine (HN.out).mono ?_
  rintro e w1 ⟨v1, rfl, h1⟩
  have H1 := Lib.hid h1
  obtain ⟨t, u, rfl⟩ := h1.form HE.out
  clear h1
  go_wp2
  go_ret2
  exact ⟨_, rfl, H1.out⟩
theorem readyE_zero {T : Tp} {seg : Int} (h : readyE T seg = 0) : nameB seg = true ∧ T.down = false := by
  unfold readyE at h
  cases h1 : nameB seg <;> cases h2 : T.down <;> simp_all
set_option maxRecDepth 100000 in
theorem open_hit {w : World} {t : Nat} {T : Tp} (hT : TapeAt w t T) {seg : Int} (hE : readyE T seg = 0) {j : Nat} {e : Ent} (hj : T.L[j]? = some e) (he : e.n = seg) : Calls Tryz.prog 75 #[.pointer (some ⟨t, 0, none⟩), .int .i64 seg] w fun x w' => x = .returned (.tuple #[.pointer (some ⟨e.sb, 0, none⟩), .nilIface]) ∧ Below w.heap.size w w' := by
  have HN := Lib.hid (ready_any hT seg)
  have HL := Lib.hid (fun W (hW : Below w.heap.size w W) => look_hit (hT.below hW) (readyE_zero hE).1 hj he)
  rw [hE] at HN
  clear hE hj he
  go_enter Tryz.func75, Tryz.ntmps75
  go_wp2_with fail
  refine (HN.out).mono ?_
  rintro x w1 ⟨v1, rfl, h1⟩
  obtain ⟨rfl, hb⟩ := h1.nil
  have HB := Lib.hid hb
  clear h1 hb
  go_wp2_with fail
  refine (HL.out _ HB.out).mono ?_
  rintro x w2 ⟨rfl, rfl⟩
  go_wp2
  go_ret2
  exact ⟨rfl, HB.out⟩
set_option maxRecDepth 100000 in
theorem open_miss {w : World} {t : Nat} {T : Tp} (hT : TapeAt w t T) {seg : Int} (hE : readyE T seg = 0) (hL : ∀ e ∈ T.L, e.n ≠ seg) : Calls Tryz.prog 75 #[.pointer (some ⟨t, 0, none⟩), .int .i64 seg] w fun x w' => ∃ v, x = .returned (.tuple #[.pointer none, v]) ∧ ErrP 3 w v w' := by
  have HN := Lib.hid (ready_any hT seg)
  have HL := Lib.hid (fun W (hW : Below w.heap.size w W) => look_miss (hT.below hW) (readyE_zero hE).1 hL)
  rw [hE] at HN
  clear hE hL
  go_enter Tryz.func75, Tryz.ntmps75
  go_wp2_with fail
  refine (HN.out).mono ?_
  rintro x w1 ⟨v1, rfl, h1⟩
  obtain ⟨rfl, hb⟩ := h1.nil
  have HB := Lib.hid hb
  clear h1 hb
  go_wp2_with fail
  refine (HL.out _ HB.out).mono ?_
  rintro x w2 ⟨v2, rfl, h2⟩
  have H2 := Lib.hid (h2.after HB.out)
  clear h2
  go_wp2
  go_ret2
  exact ⟨_, rfl, H2.out⟩
end Go.Proofs.YtnegnokielmgkaaGreatDoor
