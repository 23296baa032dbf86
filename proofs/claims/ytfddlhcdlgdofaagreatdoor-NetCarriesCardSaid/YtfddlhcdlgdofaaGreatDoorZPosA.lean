/- Lists of a message wherever they lie, and beside what is turned; slices.Clone of numbers and of operations. The box of requests in memory. -/
import Derived.Test.YtfddlhcdlgdofaaGreatDoorZMegA
import Derived.Test.YtfddlhcdlgdofaaGreatDoorZBasB
set_option linter.unusedSimpArgs false
set_option linter.unusedVariables false
set_option linter.unnecessarySimpa false
namespace Go.Proofs.YtfddlhcdlgdofaaGreatDoor
open Go.RowKit Go.Shelf

theorem NumsAt.touch {S : Nat → Prop} {w w' : World} {A : Option Addr} {n c : Nat} {l : List Int} (h : NumsAt w (.slice A n c) l) (ht : Touch S w w') (hS : l ≠ [] → ∀ a, A = some a → ¬ S a.block) : NumsAt w' (.slice A n c) l := by
  obtain ⟨A', c', e, h1, h2, h3⟩ := h
  refine ⟨A', c', e, h1, h2, fun i x hi => ?_⟩
  obtain ⟨a, q1, q2, q3⟩ := h3 i x hi
  have hA : A = A' := by injection e
  refine ⟨a, q1, Nat.lt_of_lt_of_le q2 ht.size, ?_⟩
  rw [World.cell?_of_block (a := a.add i) (w := w) (w' := w') (by rw [add_block]; exact ht.block _ q2 (hS (by rintro rfl; simp at hi) a (hA.trans q1)))]
  exact q3
theorem OpsAt.touch {S : Nat → Prop} {w w' : World} {A : Option Addr} {n c : Nat} {l : List OpV} (h : OpsAt w (.slice A n c) l) (ht : Touch S w w') (hS : l ≠ [] → ∀ a, A = some a → ¬ S a.block) : OpsAt w' (.slice A n c) l := by
  obtain ⟨A', c', e, h1, h2, h3⟩ := h.form
  refine ⟨A', c', e, h1, h2, fun i x hi => ?_⟩
  obtain ⟨a, q1, q2, q3, q4, q5, q6⟩ := h3 i x hi
  have hA : A = A' := by injection e
  have hk : w'.heap[(a.add (i * 4)).block]? = w.heap[(a.add (i * 4)).block]? := by rw [add_block]; exact ht.block _ q2 (hS (by rintro rfl; simp at hi) a (hA.trans q1))
  refine ⟨a, q1, Nat.lt_of_lt_of_le q2 ht.size, ?_, ?_, ?_, ?_⟩
  · rw [World.cell?_of_block (a := a.add (i * 4)) hk]; exact q3
  · rw [World.cell?_of_block (a := ⟨(a.add (i * 4)).block, (a.add (i * 4)).off + 1, none⟩) hk]; exact q4
  · rw [World.cell?_of_block (a := ⟨(a.add (i * 4)).block, (a.add (i * 4)).off + 2, none⟩) hk]; exact q5
  · rw [World.cell?_of_block (a := ⟨(a.add (i * 4)).block, (a.add (i * 4)).off + 3, none⟩) hk]; exact q6
/-- The cells of numbers. -/
def intC (l : List Int) : List Value := l.map fun x => .int .i64 x
theorem intC_len (l : List Int) : (intC l).length = l.length := List.length_map _
theorem RowIs.nums {w : World} {v : Value} {l : List Int} {n : Nat} (h : RowIs w 1 v n (intC l)) (hl : l.length = n) : NumsAt w v l := by
  subst hl
  obtain ⟨A, cap, rfl, h1, h2, _, h4, h5⟩ := h.form
  refine ⟨A, cap, rfl, h1, h2, fun i x hi => ?_⟩
  obtain ⟨g, hg, hc⟩ := h5 i (.int .i64 x) (by unfold intC; rw [List.getElem?_map, hi]; rfl)
  obtain ⟨g', e, hb⟩ := h4 _ hg
  refine ⟨_, hg, h.lt _ ?_, by rw [add0]; exact hc⟩
  cases e
  exact hb
theorem NumsAt.src {w : World} {v : Value} {l : List Int} (h : NumsAt w v l) : Src Tryz.prog 1 34 v l.length (intC l) w := by
  obtain ⟨A, c, rfl, h1, h2, h3⟩ := h
  cases A with
  | none =>
    have : l = [] := by
      cases l with
      | nil => rfl
      | cons x r => obtain ⟨a, e, _⟩ := h3 0 x rfl; cases e
    subst this
    exact Src.ofNil _ Tryz.underlying34 c
  | some a =>
    refine Src.ofSlice _ Tryz.underlying34 a l.length c (intC l) (by rw [intC_len, Nat.mul_one]) (fun j u hu => ?_) (fun u hu => ?_)
    · unfold intC at hu
      rw [List.getElem?_map] at hu
      cases hx : l[j]? with
      | none => rw [hx] at hu; cases hu
      | some x =>
        rw [hx] at hu
        obtain ⟨a', e, _, q⟩ := h3 j x hx
        cases e
        cases hu
        exact q
    · obtain ⟨x, _, rfl⟩ := List.mem_map.1 hu
      rfl
theorem opC_get {l : List OpV} : ∀ {j : Nat} {u : Value}, (opC l)[j]? = some u → ∃ (i k : Nat) (o : OpV), l[i]? = some o ∧ j = i * 4 + k ∧ ((k = 0 ∧ u = .int .i64 o.k) ∨ (k = 1 ∧ u = .string o.s) ∨ (k = 2 ∧ u = .int .i64 o.n) ∨ (k = 3 ∧ u = .int .i64 o.lo)) := by
  induction l with
  | nil => intro j u h; simp [opC] at h
  | cons o r ih =>
    intro j u h
    have e : opC (o :: r) = [.int .i64 o.k, .string o.s, .int .i64 o.n, .int .i64 o.lo] ++ opC r := by simp [opC]
    rw [e] at h
    match j, h with
    | 0, h => exact ⟨0, 0, o, rfl, rfl, .inl ⟨rfl, (by simpa using h.symm)⟩⟩
    | 1, h => exact ⟨0, 1, o, rfl, rfl, .inr (.inl ⟨rfl, (by simpa using h.symm)⟩)⟩
    | 2, h => exact ⟨0, 2, o, rfl, rfl, .inr (.inr (.inl ⟨rfl, (by simpa using h.symm)⟩))⟩
    | 3, h => exact ⟨0, 3, o, rfl, rfl, .inr (.inr (.inr ⟨rfl, (by simpa using h.symm)⟩))⟩
    | j + 4, h =>
      rw [List.getElem?_append_right (by simp)] at h
      obtain ⟨i, k, o', h1, h2, h3⟩ := ih (by simpa using h)
      exact ⟨i + 1, k, o', by simpa using h1, by omega, h3⟩
theorem add_more (a : Addr) (i k : Nat) (hk : k ≠ 0) : a.add (i + k) = ⟨(a.add i).block, (a.add i).off + k, none⟩ := by
  unfold Addr.add
  rw [if_neg (by omega)]
  by_cases h : i = 0
  · subst h; simp
  · rw [if_neg h]; simp [Nat.add_assoc]
theorem opC_one (l : List OpV) : ∀ u ∈ opC l, u.oneCell' = true := by
  intro u hu
  obtain ⟨o, _, h⟩ := List.mem_flatMap.1 hu
  simp only [List.mem_cons, List.not_mem_nil, or_false] at h
  rcases h with rfl | rfl | rfl | rfl <;> rfl
theorem OpsAt.src {w : World} {v : Value} {l : List OpV} (h : OpsAt w v l) : Src Tryz.prog 4 35 v l.length (opC l) w := by
  obtain ⟨A, c, rfl, h1, h2, h3⟩ := h.form
  cases A with
  | none =>
    have : l = [] := by
      cases l with
      | nil => rfl
      | cons x r => obtain ⟨a, e, _⟩ := h3 0 x rfl; cases e
    subst this
    exact Src.ofNil _ Tryz.underlying35 c
  | some a =>
    refine Src.ofSlice _ Tryz.underlying35 a l.length c (opC l) (opC_len l) (fun j u hu => ?_) (opC_one l)
    obtain ⟨i, k, o, hi, rfl, hk⟩ := opC_get hu
    obtain ⟨a', e, _, q0, q1, q2, q3⟩ := h3 i o hi
    cases e
    rcases hk with ⟨rfl, rfl⟩ | ⟨rfl, rfl⟩ | ⟨rfl, rfl⟩ | ⟨rfl, rfl⟩
    · exact q0
    · rw [add_more _ _ _ (by decide)]; exact q1
    · rw [add_more _ _ _ (by decide)]; exact q2
    · rw [add_more _ _ _ (by decide)]; exact q3
set_option maxRecDepth 100000 in
set_option maxHeartbeats 4000000 in
/-- slices.Clone of numbers. -/
theorem clone_nums {w : World} {v : Value} {l : List Int} (h : NumsAt w v l) (hl : l.length ≤ 1000000) :
    Calls Tryz.prog 125 #[v] w fun e w' => ∃ v', e = .returned v' ∧ RowIs w' 1 v' l.length (intC l) ∧ (∀ b, v'.ownBlock = some b → w.heap.size ≤ b) ∧ Below w.heap.size w w' := by
  have hsrc := (h.below (below_new (w := w) (.cells #[] 2))).src
  obtain ⟨A, c, rfl, hc1, hc2, h3⟩ := h
  have q22 : ∀ (w : World) (a : Option Addr) (n c n' c' : Nat), (binOp .eql 34 (.slice a n c) (.slice none n' c')).run Tryz.prog w = .ok (.bool a.isNone) w := fun w a n c n' c' => Lib.run_eql_slice_nil w _ _ a n c n' c' Tryz.underlying34
  cases A with
  | none =>
    have : l = [] := by
      cases l with
      | nil => rfl
      | cons x r => obtain ⟨a, e, _⟩ := h3 0 x rfl; cases e
    subst this
    clear h3 hsrc
    go_enter Tryz.func125, Tryz.ntmps125
    go_wp2_with fail
    go_ret
    exact ⟨_, rfl, RowIs.nil _ _, (fun b e => by cases e), Below.refl _ _⟩
  | some a =>
    have hb1 := below_new (w := w) (.cells #[] 2)
    have hat := alloc_at w (.cells #[] 2)
    have hrow0 : RowIs (w.alloc (.cells #[] 2)) 1 (.slice (some ⟨w.heap.size, 0, none⟩) 0 0) 0 [] := .inr ⟨w.heap.size, 0, rfl, rfl, Nat.le_refl _, heap_lt hat, Nat.zero_le _, by unfold maxLen; omega, fun j u hj => by simp at hj, fun j hj => by omega⟩
    obtain ⟨v1, w1, hr1, h2, h3, h4⟩ := run_append_row (w.alloc (.cells #[] 2)) 34 2 34 34 Tryz.underlying34 infoI rfl (by omega) (by omega) _ 0 l.length [] (intC l) _ hrow0 hsrc (by omega)
    rw [Nat.zero_add, List.nil_append] at h2
    have hown : ∀ k, v1.ownBlock = some k → w.heap.size ≤ k := fun k e => by
      rcases h4 with e2 | e2
      · rw [e2] at e
        have e : w.heap.size = k := Option.some.inj e
        omega
      · rw [e] at e2
        injection e2 with e2
        rw [asz] at e2
        omega
    have hbB : Below w.heap.size w w1 := hb1.trans (((Touch.refl (fun k => (Value.slice (some ⟨w.heap.size, 0, none⟩) 0 0).ownBlock = some k) _).grown h3 (fun k e _ => e)).below (fun i e => by have e : w.heap.size = i := Option.some.inj e; omega) hb1.size)
    obtain ⟨A1, c1, rfl, _⟩ := id h2.form
    unfold maxLen at hc2
    have HF := Lib.hid (And.intro h2 (And.intro hown hbB))
    clear h2 hown hbB h3 h4 hrow0 hat hb1 hsrc
    go_enter Tryz.func125, Tryz.ntmps125
    go_wp2_with (at_builtin; refine wpList_app_run rfl _ _ _ _ rfl rfl rfl hr1 ?_)
    go_ret
    exact ⟨_, rfl, HF.out.1, HF.out.2.1, HF.out.2.2⟩
set_option maxRecDepth 100000 in
set_option maxHeartbeats 4000000 in
/-- slices.Clone of operations. -/
theorem clone_ops {w : World} {v : Value} {l : List OpV} (h : OpsAt w v l) (hl : l.length ≤ 1000000) :
    Calls Tryz.prog 126 #[v] w fun e w' => ∃ v', e = .returned v' ∧ RowIs w' 4 v' l.length (opC l) ∧ (∀ b, v'.ownBlock = some b → w.heap.size ≤ b) ∧ Below w.heap.size w w' := by
  have hsrc := (h.below (below_new (w := w) (.cells #[] 168))).src
  obtain ⟨A, c, rfl, hc1, hc2, h3⟩ := h.form
  have q22 : ∀ (w : World) (a : Option Addr) (n c n' c' : Nat), (binOp .eql 35 (.slice a n c) (.slice none n' c')).run Tryz.prog w = .ok (.bool a.isNone) w := fun w a n c n' c' => Lib.run_eql_slice_nil w _ _ a n c n' c' Tryz.underlying35
  cases A with
  | none =>
    have : l = [] := by
      cases l with
      | nil => rfl
      | cons x r => obtain ⟨a, e, _⟩ := h3 0 x rfl; cases e
    subst this
    clear h3 hsrc h
    go_enter Tryz.func126, Tryz.ntmps126
    go_wp2_with fail
    go_ret
    exact ⟨_, rfl, RowIs.nil _ _, (fun b e => by cases e), Below.refl _ _⟩
  | some a =>
    have hb1 := below_new (w := w) (.cells #[] 168)
    have hat := alloc_at w (.cells #[] 168)
    have hrow0 : RowIs (w.alloc (.cells #[] 168)) 4 (.slice (some ⟨w.heap.size, 0, none⟩) 0 0) 0 [] := .inr ⟨w.heap.size, 0, rfl, rfl, Nat.le_refl _, heap_lt hat, Nat.zero_le _, by unfold maxLen; omega, fun j u hj => by simp at hj, fun j hj => by omega⟩
    obtain ⟨v1, w1, hr1, h2, h3, h4⟩ := run_append_row (w.alloc (.cells #[] 168)) 35 168 35 35 Tryz.underlying35 infoO rfl (by omega) (by omega) _ 0 l.length [] (opC l) _ hrow0 hsrc (by omega)
    rw [Nat.zero_add, List.nil_append] at h2
    have hown : ∀ k, v1.ownBlock = some k → w.heap.size ≤ k := fun k e => by
      rcases h4 with e2 | e2
      · rw [e2] at e
        have e : w.heap.size = k := Option.some.inj e
        omega
      · rw [e] at e2
        injection e2 with e2
        rw [asz] at e2
        omega
    have hbB : Below w.heap.size w w1 := hb1.trans (((Touch.refl (fun k => (Value.slice (some ⟨w.heap.size, 0, none⟩) 0 0).ownBlock = some k) _).grown h3 (fun k e _ => e)).below (fun i e => by have e : w.heap.size = i := Option.some.inj e; omega) hb1.size)
    obtain ⟨A1, c1, rfl, _⟩ := id h2.form
    unfold maxLen at hc2
    have HF := Lib.hid (And.intro h2 (And.intro hown hbB))
    clear h2 hown hbB h3 h4 hrow0 hat hb1 hsrc h
    go_enter Tryz.func126, Tryz.ntmps126
    go_wp2_with (at_builtin; refine wpList_app_run rfl _ _ _ _ rfl rfl rfl hr1 ?_)
    go_ret
    exact ⟨_, rfl, HF.out.1, HF.out.2.1, HF.out.2.2⟩
end Go.Proofs.YtfddlhcdlgdofaaGreatDoor

namespace Go.Proofs.YtfddlhcdlgdofaaGreatDoor
open Go.RowKit Go.Shelf
open Go.Maps (Keyed)

/-- A request: its message, where it lies, and when it was sent. -/
structure Rq where
  m : MsgV
  tA : Option Addr
  tc : Nat
  oA : Option Addr
  oc : Nat
  sent : Bool
  last : Int
  rb : Nat
  born : Nat
def Rq.cells (e : Rq) : Array Value := #[.int .i64 e.m.kd, .int .i64 e.m.fr, .int .i64 e.m.tt, .int .i64 e.m.g, .int .i64 e.m.nd, .int .i64 e.m.tr, .int .i64 e.m.lw, .int .i64 e.m.co, .int .i64 e.m.ti, .slice e.tA e.m.tl.length e.tc, .slice e.oA e.m.os.length e.oc, .bool e.sent, .int .i64 e.last]
def Rq.me (e : Rq) : MapEntry := ⟨.int .i64 e.m.g, .pointer (some ⟨e.rb, 0, none⟩), e.born⟩
/-- A box: every so many ticks, its map, the requests, and the blocks R in which these lie. -/
structure BoxAt (w : World) (b mp : Nat) (ev : Int) (L : List Rq) (c : Nat) (R : Nat → Prop) : Prop where
  head : w.heap[b]? = some (.cells #[.int .i64 ev, .map (some mp)] 143 (0, 0))
  map : MapIs Tryz.prog 3 w mp (L.map Rq.me) c
  req : ∀ e ∈ L, w.heap[e.rb]? = some (.cells e.cells 155 (0, 0))
  tl : ∀ e ∈ L, NumsAt w (.slice e.tA e.m.tl.length e.tc) e.m.tl
  os : ∀ e ∈ L, OpsAt w (.slice e.oA e.m.os.length e.oc) e.m.os
  keys : ∀ e ∈ L, KeysIn e.m.os
  may : ∀ e ∈ L, mayM e.m = true
  farT : ∀ e ∈ L, e.m.tl ≠ [] → ∀ a, e.tA = some a → ¬ R a.block ∧ a.block ≠ mp
  farO : ∀ e ∈ L, e.m.os ≠ [] → ∀ a, e.oA = some a → ¬ R a.block ∧ a.block ≠ mp
  inR : ∀ e ∈ L, R e.rb
  ltR : ∀ k, R k → k < w.heap.size
  offR : ¬ R mp ∧ ¬ R b ∧ b ≠ mp
  one : ∀ (i j : Nat) (x y : Rq), L[i]? = some x → L[j]? = some y → x.rb = y.rb → i = j
/-- What a call of a box may turn. -/
def Own (mp : Nat) (R : Nat → Prop) (k : Nat) : Prop := k = mp ∨ R k

section
variable {w w' : World} {b mp : Nat} {ev : Int} {L : List Rq} {c : Nat} {R : Nat → Prop}
theorem BoxAt.keep (h : BoxAt w b mp ev L c R) {S : Nat → Prop} (ht : Touch S w w') (hb : ¬ S b) (hm : ¬ S mp) (hR : ∀ k, R k → ¬ S k) (hT : ∀ e ∈ L, e.m.tl ≠ [] → ∀ a, e.tA = some a → ¬ S a.block) (hO : ∀ e ∈ L, e.m.os ≠ [] → ∀ a, e.oA = some a → ¬ S a.block) : BoxAt w' b mp ev L c R where
  head := (ht.block b (heap_lt h.head) hb).trans h.head
  map := h.map.keep (ht.block mp h.map.lt hm)
  req := fun e he => (ht.block _ (heap_lt (h.req e he)) (hR _ (h.inR e he))).trans (h.req e he)
  tl := fun e he => (h.tl e he).touch ht (hT e he)
  os := fun e he => (h.os e he).touch ht (hO e he)
  keys := h.keys
  may := h.may
  farT := h.farT
  farO := h.farO
  inR := h.inR
  ltR := fun k hk => Nat.lt_of_lt_of_le (h.ltR k hk) ht.size
  offR := h.offR
  one := h.one
theorem BoxAt.below (h : BoxAt w b mp ev L c R) (hb : Below w.heap.size w w') : BoxAt w' b mp ev L c R :=
  h.keep (S := fun _ => False) (.of_below hb) id id (fun _ _ => id) (fun _ _ _ _ _ => id) (fun _ _ _ _ _ => id)
theorem BoxAt.glob (h : BoxAt w b mp ev L c R) (hG : Glob w) : mp ≠ 1 := by
  rintro rfl
  have := h.map.at_
  unfold Glob World.cell? at hG
  rw [this] at hG
  cases hG
theorem mayM_g {m : MsgV} (h : mayM m = true) : 0 ≤ m.g ∧ m.g ≤ 1048576 := (mayM_fits h).g
theorem keyedP : Keyed Tryz.prog 3 := Go.Maps.int_keyed Tryz.underlying3
theorem zeroReq (w : World) : (zeroValue 150).run Tryz.prog w = .ok (.pointer none) w := by kernel_rfl
theorem key_g {n : Int} (h0 : -9223372036854775808 ≤ n) (h1 : n ≤ 9223372036854775807) : keyOf Tryz.prog 3 (.int .i64 n) = some (.int .i64 n) := by
  refine Go.Maps.keyOf_int_mk Tryz.underlying3 ?_
  have e1 : IntKind.i64.min = -9223372036854775808 := by decide
  have e2 : IntKind.i64.max = 9223372036854775807 := by decide
  simp [Lit.wf, e1, e2]
  omega
theorem rq_cases (L : List Rq) (n : Int) : (∃ (j : Nat) (e : Rq), L[j]? = some e ∧ e.m.g = n) ∨ ∀ e ∈ L, e.m.g ≠ n := by
  by_cases h : ∃ e ∈ L, e.m.g = n
  · obtain ⟨e, he, hn⟩ := h
    obtain ⟨j, hj⟩ := List.getElem?_of_mem he
    exact .inl ⟨j, e, hj, hn⟩
  · exact .inr fun e he hn => h ⟨e, he, hn⟩
theorem rme_at {j : Nat} {e : Rq} (h : L[j]? = some e) : (L.map Rq.me)[j]? = some e.me := by rw [List.getElem?_map, h]; rfl
theorem rme_miss {n : Int} (h : ∀ e ∈ L, e.m.g ≠ n) : ∀ e ∈ L.map Rq.me, e.key ≠ .int .i64 n := by
  intro x hx hk
  obtain ⟨e, he, rfl⟩ := List.mem_map.1 hx
  injection hk with _ hk
  exact h e he hk
theorem BoxAt.inj (h : BoxAt w b mp ev L c R) {i j : Nat} {x y : Rq} (hx : L[i]? = some x) (hy : L[j]? = some y) (hg : x.m.g = y.m.g) : i = j :=
  h.map.inj (rme_at hx) (rme_at hy) (by unfold Rq.me; rw [hg])
end
/-! look-ups, at the operation -/
section
variable (w : World) {ops : Array Oper} {rest : List Oper} {o : Oper} {a : Act} {Q : Exit → Act → World → Prop} {b mp : Nat} {ev : Int} {L : List Rq} {c : Nat} {R : Nat → Prop}
theorem wpList_box_hit (hg : o.guard = none) (m x : Operand) (hop : o.op = Op.lookup 141 m x false) (h : BoxAt w b mp ev L c R) (hm : a.eval m = .map (some mp)) (n : Int) (hx : a.eval x = .int .i64 n) {j : Nat} {e : Rq} (hj : L[j]? = some e) (he : e.m.g = n)
    (hK : wpList Tryz.prog ops Q rest (a.put o.dst (.pointer (some ⟨e.rb, 0, none⟩))) w) : wpList Tryz.prog ops Q (o :: rest) a w := by
  have hb := mayM_g (h.may e (List.mem_of_getElem? hj))
  exact wpList_look_hit w hg m x 141 false hop keyedP Tryz.underlying141 h.map hm _ _ hx (key_g (by omega) (by omega)) (rme_at hj) (by rw [← he]; rfl) hK
theorem wpList_box_miss (hg : o.guard = none) (m x : Operand) (hop : o.op = Op.lookup 141 m x false) (h : BoxAt w b mp ev L c R) (hm : a.eval m = .map (some mp)) (n : Int) (hx : a.eval x = .int .i64 n) (h0 : -9223372036854775808 ≤ n) (h1 : n ≤ 9223372036854775807) (hL : ∀ e ∈ L, e.m.g ≠ n)
    (hK : wpList Tryz.prog ops Q rest (a.put o.dst (.pointer none)) w) : wpList Tryz.prog ops Q (o :: rest) a w :=
  wpList_look_miss w hg m x 141 false hop keyedP Tryz.underlying141 (zeroReq w) h.map hm _ _ hx (key_g h0 h1) (rme_miss hL) hK
end
/-! none, within -/
set_option maxRecDepth 100000 in
theorem pnone_nil (w : World) : Calls Tryz.prog 85 #[.pointer none] w fun e w' => e = .returned (.bool true) ∧ w' = w := by
  go_enter Tryz.func85, Tryz.ntmps85
  go_wp2
  go_ret
  exact ⟨rfl, rfl⟩
set_option maxRecDepth 100000 in
theorem pnone_any {w : World} {b : Nat} {x : Value} {mp : Nat} {T : TypeId} {fr : Nat × Nat} (h : w.heap[b]? = some (.cells #[x, .map (some mp)] T fr)) : Calls Tryz.prog 85 #[.pointer (some ⟨b, 0, none⟩)] w fun e w' => e = .returned (.bool false) ∧ w' = w := by
  have hc : w.cell? ⟨b, 1, none⟩ = some (.map (some mp)) := cell_of h 1
  have qT : ∀ (w : World), (binOp .eql 141 (.map (some mp)) (.map none)).run Tryz.prog w = .ok (.bool false) w := fun w => run_eql_map_nil w _ _ _ (some mp) Tryz.underlying141
  clear h
  go_enter Tryz.func85, Tryz.ntmps85
  go_wp2
  go_ret
  exact ⟨rfl, rfl⟩
set_option maxRecDepth 100000 in
theorem pwithin_ok {w : World} {lo hi n : Int} (h1 : lo ≤ n) (h2 : n ≤ hi) : Calls Tryz.prog 79 #[.int .i64 lo, .int .i64 hi, .int .i64 n] w fun e w' => e = .returned .nilIface ∧ w' = w := by
  have HN := Lib.hid (new_num 2 (by decide) w)
  have q1 : decide (n < lo) = false := by simp; omega
  have q2 : decide (n > hi) = false := by simp; omega
  clear h1 h2
  go_enter Tryz.func79, Tryz.ntmps79
  go_wp2_with fail
  refine (HN.out).mono ?_
  rintro e w1 ⟨rfl, rfl⟩
  go_wp2
  go_ret
  exact ⟨rfl, rfl⟩
/-- An error of a number, wrapped somehow: not nil, and what it tells. -/
def ErrQ (n : Int) (w : World) (v : Value) (w' : World) : Prop := (∃ t u, v = .iface t u) ∧ (∃ ch, ErrIs w' ch v ∧ NumOk ch ∧ ch.length < 900 ∧ codeOf ch = n) ∧ Below w.heap.size w w'
set_option maxRecDepth 100000 in
theorem pwithin_no {w : World} {lo hi n : Int} (h : ¬ (lo ≤ n ∧ n ≤ hi)) : Calls Tryz.prog 79 #[.int .i64 lo, .int .i64 hi, .int .i64 n] w fun e w' => ∃ v, e = .returned v ∧ ErrQ 2 w v w' := by
  have HN := Lib.hid (new_num 2 (by decide) w)
  have hE : ErrIs w [.num 2] (.iface 159 (.agg #[.int .i64 2])) := ⟨rfl, rfl⟩
  by_cases hlt : n < lo
  · have q1 : decide (n < lo) = true := by simp; omega
    have HB := Lib.hid (bound_some lo n 159 (.agg #[.int .i64 2]) w)
    clear h hlt
    go_enter Tryz.func79, Tryz.ntmps79
    go_wp2_with fail
    refine (HN.out).mono ?_
    rintro e w1 ⟨rfl, rfl⟩
    go_wp2_with fail
    refine (HB.out).mono ?_
    rintro e w2 ⟨rfl, rfl⟩
    go_wp2
    go_ret
    exact ⟨_, rfl, ⟨_, _, rfl⟩, ⟨[.bnd lo n, .num 2], ⟨by simp, _, _, rfl, alloc_at _ _, rfl, rfl⟩, numOk_cons (by simp) (numOk_one (by decide)), by simp, rfl⟩, below_new _⟩
  · have q1 : decide (n < lo) = false := by simp; omega
    have q2 : decide (n > hi) = true := by simp; omega
    have HB := Lib.hid (bound_some hi n 159 (.agg #[.int .i64 2]) w)
    clear h hlt
    go_enter Tryz.func79, Tryz.ntmps79
    go_wp2_with fail
    refine (HN.out).mono ?_
    rintro e w1 ⟨rfl, rfl⟩
    go_wp2_with fail
    refine (HB.out).mono ?_
    rintro e w2 ⟨rfl, rfl⟩
    go_wp2
    go_ret
    exact ⟨_, rfl, ⟨_, _, rfl⟩, ⟨[.bnd hi n, .num 2], ⟨by simp, _, _, rfl, alloc_at _ _, rfl, rfl⟩, numOk_cons (by simp) (numOk_one (by decide)), by simp, rfl⟩, below_new _⟩
end Go.Proofs.YtfddlhcdlgdofaaGreatDoor
