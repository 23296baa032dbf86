/- fault.ask at every chain, for each of the four kinds. -/
import Derived.Test.YtkkfgdibficifaaDoorZEoC
set_option linter.unusedSimpArgs false
set_option linter.unusedVariables false
namespace Go.Proofs.YtkkfgdibficifaaDoor
open Go.RowKit

theorem Only.below_new {bt : Nat} {W W2 w1 : World} (hb : Below W.heap.size W W2) (hbt : W.heap.size ≤ bt) (h : Only bt W2 w1) : Below W.heap.size W w1 :=
  ⟨h.os.trans hb.os, h.tape.trans hb.tape, h.output.trans hb.output, Nat.le_trans hb.size h.size, fun k hk => (h.block k (Nat.lt_of_lt_of_le hk hb.size) (by omega)).trans (hb.block k hk)⟩
theorem two_cells {w1 : World} {a b : Nat} (hab : a ≠ b) {x y : Value} (x' y' : Value) (ha : w1.cell? ⟨a, 0, none⟩ = some x) (hb : w1.cell? ⟨b, 0, none⟩ = some y) :
    ((w1.setCell ⟨a, 0, none⟩ x').setCell ⟨b, 0, none⟩ y').cell? ⟨a, 0, none⟩ = some x' ∧ ((w1.setCell ⟨a, 0, none⟩ x').setCell ⟨b, 0, none⟩ y').cell? ⟨b, 0, none⟩ = some y' := by
  have hne : (⟨a, 0, none⟩ : Addr) ≠ ⟨b, 0, none⟩ := fun h => by injection h; exact hab ‹_›
  exact ⟨(World.cell?_setCell_other _ _ _ _ (Ne.symm hne)).trans (World.cell?_setCell_same _ _ _ ha), World.cell?_setCell_same _ _ _ ((World.cell?_setCell_other _ _ _ _ hne).trans hb)⟩
/-- What ask and find answer. -/
def AskPost (q : Lk → Bool) (c : List Lk) (w W : World) (ET : TypeId) (zero : Value) (e : Ending) (w' : World) : Prop :=
  Below W.heap.size W w' ∧
  match hit q c with
  | [] => e = .returned (.tuple #[zero, .bool false])
  | k :: r => ∃ u, ErrIs w (k :: r) (.iface ET u) ∧ e = .returned (.tuple #[u, .bool true])

theorem inv84 {w : World} {k : Lk} {r : List Lk} {u : Value} (h : ErrIs w (k :: r) (.iface 75 u)) : ∃ e, k = .num e ∧ r = [] ∧ u = .agg #[.int .i64 e] := by
  cases k with
  | num e => obtain ⟨rfl, h⟩ := h; injection h with _ h; exact ⟨e, rfl, rfl, h⟩
  | nam p => obtain ⟨_, b, x, h, _⟩ := h; injection h with h _; exact absurd h (by decide)
  | bnd l g => obtain ⟨_, b, x, h, _⟩ := h; injection h with h _; exact absurd h (by decide)
theorem inv94 {w : World} {k : Lk} {r : List Lk} {u : Value} (h : ErrIs w (k :: r) (.iface 92 u)) : ∃ p b x, k = .nam p ∧ u = .pointer (some ⟨b, 0, none⟩) ∧ w.heap[b]? = some (.cells #[x, .string p] 96 (0, 0)) ∧ ErrIs w r x := by
  cases k with
  | num e => obtain ⟨rfl, h⟩ := h; injection h with h _; exact absurd h (by decide)
  | nam p => obtain ⟨_, b, x, h, hb, hx⟩ := h; injection h with _ h; exact ⟨p, b, x, rfl, h, hb, hx⟩
  | bnd l g => obtain ⟨_, b, x, h, _⟩ := h; injection h with h _; exact absurd h (by decide)
theorem inv76 {w : World} {k : Lk} {r : List Lk} {u : Value} (h : ErrIs w (k :: r) (.iface 98 u)) : ∃ l g b x, k = .bnd l g ∧ u = .pointer (some ⟨b, 0, none⟩) ∧ w.heap[b]? = some (.cells #[x, .int .i64 l, .int .i64 g] 100 (0, 0)) ∧ ErrIs w r x := by
  cases k with
  | num e => obtain ⟨rfl, h⟩ := h; injection h with h _; exact absurd h (by decide)
  | nam p => obtain ⟨_, b, x, h, _⟩ := h; injection h with h _; exact absurd h (by decide)
  | bnd l g => obtain ⟨_, b, x, h, hb, hx⟩ := h; injection h with _ h; exact ⟨l, g, b, x, rfl, h, hb, hx⟩
theorem heap_size_alloc_cells (w : World) (cs : Array Value) (t : TypeId) : (w.alloc (.cells cs t)).heap.size = w.heap.size + 1 := by simp
/-- No number of the chain is 0. -/
def NumOk (c : List Lk) : Prop := ∀ e, Lk.num e ∈ c → e ≠ 0
theorem hit_mem {q : Lk → Bool} {c : List Lk} {k : Lk} {r : List Lk} (h : hit q c = k :: r) : k ∈ c ∧ q k = true := by
  induction c with
  | nil => cases h
  | cons x l ih =>
    unfold hit at h
    cases hq : q x with
    | true => rw [hq] at h; injection h with h1 h2; subst h1; exact ⟨List.mem_cons_self, hq⟩
    | false => rw [hq] at h; exact ⟨List.mem_cons_of_mem _ (ih h).1, (ih h).2⟩


theorem idle_num (a b c : Addr) (w : World) :
    CallsD Tryd.prog 56 #[.pointer (some a), .pointer (some b), .pointer (some c)] .returning w fun e u' w' => e = .returned (.tuple #[]) ∧ u' = .returning ∧ w' = w := by
  refine callsD_of_wpS Tryd.func56 rfl fun c₀ cs hu => ?_
  apply wpS_seq
  apply wpS_region
  simp [wpOpsS, go_sem, recoverD, hu, Tryd.ntmps56, Exit.thenS]
  refine wpS_cond (t := false) (by simp [Act.eval, Array.replicate]) ?_
  simp only [Bool.false_eq_true, if_false]
  refine wpS_of_wp (wp_skip ?_)
  cases c₀
  simp_all [bodyPostS, results, Tryd.results56]

set_option maxRecDepth 100000 in
set_option maxHeartbeats 1000000 in
theorem ask_num {w W : World} {c : List Lk} {v : Value} (hG : Glob w) (h : ErrIs w c v) (hz : NumOk c) (hW : Below w.heap.size w W) :
    Calls Tryd.prog 49 #[v] W (AskPost Lk.isNum c w W 75 (.agg #[.int .i64 0])) := by
  have hmf : ∀ (fn : Fn) (first cap : Array Value) (w : World), (Instr.makeFunc fn first cap).run Tryd.prog w = .ok (.func fn first cap) w := fun _ _ _ _ => rfl
  have hb1 : Below W.heap.size W (((W.alloc (.cells #[(.int .i64 0)] 75)).alloc (.cells #[.bool false] 4)).alloc (.cells #[(.int .i64 0)] 75)) :=
    (((Below.refl _ _).alloc (Nat.le_refl _) _).alloc (by simp) _).alloc (by simp; omega) _
  have HA := Lib.hid (errAs_num (bt := W.heap.size) hG h (hW.trans (hb1.mono hW.size)) (block_alloc (block_alloc (heap_alloc_new W _))))
  have HB1 := Lib.hid hb1
  have HE := Lib.hid h
  clear hb1 h hW hG
  go_enter_defers Tryd.func49, Tryd.ntmps49
  go_wp2_with fail
  refine (HA.out).mono ?_
  rintro e w1 ⟨ho, hp⟩
  have b1 : w1.heap[W.heap.size + 1]? = some (.cells #[.bool false] 4 (0, 0)) := (ho.block _ (by simp) (by omega)).trans (block_alloc (by rw [← heap_size_alloc_cells W #[(.int .i64 0)] 75]; exact heap_alloc_new _ _))
  have b2 : w1.heap[W.heap.size + 1 + 1]? = some (.cells #[(.int .i64 0)] 75 (0, 0)) := (ho.block _ (by simp) (by omega)).trans (by rw [← heap_size_alloc_cells W #[(.int .i64 0)] 75, ← heap_size_alloc_cells _ #[.bool false] 4]; exact heap_alloc_new _ _)
  have c1 := cell_of_row w1 (W.heap.size + 1) 0 _ _ _ b1
  have c2 := cell_of_row w1 (W.heap.size + 1 + 1) 0 _ _ _ b2
  have f1 := free0 b1 0
  have f2 := free0 b2 0
  simp at c1 c2
  have HO := Lib.hid ho
  clear ho b1 b2
  cases hh : hit Lk.isNum c with
  | nil =>
    rw [hh] at hp
    obtain ⟨rfl, hb⟩ := hp
    have c0 := cell_of_row w1 W.heap.size 0 _ _ _ hb
    have f0 := free0 hb 0
    simp at c0
    have HH := Lib.hid hh
    clear hb hh
    go_wp2
    refine leaves_cons (f := 56) (args := #[.pointer (some ⟨W.heap.size + 1 + 1, 0, none⟩), .pointer (some ⟨W.heap.size, 0, none⟩), .pointer (some ⟨W.heap.size + 1, 0, none⟩)]) (by simp) (by simp [go_sem]) ?_
    refine (idle_num _ _ _ _).mono ?_
    rintro e u' w'' ⟨rfl, rfl, rfl⟩
    refine ⟨_, ?_, ((Only.below_new HB1.out (Nat.le_refl _) HO.out).setCell (Nat.le_refl _) _).setCell (by simp) _, by rw [HH.out]⟩
    simp [results, Tryd.results49, go_sem, (two_cells (Nat.ne_of_lt (Nat.lt_succ_self W.heap.size)) _ _ c0 c1).1, (two_cells (Nat.ne_of_lt (Nat.lt_succ_self W.heap.size)) _ _ c0 c1).2]
  | cons k r =>
    rw [hh] at hp
    obtain ⟨rfl, u, y, hu, hy, hb⟩ := hp
    obtain ⟨e, rfl, rfl, rfl⟩ := inv84 hu
    have he0 : e ≠ 0 := hz e (hit_mem hh).1
    have heq : (e == 0) = false := beq_eq_false_iff_ne.2 he0
    clear he0
    simp [Value.cells] at hy
    subst hy
    have c0 := cell_of_row w1 W.heap.size 0 _ _ _ hb
    have f0 := free0 hb 0
    simp at c0
    have HH := Lib.hid hh
    have HU := Lib.hid hu
    clear hb hh hu
    go_wp2
    refine leaves_cons (f := 56) (args := #[.pointer (some ⟨W.heap.size + 1 + 1, 0, none⟩), .pointer (some ⟨W.heap.size, 0, none⟩), .pointer (some ⟨W.heap.size + 1, 0, none⟩)]) (by simp) (by simp [go_sem]) ?_
    refine (idle_num _ _ _ _).mono ?_
    rintro e u' w'' ⟨rfl, rfl, rfl⟩
    refine ⟨_, ?_, ((Only.below_new HB1.out (Nat.le_refl _) HO.out).setCell (Nat.le_refl _) _).setCell (by simp) _, by rw [HH.out]; exact ⟨_, HU.out, rfl⟩⟩
    simp [results, Tryd.results49, go_sem, (two_cells (Nat.ne_of_lt (Nat.lt_succ_self W.heap.size)) _ _ c0 c1).1, (two_cells (Nat.ne_of_lt (Nat.lt_succ_self W.heap.size)) _ _ c0 c1).2]


end Go.Proofs.YtkkfgdibficifaaDoor
