/- What Order keeps in memory: how many each one owes, a queue of those that may be next, and what was put. Order: all that are there, nobody ahead of one for whom it waits. -/
import Derived.Test.YtlbhpeeggbfcpaaZWaiU
import Derived.Test.YtlbhpeeggbfcpaaZWaiT
set_option linter.unusedSimpArgs false
set_option linter.unusedVariables false
set_option linter.unnecessarySimpa false
namespace Go.Proofs.Ytlbhpeeggbfcpaa
open Go.RowKit
open Go.Maps (Keyed)

theorem compact_rises (d : Array Int) (hd : ∀ i j, i ≤ j → j < d.size → d[i]! ≤ d[j]!) : ∀ m, m ≤ d.size → (Lib.compactUpTo d m).Pairwise (· < ·) ∧ ∀ y ∈ Lib.compactUpTo d m, y ≤ d[m - 1]!
  | 0, _ => ⟨by unfold Lib.compactUpTo; simp, fun y hy => by unfold Lib.compactUpTo at hy; simp at hy⟩
  | m + 1, hm => by
    obtain ⟨h1, h2⟩ := compact_rises d hd m (by omega)
    rw [Lib.compactUpTo_succ]
    by_cases hk : Lib.keeps d m = true
    · rw [if_pos hk]
      have hk' : m = 0 ∨ d[m]! ≠ d[m - 1]! := by unfold Lib.keeps at hk; simpa using hk
      refine ⟨?_, fun y hy => ?_⟩
      · rw [List.pairwise_append]
        refine ⟨h1, List.pairwise_singleton _ _, fun a ha b hb => ?_⟩
        rw [List.mem_singleton] at hb
        rw [hb]
        rcases hk' with e | e
        · subst e
          unfold Lib.compactUpTo at ha
          simp at ha
        · have h3 := h2 a ha
          have h4 := hd (m - 1) m (by omega) (by omega)
          omega
      · show y ≤ d[m + 1 - 1]!
        rw [Nat.add_sub_cancel]
        rcases List.mem_append.1 hy with e | e
        · exact Int.le_trans (h2 y e) (hd (m - 1) m (by omega) (by omega))
        · rw [List.mem_singleton] at e
          rw [e]
          exact Int.le_refl _
    · rw [if_neg hk, List.append_nil]
      refine ⟨h1, fun y hy => ?_⟩
      show y ≤ d[m + 1 - 1]!
      rw [Nat.add_sub_cancel]
      exact Int.le_trans (h2 y hy) (hd (m - 1) m (by omega) (by omega))
theorem rises_lt (l : List Int) : (rises l).Pairwise (· < ·) := by
  unfold rises Lib.compact
  refine (compact_rises (sorted l).toArray (fun i j hij hj => ?_) _ (by simp)).1
  have hs : (sorted l).Pairwise (· ≤ ·) := by
    have := List.pairwise_mergeSort (le := fun x y : Int => decide (x ≤ y)) (fun a b c h1 h2 => by simp at h1 h2 ⊢; omega) (fun a b => by simp; omega) l
    refine List.Pairwise.imp (fun h => ?_) this
    simpa using h
  have hj' : j < (sorted l).length := by simpa using hj
  have hi' : i < (sorted l).length := by omega
  have e : ∀ (i : Nat) (hi : i < (sorted l).length), (sorted l).toArray[i]! = (sorted l)[i] := fun i hi => by simp [hi]
  rw [e i hi', e j hj']
  by_cases e : i = j
  · subst e; exact Int.le_refl _
  · exact List.pairwise_iff_getElem.1 hs i j hi' hj' (by omega)
theorem at_nodup (l : List (Int × Int)) (x : Int) : (at_ (graphR l) x).Nodup := by
  unfold graphR
  rw [find_map_rises]
  split
  · exact List.Pairwise.imp (fun h => by omega) (rises_lt _)
  · exact List.nodup_nil
structure OrdM (w1 w : World) (q m : Nat) (v av : Value) (N : Nu) (F o : List Int) : Prop where
  since : Touch (fun k => k = m ∨ k = q) w1 w
  met : ∃ L c, NAt Try.prog 3 w m N L c
  que : QH w q v F
  all : RowIs w 1 av o.length (ints o)
  lo : m < w1.heap.size ∧ q < w1.heap.size ∧ m ≠ q
  own : ∀ k, v.ownBlock = some k → w1.heap.size ≤ k
  ownA : ∀ k, av.ownBlock = some k → w1.heap.size ≤ k ∧ v.ownBlock ≠ some k
theorem QH.lt {w : World} {q : Nat} {v : Value} {F : List Int} (h : QH w q v F) : q < w.heap.size ∧ ∀ k, v.ownBlock = some k → k < w.heap.size := by
  obtain ⟨l, h1, _, _⟩ := h
  exact ⟨heap_lt h1.head, fun k hk => h1.row.lt k hk⟩
theorem QH.touch {S : Nat → Prop} {w w' : World} {q : Nat} {v : Value} {F : List Int} (h : QH w q v F) (ht : Touch S w w') (hq : ¬ S q) (hv : ∀ k, v.ownBlock = some k → ¬ S k) : QH w' q v F := by
  obtain ⟨l, h1, h2, h3⟩ := h
  exact ⟨l, ⟨(ht.block q (heap_lt h1.head) hq).trans h1.head, h1.row.touch ht hv, h1.off⟩, h2, h3⟩
section
variable {w1 w w' : World} {q m : Nat} {v v' av av' : Value} {N : Nu} {F F' o o' : List Int}
/-- The queue was changed. -/
theorem OrdM.turned (h : OrdM w1 w q m v av N F o) (hq : QH w' q v' F') (hv : ∀ k, v'.ownBlock = some k → v.ownBlock = some k ∨ w.heap.size ≤ k) (ht : Touch (fun k => k = q ∨ v.ownBlock = some k) w w') : OrdM w1 w' q m v' av N F' o := by
  have hs := h.since.size
  obtain ⟨h1, h2, h3⟩ := h.lo
  refine ⟨h.since.trans ht (fun k hk e => ?_), ?_, hq, h.all.touch ht (fun k hk e => ?_), h.lo, fun k hk => ?_, fun k hk => ?_⟩
  · rcases e with e | e
    · exact .inr e
    · have := h.own k e; omega
  · obtain ⟨L, c, hn⟩ := h.met
    exact ⟨L, c, hn.keep (ht.block m hn.map.lt (fun e => by
      rcases e with e | e
      · exact h3 e
      · have := h.own m e; omega))⟩
  · obtain ⟨h4, h5⟩ := h.ownA k hk
    rcases e with e | e
    · omega
    · exact h5 e
  · rcases hv k hk with e | e
    · exact h.own k e
    · omega
  · obtain ⟨h4, h5⟩ := h.ownA k hk
    refine ⟨h4, fun e => ?_⟩
    rcases hv k e with e | e
    · exact h5 e
    · have := h.all.lt k hk; omega
/-- What one owes was put. -/
theorem OrdM.put {N' : Nu} (h : OrdM w1 w q m v av N F o) (hn : ∃ L c, NAt Try.prog 3 w' m N' L c) (ht : Touch (fun k => k = m) w w') : OrdM w1 w' q m v av N' F o := by
  obtain ⟨h1, h2, h3⟩ := h.lo
  refine ⟨h.since.trans ht (fun k hk e => .inl e), hn, h.que.touch ht (fun e => h3 (Eq.symm e)) (fun k hk e => ?_), h.all.touch ht (fun k hk e => ?_), h.lo, h.own, h.ownA⟩
  · have := h.own k hk; have e : k = m := e; omega
  · have := (h.ownA k hk).1; have e : k = m := e; omega
/-- One was put behind all. -/
theorem OrdM.app (h : OrdM w1 w q m v av N F o) (ha : RowIs w' 1 av' o'.length (ints o')) (hv : ∀ k, av'.ownBlock = some k → av.ownBlock = some k ∨ w.heap.size ≤ k) (ht : Touch (fun k => av.ownBlock = some k) w w') : OrdM w1 w' q m v av' N F o' := by
  have hs := h.since.size
  obtain ⟨h1, h2, h3⟩ := h.lo
  refine ⟨h.since.trans ht (fun k hk e => ?_), ?_, h.que.touch ht (fun e => ?_) (fun k hk e => (h.ownA k e).2 hk), ha, h.lo, h.own, fun k hk => ?_⟩
  · have := (h.ownA k e).1; omega
  · obtain ⟨L, c, hn⟩ := h.met
    exact ⟨L, c, hn.keep (ht.block m hn.map.lt (fun e => by have := (h.ownA m e).1; omega))⟩
  · have := (h.ownA q e).1; omega
  · rcases hv k hk with e | e
    · exact h.ownA k e
    · exact ⟨by omega, fun e2 => by have := h.que.lt.2 k e2; omega⟩
theorem OrdM.after (h : OrdM w1 w q m v av N F o) (hb : Below w.heap.size w w') : OrdM w1 w' q m v av N F o := by
  obtain ⟨L, c, hn⟩ := h.met
  exact ⟨h.since.after hb, ⟨L, c, hn.keep (hb.block m hn.map.lt)⟩, h.que.below hb, h.all.below hb, h.lo, h.own, h.ownA⟩
theorem OrdM.perm (h : OrdM w1 w q m v av N F o) (hp : F.Perm F') : OrdM w1 w q m v av N F' o := ⟨h.since, h.met, h.que.perm hp, h.all, h.lo, h.own, h.ownA⟩
end
/-- A graph is looked up at every later world. -/
theorem look_since {w1 : World} {b0 g m q clock : Nat} {G : Gr} {L : List MapEntry} (h : GAt Try.prog 3 w1 b0 g G L clock) (hm : g ≠ m ∧ g ≠ q) (hmo : ∀ e ∈ L, ∀ k, e.val.ownBlock = some k → k ≠ m ∧ k ≠ q) {x : Int} (hx : InR64 x) : ∃ A c, c ≤ 9223372036854775807 ∧ ∀ wr, Touch (fun k => k = m ∨ k = q) w1 wr → (Instr.lookup 66 (.map (some g)) (.int .i64 x) false).run Try.prog wr = .ok (.slice A (at_ G x).length c) wr ∧ RowIs wr 1 (.slice A (at_ G x).length c) (at_ G x).length (ints (at_ G x)) := by
  obtain ⟨v0, hv0, hlk, hown⟩ := h.look keyedI Try.underlying66 zeroI (keyI hx)
  have ho : ∀ k, v0.ownBlock = some k → k ≠ m ∧ k ≠ q := fun k hk => by
    obtain ⟨e, he, hk2⟩ := hown k hk
    exact hmo e he k hk2
  obtain ⟨A, c, e, _, hc, _⟩ := hv0.form
  subst e
  unfold maxLen at hc
  exact ⟨A, c, by omega, fun wr ht => ⟨hlk wr (ht.block g h.map.lt (fun e => by rcases e with e | e; exact hm.1 e; exact hm.2 e)), hv0.touch ht (fun k hk e => by rcases e with e | e; exact (ho k hk).1 e; exact (ho k hk).2 e)⟩⟩
end Go.Proofs.Ytlbhpeeggbfcpaa

namespace Go.Proofs.Ytlbhpeeggbfcpaa
open Go.RowKit
open Go.Maps (Keyed)

theorem hasK_putK (G : Gr) (x y : Int) (l : List Int) : hasK (putK G x l) y = (y == x || hasK G y) := by
  unfold putK
  by_cases h : hasK G x = true
  · rw [if_pos h]
    unfold setK
    unfold hasK at h ⊢
    rw [List.any_map]
    have e : (G.any ((fun e => e.1 == y) ∘ fun e => if e.1 = x then (e.1, l) else e)) = G.any fun e => e.1 == y := by
      congr 1
      funext e
      simp only [Function.comp]
      split <;> rfl
    rw [e]
    by_cases hz : y = x
    · rw [hz, h]; simp
    · have : (y == x) = false := by simpa using hz
      rw [this, Bool.false_or]
  · rw [if_neg h]
    unfold hasK
    rw [List.any_append, List.any_cons, List.any_nil, Bool.or_false]
    have : (x == y) = (y == x) := by
      by_cases hz : y = x
      · simp [hz]
      · have h1 : (y == x) = false := by simpa using hz
        have h2 : (x == y) = false := by simpa using fun e : x = y => hz e.symm
        rw [h1, h2]
    rw [this, Bool.or_comm]
theorem hasK_addE (G : Gr) (e : Int × Int) (y : Int) : hasK (addE G e) y = (y == e.1 || y == e.2 || hasK G y) := by
  unfold addE
  split
  · next h =>
    rw [hasK_putK] at h ⊢
    by_cases hy : y = e.2
    · rw [hy, h]; simp
    · have : (y == e.2) = false := by simpa using hy
      rw [this, Bool.or_false]
  · have e2 : hasK (putK G e.1 (at_ G e.1 ++ [e.2]) ++ [(e.2, [])]) y = (hasK (putK G e.1 (at_ G e.1 ++ [e.2])) y || (e.2 == y)) := by
      unfold hasK
      rw [List.any_append, List.any_cons, List.any_nil, Bool.or_false]
    have e3 : (e.2 == y) = (y == e.2) := by
      by_cases hz : y = e.2
      · simp [hz]
      · have h1 : (y == e.2) = false := by simpa using hz
        have h2 : (e.2 == y) = false := by simpa using fun e' : e.2 = y => hz e'.symm
        rw [h1, h2]
    rw [e2, hasK_putK, e3]
    cases (y == e.1) <;> cases (y == e.2) <;> cases hasK G y <;> rfl
theorem key_iff (l : List (Int × Int)) (y : Int) : hasK (graph0 l) y = true ↔ ∃ e ∈ l, y = e.1 ∨ y = e.2 := by
  refine snoc_ind (p := fun l => hasK (graph0 l) y = true ↔ ∃ e ∈ l, y = e.1 ∨ y = e.2) l (by simp [graph0, hasK]) (fun l e ih => ?_)
  rw [graph0_snoc, hasK_addE, Bool.or_eq_true, Bool.or_eq_true, ih, beq_iff_eq, beq_iff_eq]
  constructor
  · rintro ((h | h) | ⟨e', h1, h2⟩)
    · exact ⟨e, by simp, .inl h⟩
    · exact ⟨e, by simp, .inr h⟩
    · exact ⟨e', List.mem_append_left _ h1, h2⟩
  · rintro ⟨e', h1, h2⟩
    rcases List.mem_append.1 h1 with h3 | h3
    · exact .inr ⟨e', h3, h2⟩
    · rw [List.mem_singleton] at h3
      rw [h3] at h2
      exact .inl h2
/-- All that edges name, rising. -/
structure KeysP (l : List (Int × Int)) (ns : List Int) : Prop where
  one : ns.Nodup
  rise : ns.Pairwise (· ≤ ·)
  mem : ∀ y, y ∈ ns ↔ ∃ e ∈ l, y = e.1 ∨ y = e.2
theorem mem_keys (G : Gr) (y : Int) : y ∈ G.map (·.1) ↔ hasK G y = true := by
  unfold hasK
  rw [List.any_eq_true, List.mem_map]
  constructor
  · rintro ⟨e, h1, h2⟩
    exact ⟨e, h1, by simpa using h2⟩
  · rintro ⟨e, h1, h2⟩
    exact ⟨e, h1, by simpa using h2⟩
theorem keys_of {l : List (Int × Int)} {ns : List Int} (hn : ((graph0 l).map (·.1)).Nodup) (hp : ns.Perm ((graphR l).map (·.1))) (hr : ns.Pairwise (· ≤ ·)) : KeysP l ns := by
  rw [keys_graphR] at hp
  refine ⟨hp.nodup_iff.2 hn, hr, fun y => ?_⟩
  rw [hp.mem_iff, mem_keys, key_iff]
theorem KeysP.num {l : List (Int × Int)} {ns : List Int} (h : KeysP l ns) (hr : ∀ e ∈ l, InR64 e.1 ∧ InR64 e.2) : ∀ y ∈ ns, InR64 y := fun y hy => by
  obtain ⟨e, he, h1 | h1⟩ := (h.mem y).1 hy
  · rw [h1]; exact (hr e he).1
  · rw [h1]; exact (hr e he).2
theorem KeysP.few {l : List (Int × Int)} {ns : List Int} (h : KeysP l ns) : ns.length ≤ 2 * l.length := by
  have h1 := nodup_le (m := l.map (·.1) ++ l.map (·.2)) h.one (fun y hy => by
    obtain ⟨e, he, h1 | h1⟩ := (h.mem y).1 hy
    · exact List.mem_append_left _ (List.mem_map.2 ⟨e, he, h1.symm⟩)
    · exact List.mem_append_right _ (List.mem_map.2 ⟨e, he, h1.symm⟩))
  rw [List.length_append, List.length_map, List.length_map] at h1
  omega
theorem key_num {l : List (Int × Int)} (hr : ∀ e ∈ l, InR64 e.1 ∧ InR64 e.2) : ∀ e ∈ graphR l, InR64 e.1 := fun e he => by
  unfold graphR at he
  obtain ⟨e0, h0, rfl⟩ := List.mem_map.1 he
  obtain ⟨z, hz, h1 | h1⟩ := key_graph0 l e0 h0
  · show InR64 e0.1
    rw [h1]; exact (hr z hz).1
  · show InR64 e0.1
    rw [h1]; exact (hr z hz).2
theorem graphR_len {l : List (Int × Int)} (hn : ((graph0 l).map (·.1)).Nodup) : (graphR l).length ≤ 2 * l.length := by
  have h1 := nodup_le (m := l.map (·.1) ++ l.map (·.2)) hn (fun y hy => by
    obtain ⟨e, he, h1 | h1⟩ := (key_iff l y).1 ((mem_keys _ _).1 hy)
    · exact List.mem_append_left _ (List.mem_map.2 ⟨e, he, h1.symm⟩)
    · exact List.mem_append_right _ (List.mem_map.2 ⟨e, he, h1.symm⟩))
  rw [List.length_append, List.length_map, List.length_map, List.length_map] at h1
  unfold graphR
  rw [List.length_map]
  omega
theorem free_nil (G : Gr) (ks : List Int) : freeP G ks [] = ks.filter fun x => owes G [] x == 0 := by
  unfold freeP
  congr 1
  funext x
  have h1 : (([] : List Int).contains x) = false := rfl
  rw [h1]
  show (true && _) = _
  rw [Bool.true_and, Bool.eq_iff_iff, List.all_eq_true, beq_iff_eq, owes_zero]
  simp
theorem free_rise {G : Gr} {ks o F : List Int} {w : Int} (h : ks.Pairwise (· ≤ ·)) (hf : freeP G ks o = w :: F) : ∀ y ∈ F, w ≤ y := by
  have h1 : (freeP G ks o).Pairwise (· ≤ ·) := h.filter _
  rw [hf, List.pairwise_cons] at h1
  exact h1.1
theorem mem_swap (l : List (Int × Int)) (x y : Int) : x ∈ at_ (graphR (swapE l)) y ↔ y ∈ at_ (graphR l) x := by
  rw [mem_at, mem_at]
  unfold swapE
  rw [List.mem_map]
  constructor
  · rintro ⟨e, he, h⟩
    injection h with h1 h2
    rw [← h1, ← h2]
    exact he
  · intro h
    exact ⟨(x, y), h, rfl⟩
theorem map_len {P : Program} {K E M : TypeId} {w : World} {b0 g c : Nat} {G : Gr} {L : List MapEntry} (h : GAt P K w b0 g G L c) (hM : P.underlying M = some (.map K E)) (ty : TypeId) : (Builtin.len_ #[M] ty #[.map (some g)]).run P w = .ok (.int .i64 (G.length : Int)) w := by
  rw [← h.len]
  exact h.map.len hM ty
theorem wpList_len_run {P : Program} {w : World} {ops : Array Oper} {rest : List Oper} {o : Oper} {a : Act} {Q : Exit → Act → World → Prop} (hg : o.guard = none) (x : Operand) (tx : TypeId) (ho : o.op = .call { callee := .builtin .len, args := #[x], argTypes := #[tx] }) {v v' : Value} (hx : a.eval x = v) (hrun : (Builtin.len_ #[tx] o.type #[v]).run P w = .ok v' w) (hK : wpList P ops Q rest (a.put o.dst v') w) : wpList P ops Q (o :: rest) a w :=
  wpList_plain hg fun K' hK' => by
    unfold Oper.wp execOp
    simp only [ho, resolve, invoke, builtin, Sem.run_bind, Sem.run_pure, Result.andThen_ok, List.map_toArray, List.map_cons, List.map_nil, hx, hrun]
    exact hK' _ _ hK
end Go.Proofs.Ytlbhpeeggbfcpaa
