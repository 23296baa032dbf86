/- What the rows of the wait laws give a walk: edges and numbers read out of an argument. -/
import Derived.Test.YtmpjimoefjcmhaaZWaiA
import Derived.Test.YtmpjimoefjcmhaaRows
import Derived.Test.YtmpjimoefjcmhaaChecked
import Derived.ProofKit
import Derived.MakeChecks
import Derived.OpenShut
import Derived.Stop.Joined
import Derived.ChangeVars
import Derived.ChangeSame
import Derived.JoinedOf
import Derived.JoinedAt
import Derived.Deep.Slices
import Derived.Handed
set_option linter.unusedSimpArgs false
set_option linter.unusedVariables false
set_option linter.unnecessarySimpa false
namespace Go.Proofs.Ytmpjimoefjcmhaa
open Go.ChangeShapes Go.WideShapes Go.RowKit Go.Deep

theorem Try.own : ownKnob Try.prog.godebug = none := by kernel_rfl
theorem Try.laidOut : laidOutB Try.prog = true := by kernel_rfl
section
variable {H : Type} {enc : TypeId × Value → H}
theorem list_of {α : Type} {n : Nat} {P : Nat → α → Prop} (h : ∀ i, i < n → ∃ x, P i x) : ∃ ls : List α, ls.length = n ∧ ∀ i x, ls[i]? = some x → P i x := by
  induction n with
  | zero => exact ⟨[], rfl, fun i x hx => by simp at hx⟩
  | succ n ih =>
    obtain ⟨ls, hl, hp⟩ := ih (fun i hi => h i (by omega))
    obtain ⟨x, hx⟩ := h n (by omega)
    refine ⟨ls ++ [x], by simp [hl], fun i y hy => ?_⟩
    by_cases hi : i < ls.length
    · rw [List.getElem?_append_left hi] at hy; exact hp i y hy
    · rw [List.getElem?_append_right (by omega)] at hy
      have h0 : i - ls.length = 0 := by
        rcases Nat.eq_zero_or_pos (i - ls.length) with h | h
        · exact h
        · rw [List.getElem?_eq_none (by simp; omega)] at hy; cases hy
      rw [h0] at hy
      have : x = y := by simpa using hy
      subst this
      have : i = n := by omega
      subst this
      exact hx
theorem cells_int : Try.prog.cellsOf 3 = 1 := by kernel_rfl
theorem cells_edge : Try.prog.cellsOf 40 = 2 := by kernel_rfl
set_option maxRecDepth 100000 in
theorem row_mem {a : Addr} {n : Nat} (h : 0 < n) : ∃ x ∈ MemPlace.row a n, x.block = a.block := by
  cases n with
  | zero => omega
  | succ n =>
    refine ⟨(MemPlace.row a (n + 1)).head (by simp [MemPlace.row]), List.head_mem _, ?_⟩
    simp [MemPlace.row, MemPlace.block]
theorem bnd_i64 {n : Int} (h : (Lit.int .i64 n).wf = true) : InR64 n := by
  simp [Lit.wf] at h
  have e1 : IntKind.i64.min = -9223372036854775808 := by decide
  rw [e1] at h
  exact h
/-- Numbers in memory, in whatever block. -/
def NIs (w : World) (v : Value) (l : List Int) : Prop := ∃ A cap, v = .slice A l.length cap ∧ l.length ≤ cap ∧ cap ≤ maxLen ∧ ∀ i x, l[i]? = some x → ∃ a : Addr, A = some a ∧ a.block < w.heap.size ∧ w.cell? (a.add i) = some (.int .i64 x)
theorem NIs.below {w w' : World} {v : Value} {l : List Int} (h : NIs w v l) (hb : Below w.heap.size w w') : NIs w' v l := by
  obtain ⟨A, cap, e, h1, h2, h3⟩ := h
  refine ⟨A, cap, e, h1, h2, fun i x hx => ?_⟩
  obtain ⟨a, q1, q2, q3⟩ := h3 i x hx
  exact ⟨a, q1, Nat.lt_of_lt_of_le q2 hb.size, (hb.cell (p := a.add i) (by rw [add_block]; exact q2)).trans q3⟩
set_option maxRecDepth 100000 in
/-- A slice of numbers that was read. -/
theorem ints_open {W : World} {v : Value} {d : DataW H} {ps : List MemPlace} {r : Reach} {b0 : Nat} (hv : Value.okWide Try.prog W r b0 26 v)
    (h : DataW.Trod enc Try.prog W 0 (fun _ => true) true 26 v d ps) (hlt : ∀ x ∈ ps, x.block < W.heap.size) : ∃ l, NIs W v l ∧ ∀ x ∈ l, InR64 x := by
  obtain ⟨A, len, cap, rfl⟩ := okWide_slice Try.underlying26 hv
  obtain ⟨fuel, hf⟩ := h
  rcases open_slice1 Try.underlying26 cells_int hf with ⟨h0, _⟩ | ⟨a, len', cap', m, n, V, D, Pl, hcs, hb, hl, hm, hmm, hx, hi⟩
  · simp [Value.cells] at h0
    obtain ⟨rfl, rfl, rfl⟩ := h0
    exact ⟨[], ⟨none, 0, rfl, Nat.le_refl _, by unfold maxLen; omega, fun i b hi => by simp at hi⟩, (fun x hx => by cases hx)⟩
  · simp [Value.cells] at hcs
    obtain ⟨rfl, rfl, rfl⟩ := hcs
    simp at hmm
    subst hmm
    have hps : ps = MemPlace.row a m ++ (List.range m).flatMap Pl := congrArg Prod.snd hx
    have each : ∀ i, i < len → ∃ z : Int, W.cell? (a.add i) = some (.int .i64 z) ∧ InR64 z := by
      intro i hil
      obtain ⟨hc, ht⟩ := hi i (by omega)
      obtain ⟨z, e, _, hw⟩ := DataW.trod_int Try.underlying3 ht
      simp at e
      exact ⟨z, by rw [hc, e], bnd_i64 hw⟩
    obtain ⟨l, hlen, hls⟩ := list_of each
    subst hlen
    refine ⟨l, ⟨some a, m, rfl, hl, hm, fun i b hib => ⟨a, rfl, ?_, (hls i b hib).1⟩⟩, fun x hx => ?_⟩
    · have hlen0 : 0 < l.length := Nat.lt_of_le_of_lt (Nat.zero_le _) (List.getElem?_eq_some_iff.1 hib).1
      obtain ⟨p, hp1, hp2⟩ := row_mem (a := a) (n := m) (by omega)
      rw [← hp2]
      exact hlt p (by rw [hps]; exact List.mem_append.2 (.inl hp1))
    · obtain ⟨i, hi⟩ := List.getElem?_of_mem hx
      exact (hls i x hi).2
set_option maxRecDepth 100000 in
/-- A slice of edges that was read. -/
theorem edges_open {W : World} {v : Value} {d : DataW H} {ps : List MemPlace} {r : Reach} {b0 : Nat} (hv : Value.okWide Try.prog W r b0 22 v)
    (h : DataW.Trod enc Try.prog W 0 (fun _ => true) true 22 v d ps) (hlt : ∀ x ∈ ps, x.block < W.heap.size) : ∃ l, EIs W v l ∧ ∀ e ∈ l, InR64 e.1 ∧ InR64 e.2 := by
  obtain ⟨A, len, cap, rfl⟩ := okWide_slice Try.underlying22 hv
  obtain ⟨fuel, hf⟩ := h
  rcases open_slice Try.underlying22 hf with ⟨h0, _⟩ | ⟨a, len', cap', m, n, D, Pl, hcs, hb, hl, hm, hmm, hx, hi⟩
  · simp [Value.cells] at h0
    obtain ⟨rfl, rfl, rfl⟩ := h0
    exact ⟨[], ⟨none, 0, rfl, Nat.le_refl _, by unfold maxLen; omega, fun i b hi => by simp at hi⟩, (fun x hx => by cases hx)⟩
  · simp [Value.cells] at hcs
    obtain ⟨rfl, rfl, rfl⟩ := hcs
    simp at hmm
    subst hmm
    have hps : ps = MemPlace.row a (m * Try.prog.cellsOf 40) ++ (List.range m).flatMap Pl := congrArg Prod.snd hx
    rw [cells_edge] at hps
    have each : ∀ i, i < len → ∃ e : Int × Int, (W.cell? (a.add (i * 2)) = some (.int .i64 e.1) ∧ W.cell? ((a.add (i * 2)).add 1) = some (.int .i64 e.2)) ∧ InR64 e.1 ∧ InR64 e.2 := by
      intro i hil
      obtain ⟨cs, hc, ht⟩ := hi i (by omega)
      rw [cells_edge] at hc
      obtain ⟨_, hlen, hcell⟩ := World.cells?_some hc
      match cs, hlen with
      | [c0, c1], _ =>
        obtain ⟨y0, y1, k, ey, _, hy0, hy1⟩ := trod_struct2 Try.underlying40 ht
        obtain ⟨z0, e0, _, hw0⟩ := DataW.trod_int Try.underlying3 hy0
        obtain ⟨z1, e1, _, hw1⟩ := DataW.trod_int Try.underlying3 hy1
        simp [cells_int] at e0 e1
        subst e0 e1
        exact ⟨(z0, z1), ⟨by
          have hc0 := hcell 0 (by omega)
          have e0 : (a.add (i * 2)).add 0 = a.add (i * 2) := rfl
          rw [e0] at hc0
          simpa using hc0, by simpa using hcell 1 (by omega)⟩, bnd_i64 hw0, bnd_i64 hw1⟩
    obtain ⟨l, hlen, hls⟩ := list_of each
    subst hlen
    refine ⟨l, ⟨some a, m, rfl, hl, hm, fun i b hib => ⟨a, rfl, ?_, (hls i b hib).1.1, (hls i b hib).1.2⟩⟩, fun x hx => ?_⟩
    · have hlen0 : 0 < l.length := Nat.lt_of_le_of_lt (Nat.zero_le _) (List.getElem?_eq_some_iff.1 hib).1
      obtain ⟨p, hp1, hp2⟩ := row_mem (a := a) (n := m * 2) (by omega)
      rw [← hp2]
      exact hlt p (by rw [hps]; exact List.mem_append.2 (.inl hp1))
    · obtain ⟨i, hi⟩ := List.getElem?_of_mem hx
      exact (hls i x hi).2
end
end Go.Proofs.Ytmpjimoefjcmhaa
