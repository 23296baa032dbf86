/- What the rows of the order laws give a walk: users, turns and tickets read out of an argument. -/
import Derived.Test.YtlbhpeeggbfcpaaZOrdU
import Derived.Test.YtlbhpeeggbfcpaaRows
import Derived.Test.YtlbhpeeggbfcpaaChecked
import Derived.ProofKit
import Derived.MakeChecks
import Derived.OpenShut
import Derived.Stop.Joined
import Derived.ChangeVars
import Derived.ChangeSame
import Derived.JoinedOf
import Derived.JoinedAt
import Derived.Deep.Slices
import Derived.Handed
set_option linter.unusedSimpArgs false
set_option linter.unusedVariables false
set_option linter.unnecessarySimpa false
namespace Go.Proofs.Ytlbhpeeggbfcpaa
open Go.ChangeShapes Go.WideShapes Go.RowKit Go.Deep

theorem Try.own : ownKnob Try.prog.godebug = none := by kernel_rfl
theorem Try.laidOut : laidOutB Try.prog = true := by kernel_rfl
section
variable {H : Type} {enc : TypeId × Value → H}
theorem list_of {α : Type} {n : Nat} {P : Nat → α → Prop} (h : ∀ i, i < n → ∃ x, P i x) : ∃ ls : List α, ls.length = n ∧ ∀ i x, ls[i]? = some x → P i x := by
  induction n with
  | zero => exact ⟨[], rfl, fun i x hx => by simp at hx⟩
  | succ n ih =>
    obtain ⟨ls, hl, hp⟩ := ih (fun i hi => h i (by omega))
    obtain ⟨x, hx⟩ := h n (by omega)
    refine ⟨ls ++ [x], by simp [hl], fun i y hy => ?_⟩
    by_cases hi : i < ls.length
    · rw [List.getElem?_append_left hi] at hy; exact hp i y hy
    · rw [List.getElem?_append_right (by omega)] at hy
      have h0 : i - ls.length = 0 := by
        rcases Nat.eq_zero_or_pos (i - ls.length) with h | h
        · exact h
        · rw [List.getElem?_eq_none (by simp; omega)] at hy; cases hy
      rw [h0] at hy
      have : x = y := by simpa using hy
      subst this
      have : i = n := by omega
      subst this
      exact hx
theorem cells_int : Try.prog.cellsOf 3 = 1 := by kernel_rfl
theorem cells_boo : Try.prog.cellsOf 4 = 1 := by kernel_rfl
theorem cells_ints : Try.prog.cellsOf 30 = 1 := by kernel_rfl
theorem cells_usr : Try.prog.cellsOf 32 = 2 := by kernel_rfl
theorem cells_tur : Try.prog.cellsOf 57 = 3 := by kernel_rfl
set_option maxRecDepth 100000 in
theorem row_mem {a : Addr} {n : Nat} (h : 0 < n) : ∃ x ∈ MemPlace.row a n, x.block = a.block := by
  cases n with
  | zero => omega
  | succ n =>
    refine ⟨(MemPlace.row a (n + 1)).head (by simp [MemPlace.row]), List.head_mem _, ?_⟩
    simp [MemPlace.row, MemPlace.block]
theorem bnd_i64 {n : Int} (h : (Lit.int .i64 n).wf = true) : InR64 n := by
  simp [Lit.wf] at h
  have e1 : IntKind.i64.min = -9223372036854775808 := by decide
  rw [e1] at h
  exact h
set_option maxRecDepth 100000 in
/-- A slice of numbers that was read, by its cells. -/
theorem ints_trod {W : World} {fuel : Nat} {c : Value} {d : DataW H} {ps : List MemPlace} (hf : DataW.trod enc Try.prog W 0 (fun _ => true) true fuel 30 [c] = some (d, ps)) (hlt : ∀ x ∈ ps, x.block < W.heap.size) : ∃ L, SIs W c L ∧ ∀ x ∈ L, InR64 x := by
  rcases open_slice1 Try.underlying30 cells_int hf with ⟨h0, _⟩ | ⟨a, len', cap', m, n, V, D, Pl, hcs, hb, hl, hm, hmm, hx, hi⟩
  · obtain rfl : c = .slice none 0 0 := by simpa using h0
    exact ⟨[], ⟨none, 0, rfl, Nat.le_refl _, by unfold maxLen; omega, fun i b hi => by simp at hi⟩, (fun x hx => by cases hx)⟩
  · obtain rfl : c = .slice (some a) len' cap' := by simpa using hcs
    simp at hmm
    subst hmm
    have hps : ps = MemPlace.row a m ++ (List.range m).flatMap Pl := congrArg Prod.snd hx
    have each : ∀ i, i < len' → ∃ z : Int, W.cell? (a.add i) = some (.int .i64 z) ∧ InR64 z := by
      intro i hil
      obtain ⟨hc, ht⟩ := hi i (by omega)
      obtain ⟨z, e, _, hw⟩ := DataW.trod_int Try.underlying3 ht
      simp at e
      exact ⟨z, by rw [hc, e], bnd_i64 hw⟩
    obtain ⟨l, hlen, hls⟩ := list_of each
    subst hlen
    refine ⟨l, ⟨some a, m, rfl, hl, hm, fun i b hib => ⟨a, rfl, ?_, (hls i b hib).1⟩⟩, fun x hx => ?_⟩
    · have hlen0 : 0 < l.length := Nat.lt_of_le_of_lt (Nat.zero_le _) (List.getElem?_eq_some_iff.1 hib).1
      obtain ⟨p, hp1, hp2⟩ := row_mem (a := a) (n := m) (by omega)
      rw [← hp2]
      exact hlt p (by rw [hps]; exact List.mem_append.2 (.inl hp1))
    · obtain ⟨i, hi⟩ := List.getElem?_of_mem hx
      exact (hls i x hi).2
set_option maxRecDepth 100000 in
/-- A slice of users that was read. -/
theorem users_open {W : World} {v : Value} {d : DataW H} {ps : List MemPlace} {r : Reach} {b0 : Nat} (hv : Value.okWide Try.prog W r b0 22 v)
    (h : DataW.Trod enc Try.prog W 0 (fun _ => true) true 22 v d ps) (hlt : ∀ x ∈ ps, x.block < W.heap.size) : ∃ l : Gr, UIs W v l ∧ ∀ u ∈ l, InR64 u.1 ∧ ∀ s ∈ u.2, InR64 s := by
  obtain ⟨A, len, cap, rfl⟩ := okWide_slice Try.underlying22 hv
  obtain ⟨fuel, hf⟩ := h
  rcases open_slice Try.underlying22 hf with ⟨h0, _⟩ | ⟨a, len', cap', m, n, D, Pl, hcs, hb, hl, hm, hmm, hx, hi⟩
  · simp [Value.cells] at h0
    obtain ⟨rfl, rfl, rfl⟩ := h0
    exact ⟨[], ⟨none, 0, rfl, Nat.le_refl _, by unfold maxLen; omega, fun i b hi => by simp at hi⟩, (fun x hx => by cases hx)⟩
  · simp [Value.cells] at hcs
    obtain ⟨rfl, rfl, rfl⟩ := hcs
    simp at hmm
    subst hmm
    have hps : ps = MemPlace.row a (m * Try.prog.cellsOf 32) ++ (List.range m).flatMap Pl := congrArg Prod.snd hx
    rw [cells_usr] at hps
    have each : ∀ i, i < len → ∃ u : Int × List Int, (∃ s, W.cell? (a.add (i * 2)) = some (.int .i64 u.1) ∧ W.cell? ((a.add (i * 2)).add 1) = some s ∧ SIs W s u.2) ∧ InR64 u.1 ∧ ∀ x ∈ u.2, InR64 x := by
      intro i hil
      obtain ⟨cs, hc, ht⟩ := hi i (by omega)
      rw [cells_usr] at hc
      obtain ⟨_, hlen, hcell⟩ := World.cells?_some hc
      obtain ⟨xs, k, _, ex, _, hxs, hel⟩ := DataW.trod_struct Try.underlying32 ht
      match cs, hlen with
      | [c0, c1], _ =>
        match xs, hxs with
        | [y0, y1], _ =>
          have t0 := hel 0 _ rfl
          have t1 := hel 1 _ rfl
          simp [cells_int, cells_ints] at t0 t1
          obtain ⟨z0, e0, _, w0⟩ := DataW.trod_int Try.underlying3 t0
          simp at e0
          subst e0
          obtain ⟨L, hL, hR⟩ := ints_trod t1 (fun p hp => hlt p (by
            have e9 := congrArg Prod.snd ex
            simp at e9
            rw [hps]
            exact List.mem_append.2 (.inr (List.mem_flatMap.2 ⟨i, List.mem_range.2 (by omega), by rw [e9]; simp [hp]⟩))))
          have k0 := hcell 0 (by omega)
          have k1 := hcell 1 (by omega)
          have e : (a.add (i * 2)).add 0 = a.add (i * 2) := by simp [Addr.add]
          rw [e] at k0
          exact ⟨(z0, L), ⟨c1, k0, k1, hL⟩, bnd_i64 w0, hR⟩
    obtain ⟨l, hlen, hls⟩ := list_of each
    subst hlen
    refine ⟨l, ⟨some a, m, rfl, hl, hm, fun i u hiu => ?_⟩, fun u hu => ?_⟩
    · obtain ⟨⟨s, q0, q1, q2⟩, _⟩ := hls i u hiu
      have hlen0 : 0 < l.length := Nat.lt_of_le_of_lt (Nat.zero_le _) (List.getElem?_eq_some_iff.1 hiu).1
      obtain ⟨p, hp1, hp2⟩ := row_mem (a := a) (n := m * 2) (by omega)
      exact ⟨a, s, rfl, by rw [← hp2]; exact hlt p (by rw [hps]; exact List.mem_append.2 (.inl hp1)), q0, q1, q2⟩
    · obtain ⟨i, hi⟩ := List.getElem?_of_mem hu
      exact (hls i u hi).2
set_option maxRecDepth 100000 in
/-- A slice of turns that was read. -/
theorem turns_open {W : World} {v : Value} {d : DataW H} {ps : List MemPlace} {r : Reach} {b0 : Nat} (hv : Value.okWide Try.prog W r b0 54 v)
    (h : DataW.Trod enc Try.prog W 0 (fun _ => true) true 54 v d ps) (hlt : ∀ x ∈ ps, x.block < W.heap.size) : ∃ l : List (Int × Int × Bool), TIs W v l := by
  obtain ⟨A, len, cap, rfl⟩ := okWide_slice Try.underlying54 hv
  obtain ⟨fuel, hf⟩ := h
  rcases open_slice Try.underlying54 hf with ⟨h0, _⟩ | ⟨a, len', cap', m, n, D, Pl, hcs, hb, hl, hm, hmm, hx, hi⟩
  · simp [Value.cells] at h0
    obtain ⟨rfl, rfl, rfl⟩ := h0
    exact ⟨[], none, 0, rfl, Nat.le_refl _, by unfold maxLen; omega, fun i b hi => by simp at hi⟩
  · simp [Value.cells] at hcs
    obtain ⟨rfl, rfl, rfl⟩ := hcs
    simp at hmm
    subst hmm
    have hps : ps = MemPlace.row a (m * Try.prog.cellsOf 57) ++ (List.range m).flatMap Pl := congrArg Prod.snd hx
    rw [cells_tur] at hps
    have each : ∀ i, i < len → ∃ u : Int × Int × Bool, W.cell? (a.add (i * 3)) = some (.int .i64 u.1) ∧ W.cell? ((a.add (i * 3)).add 1) = some (.int .i64 u.2.1) ∧ W.cell? ((a.add (i * 3)).add 2) = some (.bool u.2.2) := by
      intro i hil
      obtain ⟨cs, hc, ht⟩ := hi i (by omega)
      rw [cells_tur] at hc
      obtain ⟨_, hlen, hcell⟩ := World.cells?_some hc
      obtain ⟨xs, k, _, ex, _, hxs, hel⟩ := DataW.trod_struct Try.underlying57 ht
      match cs, hlen with
      | [c0, c1, c2], _ =>
        match xs, hxs with
        | [y0, y1, y2], _ =>
          have t0 := hel 0 _ rfl
          have t1 := hel 1 _ rfl
          have t2 := hel 2 _ rfl
          simp [cells_int, cells_boo] at t0 t1 t2
          obtain ⟨z0, e0, _, w0⟩ := DataW.trod_int Try.underlying3 t0
          obtain ⟨z1, e1, _, w1⟩ := DataW.trod_int Try.underlying3 t1
          obtain ⟨z2, e2, _⟩ := DataW.trod_bool Try.underlying4 t2
          simp at e0 e1 e2
          subst e0 e1 e2
          have k0 := hcell 0 (by omega)
          have k1 := hcell 1 (by omega)
          have k2 := hcell 2 (by omega)
          have e : (a.add (i * 3)).add 0 = a.add (i * 3) := by simp [Addr.add]
          rw [e] at k0
          exact ⟨(z0, z1, z2), k0, k1, k2⟩
    obtain ⟨l, hlen, hls⟩ := list_of each
    subst hlen
    refine ⟨l, some a, m, rfl, hl, hm, fun i u hiu => ?_⟩
    have hlen0 : 0 < l.length := Nat.lt_of_le_of_lt (Nat.zero_le _) (List.getElem?_eq_some_iff.1 hiu).1
    obtain ⟨p, hp1, hp2⟩ := row_mem (a := a) (n := m * 3) (by omega)
    exact ⟨a, rfl, by rw [← hp2]; exact hlt p (by rw [hps]; exact List.mem_append.2 (.inl hp1)), hls i u hiu⟩
end
end Go.Proofs.Ytlbhpeeggbfcpaa
