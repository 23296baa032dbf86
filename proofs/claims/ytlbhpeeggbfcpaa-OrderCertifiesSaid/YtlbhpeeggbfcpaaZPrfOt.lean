/- What the rows of the order laws give a walk: tickets read out of an argument. -/
import Derived.Test.YtlbhpeeggbfcpaaZPrfOr
import Derived.Test.YtlbhpeeggbfcpaaZOcC
set_option linter.unusedSimpArgs false
set_option linter.unusedVariables false
set_option linter.unnecessarySimpa false
namespace Go.Proofs.Ytlbhpeeggbfcpaa
open Go.ChangeShapes Go.WideShapes Go.RowKit Go.Deep

section
variable {H : Type} {enc : TypeId × Value → H}
theorem cells_i64 : Try.prog.cellsOf 2 = 1 := by kernel_rfl
theorem cells_tic : Try.prog.cellsOf 78 = 3 := by kernel_rfl
set_option maxRecDepth 100000 in
/-- A slice of tickets that was read. -/
theorem tickets_open {W : World} {v : Value} {d : DataW H} {ps : List MemPlace} {r : Reach} {b0 : Nat} (hv : Value.okWide Try.prog W r b0 43 v)
    (h : DataW.Trod enc Try.prog W 0 (fun _ => true) true 43 v d ps) (hlt : ∀ x ∈ ps, x.block < W.heap.size) : ∃ l : List Tk, KIs W v l ∧ ∀ t ∈ l, InR64 t.g := by
  obtain ⟨A, len, cap, rfl⟩ := okWide_slice Try.underlying43 hv
  obtain ⟨fuel, hf⟩ := h
  rcases open_slice Try.underlying43 hf with ⟨h0, _⟩ | ⟨a, len', cap', m, n, D, Pl, hcs, hb, hl, hm, hmm, hx, hi⟩
  · simp [Value.cells] at h0
    obtain ⟨rfl, rfl, rfl⟩ := h0
    exact ⟨[], ⟨none, 0, rfl, Nat.le_refl _, by unfold maxLen; omega, fun i b hi => by simp at hi⟩, (fun x hx => by cases hx)⟩
  · simp [Value.cells] at hcs
    obtain ⟨rfl, rfl, rfl⟩ := hcs
    simp at hmm
    subst hmm
    have hps : ps = MemPlace.row a (m * Try.prog.cellsOf 78) ++ (List.range m).flatMap Pl := congrArg Prod.snd hx
    rw [cells_tic] at hps
    have each : ∀ i, i < len → ∃ u : Tk, (W.cell? (a.add (i * 3)) = some (.int .i64 u.g) ∧ W.cell? ((a.add (i * 3)).add 1) = some (.int .i64 u.site) ∧ W.cell? ((a.add (i * 3)).add 2) = some (.int .i64 u.n)) ∧ InR64 u.g := by
      intro i hil
      obtain ⟨cs, hc, ht⟩ := hi i (by omega)
      rw [cells_tic] at hc
      obtain ⟨_, hlen, hcell⟩ := World.cells?_some hc
      obtain ⟨xs, k, _, ex, _, hxs, hel⟩ := DataW.trod_struct Try.underlying78 ht
      match cs, hlen with
      | [c0, c1, c2], _ =>
        match xs, hxs with
        | [y0, y1, y2], _ =>
          have t0 := hel 0 _ rfl
          have t1 := hel 1 _ rfl
          have t2 := hel 2 _ rfl
          simp [cells_int, cells_i64] at t0 t1 t2
          obtain ⟨z0, e0, _, w0⟩ := DataW.trod_int Try.underlying3 t0
          obtain ⟨z1, e1, _, w1⟩ := DataW.trod_int Try.underlying3 t1
          obtain ⟨z2, e2, _, w2⟩ := DataW.trod_int Try.underlying2 t2
          simp at e0 e1 e2
          subst e0 e1 e2
          have k0 := hcell 0 (by omega)
          have k1 := hcell 1 (by omega)
          have k2 := hcell 2 (by omega)
          have e : (a.add (i * 3)).add 0 = a.add (i * 3) := by simp [Addr.add]
          rw [e] at k0
          exact ⟨⟨z0, z1, z2⟩, ⟨k0, k1, k2⟩, bnd_i64 w0⟩
    obtain ⟨l, hlen, hls⟩ := list_of each
    subst hlen
    refine ⟨l, ⟨some a, m, rfl, hl, hm, fun i u hiu => ?_⟩, fun t ht => (by obtain ⟨i, hi⟩ := List.getElem?_of_mem ht; exact (hls i t hi).2)⟩
    have hlen0 : 0 < l.length := Nat.lt_of_le_of_lt (Nat.zero_le _) (List.getElem?_eq_some_iff.1 hiu).1
    obtain ⟨p, hp1, hp2⟩ := row_mem (a := a) (n := m * 3) (by omega)
    exact ⟨a, rfl, by rw [← hp2]; exact hlt p (by rw [hps]; exact List.mem_append.2 (.inl hp1)), (hls i u hiu).1⟩
end
end Go.Proofs.Ytlbhpeeggbfcpaa
