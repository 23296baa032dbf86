/- A call of the law's, read out of an argument. -/
import Derived.Test.YtkkembbeejlomaaGreatDoorZPrfNo
import Derived.Test.YtkkembbeejlomaaGreatDoorZPgpG
set_option linter.unusedSimpArgs false
set_option linter.unusedVariables false
set_option linter.unnecessarySimpa false
namespace Go.Proofs.YtkkembbeejlomaaGreatDoor
open Go.ChangeShapes Go.WideShapes Go.RowKit Go.Deep

section
variable {H : Type} {enc : TypeId × Value → H}
theorem cells_i : Tryz.prog.cellsOf 3 = 1 := by kernel_rfl
theorem cells_j : Tryz.prog.cellsOf 2 = 1 := by kernel_rfl
theorem cells_s : Tryz.prog.cellsOf 9 = 1 := by kernel_rfl
theorem cells_opp : Tryz.prog.cellsOf 34 = 4 := by kernel_rfl
theorem row_mem {a : Addr} {n : Nat} (h : 0 < n) : ∃ x ∈ MemPlace.row a n, x.block = a.block := by
  cases n with
  | zero => omega
  | succ n =>
    refine ⟨(MemPlace.row a (n + 1)).head (by simp [MemPlace.row]), List.head_mem _, ?_⟩
    simp [MemPlace.row, MemPlace.block]
set_option maxRecDepth 100000 in
theorem opn_open {W : World} {v : Value} {d : DataW H} {ps : List MemPlace} {r : Reach} {b0 : Nat} (hv : Value.okWide Tryz.prog W r b0 22 v)
    (h : DataW.Trod enc Tryz.prog W 0 (fun _ => true) true 22 v d ps) (hlt : ∀ x ∈ ps, x.block < W.heap.size) : ∃ m, OpnIs W v m := by
  obtain ⟨A, len, cap, rfl⟩ := okWide_slice Tryz.underlying22 hv
  obtain ⟨fuel, hf⟩ := h
  rcases open_slice Tryz.underlying22 hf with ⟨h0, _⟩ | ⟨a, len', cap', m, n, D, Pl, hcs, hb, hl, hm, hmm, hx, hi⟩
  · simp [Value.cells] at h0
    obtain ⟨rfl, rfl, rfl⟩ := h0
    exact ⟨0, none, 0, rfl, Nat.le_refl _, by unfold maxLen; omega, fun i hi => by omega⟩
  · simp [Value.cells] at hcs
    obtain ⟨rfl, rfl, rfl⟩ := hcs
    simp at hmm
    subst hmm
    have hps : ps = MemPlace.row a (m * Tryz.prog.cellsOf 34) ++ (List.range m).flatMap Pl := congrArg Prod.snd hx
    rw [cells_opp] at hps
    refine ⟨len, some a, m, rfl, hl, hm, fun i hil => ?_⟩
    obtain ⟨cs, hc, ht⟩ := hi i (by omega)
    rw [cells_opp] at hc
    obtain ⟨_, hlen, hcell⟩ := World.cells?_some hc
    obtain ⟨xs, k, _, ex, _, hxs, hel⟩ := DataW.trod_struct Tryz.underlying34 ht
    match cs, hlen with
    | [c0, c1, c2, c3], _ =>
      match xs, hxs with
      | [y0, y1, y2, y3], _ =>
        have t0 := hel 0 _ rfl
        have t1 := hel 1 _ rfl
        have t2 := hel 2 _ rfl
        have t3 := hel 3 _ rfl
        simp [cells_i, cells_j, cells_s] at t0 t1 t2 t3
        obtain ⟨z0, e0, _, w0⟩ := DataW.trod_int Tryz.underlying3 t0
        obtain ⟨s1, e1, _⟩ := DataW.trod_string Tryz.underlying9 t1
        obtain ⟨s2, e2, _⟩ := DataW.trod_string Tryz.underlying9 t2
        obtain ⟨z3, e3, _, w3⟩ := DataW.trod_int Tryz.underlying2 t3
        simp at e0 e1 e2 e3
        subst e0 e1 e2 e3
        have k0 := hcell 0 (by omega)
        have k1 := hcell 1 (by omega)
        have k2 := hcell 2 (by omega)
        have k3 := hcell 3 (by omega)
        refine ⟨a, z0, z3, s1, s2, rfl, ?_, ?_, k1, k2, k3, (bnd_i64 w3).1, (bnd_i64 w3).2⟩
        · obtain ⟨p, hp1, hp2⟩ := row_mem (a := a) (n := m * 4) (by omega)
          rw [← hp2]
          exact hlt p (by rw [hps]; exact List.mem_append.2 (.inl hp1))
        · have e : (a.add (i * 4)).add 0 = a.add (i * 4) := by simp [Addr.add]
          rw [← e]
          exact k0
end
end Go.Proofs.YtkkembbeejlomaaGreatDoor
