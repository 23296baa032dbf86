/- A call of the law's, read out of an argument. -/
import Derived.Test.YtoidfkcecggjfaaDoorZPrfV
set_option linter.unusedSimpArgs false
set_option linter.unusedVariables false
set_option linter.unnecessarySimpa false
namespace Go.Proofs.YtoidfkcecggjfaaDoor
open Go.ChangeShapes Go.WideShapes Go.RowKit Go.Deep

/-- A slice of calls that was given. -/
def OpvIs (w : World) (v : Value) (m : Nat) : Prop := ∃ A cap, v = .slice A m cap ∧ m ≤ cap ∧ cap ≤ maxLen ∧ ∀ i, i < m → ∃ (a : Addr) (kd n : Int) (nr : Bool) (lv : Value) (L : List K), A = some a ∧ a.block < w.heap.size ∧ w.cell? (a.add (i * 4)) = some (.int .i64 kd) ∧ w.cell? ((a.add (i * 4)).add 1) = some (.bool nr) ∧ w.cell? ((a.add (i * 4)).add 2) = some (.int .i64 n) ∧ w.cell? ((a.add (i * 4)).add 3) = some lv ∧ TxtIs w lv L ∧ (-9223372036854775808 ≤ kd ∧ kd ≤ 9223372036854775807) ∧ (-9223372036854775808 ≤ n ∧ n ≤ 9223372036854775807)
section
variable {H : Type} {enc : TypeId × Value → H}
theorem cells_i : Tryd.prog.cellsOf 3 = 1 := by kernel_rfl
theorem cells_b : Tryd.prog.cellsOf 4 = 1 := by kernel_rfl
theorem cells_opv : Tryd.prog.cellsOf 31 = 4 := by kernel_rfl
set_option maxRecDepth 100000 in
theorem vops_open {W : World} {v : Value} {d : DataW H} {ps : List MemPlace} {r : Reach} {b0 : Nat} (hv : Value.okWide Tryd.prog W r b0 22 v)
    (h : DataW.Trod enc Tryd.prog W 0 (fun _ => true) true 22 v d ps) (hlt : ∀ x ∈ ps, x.block < W.heap.size) : ∃ m, OpvIs W v m := by
  obtain ⟨A, len, cap, rfl⟩ := okWide_slice Tryd.underlying22 hv
  obtain ⟨fuel, hf⟩ := h
  rcases open_slice Tryd.underlying22 hf with ⟨h0, _⟩ | ⟨a, len', cap', m, n, D, Pl, hcs, hb, hl, hm, hmm, hx, hi⟩
  · simp [Value.cells] at h0
    obtain ⟨rfl, rfl, rfl⟩ := h0
    exact ⟨0, none, 0, rfl, Nat.le_refl _, by unfold maxLen; omega, fun i hi => by omega⟩
  · simp [Value.cells] at hcs
    obtain ⟨rfl, rfl, rfl⟩ := hcs
    simp at hmm
    subst hmm
    have hps : ps = MemPlace.row a (m * Tryd.prog.cellsOf 31) ++ (List.range m).flatMap Pl := congrArg Prod.snd hx
    rw [cells_opv] at hps
    refine ⟨len, some a, m, rfl, hl, hm, fun i hil => ?_⟩
    obtain ⟨cs, hc, ht⟩ := hi i (by omega)
    rw [cells_opv] at hc
    obtain ⟨_, hlen, hcell⟩ := World.cells?_some hc
    obtain ⟨xs, k, _, ex, _, hxs, hel⟩ := DataW.trod_struct Tryd.underlying31 ht
    match cs, hlen with
    | [c0, c1, c2, c3], _ =>
      match xs, hxs with
      | [y0, y1, y2, y3], _ =>
        have t0 := hel 0 _ rfl
        have t1 := hel 1 _ rfl
        have t2 := hel 2 _ rfl
        have t3 := hel 3 _ rfl
        simp [cells_i, cellsTs, cells_b] at t0 t1 t2 t3
        obtain ⟨z0, e0, _, w0⟩ := DataW.trod_int Tryd.underlying3 t0
        obtain ⟨z1, e1, _⟩ := DataW.trod_bool Tryd.underlying4 t1
        obtain ⟨z2, e2, _, w2⟩ := DataW.trod_int Tryd.underlying3 t2
        simp at e0 e1 e2
        subst e0 e1 e2
        obtain ⟨L, hL⟩ := txt_trod t3 (fun p hp => hlt p (by
          have e9 := congrArg Prod.snd ex
          simp at e9
          rw [hps]
          exact List.mem_append.2 (.inr (List.mem_flatMap.2 ⟨i, List.mem_range.2 (by omega), by rw [e9]; simp [hp]⟩))))
        have k0 := hcell 0 (by omega)
        have k1 := hcell 1 (by omega)
        have k2 := hcell 2 (by omega)
        have k3 := hcell 3 (by omega)
        refine ⟨a, z0, z2, z1, c3, L, rfl, ?_, ?_, k1, k2, k3, hL, bnd_i64 w0, bnd_i64 w2⟩
        · obtain ⟨p, hp1, hp2⟩ := row_mem (a := a) (n := m * 4) (by omega)
          rw [← hp2]
          exact hlt p (by rw [hps]; exact List.mem_append.2 (.inl hp1))
        · have e : (a.add (i * 4)).add 0 = a.add (i * 4) := by simp [Addr.add]
          rw [← e]
          exact k0
end
end Go.Proofs.YtoidfkcecggjfaaDoor
