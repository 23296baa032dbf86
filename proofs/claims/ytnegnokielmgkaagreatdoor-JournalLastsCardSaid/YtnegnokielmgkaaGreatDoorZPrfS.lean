/- What the row of JournalSaves gives its walk: operations read out of an argument. -/
import Derived.Test.YtnegnokielmgkaaGreatDoorZPrfJ
import Derived.Test.YtnegnokielmgkaaGreatDoorZJsaE
set_option linter.unusedSimpArgs false
set_option linter.unusedVariables false
set_option linter.unnecessarySimpa false
namespace Go.Proofs.YtnegnokielmgkaaGreatDoor
open Go.ChangeShapes Go.WideShapes Go.RowKit Go.Deep

section
variable {H : Type} {enc : TypeId × Value → H}
theorem cells_sint : Tryz.prog.cellsOf 3 = 1 := by kernel_rfl
theorem cells_sparts : Tryz.prog.cellsOf 42 = 1 := by kernel_rfl
theorem cells_sop : Tryz.prog.cellsOf 61 = 3 := by kernel_rfl
set_option maxRecDepth 100000 in
/-- A slice of slices of bytes that was read, in whatever cell it stood. -/
theorem parts_cell {W : World} {x : Value} {fuel : Nat} {y : DataW H × List MemPlace} (hf : DataW.trod enc Tryz.prog W 0 (fun _ => true) true fuel 42 [x] = some y) (hlt : ∀ p ∈ y.2, p.block < W.heap.size) : ∃ ls, PIs W x ls := by
  rcases open_slice1 Tryz.underlying42 cells22 hf with ⟨h0, _⟩ | ⟨a, len, cap, m, n, V, D, Pl, hcs, hb, hl, hm, hmm, hx, hi⟩
  · obtain rfl : x = .slice none 0 0 := by simpa using h0
    exact ⟨[], none, 0, rfl, Nat.le_refl _, by unfold maxLen; omega, fun i b hi => by simp at hi⟩
  · obtain rfl : x = .slice (some a) len cap := by simpa using hcs
    simp at hmm
    subst hmm
    have hps : y.2 = MemPlace.row a m ++ (List.range m).flatMap Pl := congrArg Prod.snd hx
    have each : ∀ i, i < len → ∃ l : List UInt8, ∃ x, W.cell? (a.add i) = some x ∧ BIs W x l := by
      intro i hil
      obtain ⟨hc, ht⟩ := hi i (by omega)
      obtain ⟨l, hl2⟩ := bytes_trod1 ht (fun p hp => hlt p (by rw [hps]; exact List.mem_append.2 (.inr (List.mem_flatMap.2 ⟨i, List.mem_range.2 (by omega), hp⟩))))
      exact ⟨l, _, hc, hl2⟩
    obtain ⟨ls, hlen, hls⟩ := list_of each
    subst hlen
    refine ⟨ls, some a, m, rfl, hl, hm, fun i l hil => ?_⟩
    obtain ⟨x, hc, hB⟩ := hls i l hil
    have hlen0 : 0 < ls.length := Nat.lt_of_le_of_lt (Nat.zero_le _) (List.getElem?_eq_some_iff.1 hil).1
    obtain ⟨p, hp1, hp2⟩ := row_mem (a := a) (n := m) (by omega)
    exact ⟨a, x, rfl, by rw [← hp2]; exact hlt p (by rw [hps]; exact List.mem_append.2 (.inl hp1)), hc, hB⟩
set_option maxRecDepth 100000 in
/-- A slice of operations that was read. -/
theorem jops_open {W : World} {v : Value} {d : DataW H} {ps : List MemPlace} {r : Reach} {b0 : Nat} (hv : Value.okWide Tryz.prog W r b0 56 v)
    (h : DataW.Trod enc Tryz.prog W 0 (fun _ => true) true 56 v d ps) (hlt : ∀ x ∈ ps, x.block < W.heap.size) : ∃ m, JopsIs W v m := by
  obtain ⟨A, len, cap, rfl⟩ := okWide_slice Tryz.underlying56 hv
  obtain ⟨fuel, hf⟩ := h
  rcases open_slice Tryz.underlying56 hf with ⟨h0, _⟩ | ⟨a, len', cap', m, n, D, Pl, hcs, hb, hl, hm, hmm, hx, hi⟩
  · simp [Value.cells] at h0
    obtain ⟨rfl, rfl, rfl⟩ := h0
    exact ⟨0, none, 0, rfl, Nat.le_refl _, by unfold maxLen; omega, fun i hi => by omega⟩
  · simp [Value.cells] at hcs
    obtain ⟨rfl, rfl, rfl⟩ := hcs
    simp at hmm
    subst hmm
    have hps : ps = MemPlace.row a (m * Tryz.prog.cellsOf 61) ++ (List.range m).flatMap Pl := congrArg Prod.snd hx
    rw [cells_sop] at hps
    refine ⟨len, some a, m, rfl, hl, hm, fun i hil => ?_⟩
    obtain ⟨cs, hc, ht⟩ := hi i (by omega)
    rw [cells_sop] at hc
    obtain ⟨_, hlen, hcell⟩ := World.cells?_some hc
    obtain ⟨xs, k, _, ex, _, hxs, hel⟩ := DataW.trod_struct Tryz.underlying61 ht
    match cs, hlen with
    | [c0, c1, c2], _ =>
      match xs, hxs with
      | [y0, y1, y2], _ =>
        have hpl : ∀ y ∈ [y0, y1, y2], ∀ p ∈ y.2, p.block < W.heap.size := fun y hy p hp => hlt p (by
          rw [hps]
          refine List.mem_append.2 (.inr (List.mem_flatMap.2 ⟨i, List.mem_range.2 (by omega), ?_⟩))
          rw [show Pl i = ([y0, y1, y2].flatMap (·.2)) from congrArg Prod.snd ex]
          exact List.mem_flatMap.2 ⟨y, hy, hp⟩)
        have t0 := hel 0 _ rfl
        have t1 := hel 1 _ rfl
        have t2 := hel 2 _ rfl
        simp [cells_sint, cells_sparts] at t0 t1 t2
        obtain ⟨z0, e0, _, w0⟩ := DataW.trod_int Tryz.underlying3 t0
        obtain ⟨ls, hP⟩ := parts_cell t1 (hpl y1 (by simp))
        obtain ⟨z2, e2, _, w2⟩ := DataW.trod_int Tryz.underlying3 t2
        simp at e0 e2
        subst e0 e2
        have k0 := hcell 0 (by omega)
        have k1 := hcell 1 (by omega)
        have k2 := hcell 2 (by omega)
        refine ⟨a, z0, c1, z2, ls, rfl, ?_, ?_, k1, k2, hP⟩
        · obtain ⟨p, hp1, hp2⟩ := row_mem (a := a) (n := m * 3) (by omega)
          rw [← hp2]
          exact hlt p (by rw [hps]; exact List.mem_append.2 (.inl hp1))
        · have e : (a.add (i * 3)).add 0 = a.add (i * 3) := by simp [Addr.add]
          rw [← e]
          exact k0
end
end Go.Proofs.YtnegnokielmgkaaGreatDoor
