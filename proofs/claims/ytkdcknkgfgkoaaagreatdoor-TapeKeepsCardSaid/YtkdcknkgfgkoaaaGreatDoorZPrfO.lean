/- What the row of TapeKeeps gives its walk: operations read out of an argument. -/
import Derived.Test.YtkdcknkgfgkoaaaGreatDoorZPrfE
import Derived.Test.YtkdcknkgfgkoaaaGreatDoorZLawR
set_option linter.unusedSimpArgs false
set_option linter.unusedVariables false
set_option linter.unnecessarySimpa false
namespace Go.Proofs.YtkdcknkgfgkoaaaGreatDoor
open Go.ChangeShapes Go.WideShapes Go.RowKit Go.Deep

section
variable {H : Type} {enc : TypeId × Value → H}
theorem cells_u8 : Tryz.prog.cellsOf 5 = 1 := by kernel_rfl
theorem cells_bytes : Tryz.prog.cellsOf 32 = 1 := by kernel_rfl
theorem cells_ints : Tryz.prog.cellsOf 23 = 1 := by kernel_rfl
theorem cells_op : Tryz.prog.cellsOf 34 = 5 := by kernel_rfl
theorem byte_of {z : Int} (h : (Lit.int .u8 z).wf = true) : ∃ b : UInt8, z = (b.toNat : Int) := by
  simp [Lit.wf] at h
  have e1 : IntKind.u8.min = 0 := by decide
  have e2 : IntKind.u8.max = 255 := by decide
  rw [e1, e2] at h
  refine ⟨UInt8.ofNat z.toNat, ?_⟩
  rw [UInt8.toNat_ofNat']
  omega
set_option maxRecDepth 100000 in
/-- A slice of bytes that was read, in whatever cell it stood. -/
theorem bytes_cell {W : World} {x : Value} {fuel : Nat} {y : DataW H × List MemPlace} (hf : DataW.trod enc Tryz.prog W 0 (fun _ => true) true fuel 32 [x] = some y) (hlt : ∀ p ∈ y.2, p.block < W.heap.size) : ∃ l, BIs W x l := by
  rcases open_slice1 Tryz.underlying32 cells_u8 hf with ⟨h0, _⟩ | ⟨a, len, cap, m, n, V, D, Pl, hcs, hb, hl, hm, hmm, hx, hi⟩
  · obtain rfl : x = .slice none 0 0 := by simpa using h0
    exact ⟨[], none, 0, rfl, Nat.le_refl _, by unfold maxLen; omega, fun i b hi => by simp at hi⟩
  · obtain rfl : x = .slice (some a) len cap := by simpa using hcs
    simp at hmm
    subst hmm
    have each : ∀ i, i < len → ∃ b : UInt8, W.cell? (a.add i) = some (.int .u8 (b.toNat : Int)) := by
      intro i hil
      obtain ⟨hc, ht⟩ := hi i (by omega)
      obtain ⟨z, e, _, hw⟩ := DataW.trod_int Tryz.underlying5 ht
      obtain ⟨b, rfl⟩ := byte_of hw
      simp at e
      exact ⟨b, by rw [hc, e]⟩
    obtain ⟨l, hlen, hls⟩ := list_of each
    subst hlen
    refine ⟨l, some a, m, rfl, hl, hm, fun i b hib => ⟨a, rfl, ?_, hls i b hib⟩⟩
    have hlen0 : 0 < l.length := Nat.lt_of_le_of_lt (Nat.zero_le _) (List.getElem?_eq_some_iff.1 hib).1
    obtain ⟨p, hp1, hp2⟩ := row_mem (a := a) (n := m) (by omega)
    rw [← hp2]
    refine hlt p ?_
    have : y.2 = MemPlace.row a m ++ (List.range m).flatMap Pl := congrArg Prod.snd hx
    rw [this]
    exact List.mem_append.2 (.inl hp1)
set_option maxRecDepth 100000 in
/-- A slice of numbers that was read, in whatever cell it stood. -/
theorem ints_cell {W : World} {x : Value} {fuel : Nat} {y : DataW H × List MemPlace} (hf : DataW.trod enc Tryz.prog W 0 (fun _ => true) true fuel 23 [x] = some y) (hlt : ∀ p ∈ y.2, p.block < W.heap.size) : ∃ l, IIs W x l ∧ ∀ k ∈ l, inR k := by
  rcases open_slice1 Tryz.underlying23 cells_int hf with ⟨h0, _⟩ | ⟨a, len, cap, m, n, V, D, Pl, hcs, hb, hl, hm, hmm, hx, hi⟩
  · obtain rfl : x = .slice none 0 0 := by simpa using h0
    exact ⟨[], ⟨none, 0, rfl, Nat.le_refl _, by unfold maxLen; omega, fun i b hi => by simp at hi⟩, fun k hk => by cases hk⟩
  · obtain rfl : x = .slice (some a) len cap := by simpa using hcs
    simp at hmm
    subst hmm
    have each : ∀ i, i < len → ∃ z : Int, W.cell? (a.add i) = some (.int .i64 z) ∧ inR z := by
      intro i hil
      obtain ⟨hc, ht⟩ := hi i (by omega)
      obtain ⟨z, e, _, hw⟩ := DataW.trod_int Tryz.underlying3 ht
      simp at e
      exact ⟨z, by rw [hc, e], bnd_i64 hw⟩
    obtain ⟨l, hlen, hls⟩ := list_of each
    subst hlen
    refine ⟨l, ⟨some a, m, rfl, hl, hm, fun i b hib => ⟨a, rfl, ?_, (hls i b hib).1⟩⟩, fun k hk => ?_⟩
    · have hlen0 : 0 < l.length := Nat.lt_of_le_of_lt (Nat.zero_le _) (List.getElem?_eq_some_iff.1 hib).1
      obtain ⟨p, hp1, hp2⟩ := row_mem (a := a) (n := m) (by omega)
      rw [← hp2]
      refine hlt p ?_
      have : y.2 = MemPlace.row a m ++ (List.range m).flatMap Pl := congrArg Prod.snd hx
      rw [this]
      exact List.mem_append.2 (.inl hp1)
    · obtain ⟨i, hi⟩ := List.getElem?_of_mem hk
      exact (hls i k hi).2
set_option maxRecDepth 100000 in
/-- A slice of operations that was read. -/
theorem ops_open {W : World} {v : Value} {d : DataW H} {ps : List MemPlace} {r : Reach} {b0 : Nat} (hv : Value.okWide Tryz.prog W r b0 22 v)
    (h : DataW.Trod enc Tryz.prog W 0 (fun _ => true) true 22 v d ps) (hlt : ∀ x ∈ ps, x.block < W.heap.size) : ∃ m, OpsIs W v m := by
  obtain ⟨A, len, cap, rfl⟩ := okWide_slice Tryz.underlying22 hv
  obtain ⟨fuel, hf⟩ := h
  rcases open_slice Tryz.underlying22 hf with ⟨h0, _⟩ | ⟨a, len', cap', m, n, D, Pl, hcs, hb, hl, hm, hmm, hx, hi⟩
  · simp [Value.cells] at h0
    obtain ⟨rfl, rfl, rfl⟩ := h0
    exact ⟨0, none, 0, rfl, Nat.le_refl _, by unfold maxLen; omega, fun i hi => by omega⟩
  · simp [Value.cells] at hcs
    obtain ⟨rfl, rfl, rfl⟩ := hcs
    simp at hmm
    subst hmm
    have hps : ps = MemPlace.row a (m * Tryz.prog.cellsOf 34) ++ (List.range m).flatMap Pl := congrArg Prod.snd hx
    rw [cells_op] at hps
    refine ⟨len, some a, m, rfl, hl, hm, fun i hil => ?_⟩
    obtain ⟨cs, hc, ht⟩ := hi i (by omega)
    rw [cells_op] at hc
    obtain ⟨_, hlen, hcell⟩ := World.cells?_some hc
    obtain ⟨xs, k, _, ex, _, hxs, hel⟩ := DataW.trod_struct Tryz.underlying34 ht
    match cs, hlen with
    | [c0, c1, c2, c3, c4], _ =>
      match xs, hxs with
      | [y0, y1, y2, y3, y4], _ =>
        have hpl : ∀ y ∈ [y0, y1, y2, y3, y4], ∀ p ∈ y.2, p.block < W.heap.size := fun y hy p hp => hlt p (by
          rw [hps]
          refine List.mem_append.2 (.inr (List.mem_flatMap.2 ⟨i, List.mem_range.2 (by omega), ?_⟩))
          rw [show Pl i = ([y0, y1, y2, y3, y4].flatMap (·.2)) from congrArg Prod.snd ex]
          exact List.mem_flatMap.2 ⟨y, hy, hp⟩)
        have t0 := hel 0 _ rfl
        have t1 := hel 1 _ rfl
        have t2 := hel 2 _ rfl
        have t3 := hel 3 _ rfl
        have t4 := hel 4 _ rfl
        simp [cells_int, cells_bytes, cells_ints] at t0 t1 t2 t3 t4
        obtain ⟨z0, e0, _, w0⟩ := DataW.trod_int Tryz.underlying3 t0
        obtain ⟨z1, e1, _, w1⟩ := DataW.trod_int Tryz.underlying3 t1
        obtain ⟨z2, e2, _, w2⟩ := DataW.trod_int Tryz.underlying3 t2
        obtain ⟨b, hB⟩ := bytes_cell t3 (hpl y3 (by simp))
        obtain ⟨ks, hK, hkr⟩ := ints_cell t4 (hpl y4 (by simp))
        simp at e0 e1 e2
        subst e0 e1 e2
        have k0 := hcell 0 (by omega)
        have k1 := hcell 1 (by omega)
        have k2 := hcell 2 (by omega)
        have k3 := hcell 3 (by omega)
        have k4 := hcell 4 (by omega)
        refine ⟨a, z0, z1, z2, c3, c4, b, ks, rfl, ?_, ?_, k1, k2, k3, k4, ⟨⟨_, _, rfl, hB, hK⟩, bnd_i64 w0, bnd_i64 w1, bnd_i64 w2, hkr⟩⟩
        · obtain ⟨p, hp1, hp2⟩ := row_mem (a := a) (n := m * 5) (by omega)
          rw [← hp2]
          exact hlt p (by rw [hps]; exact List.mem_append.2 (.inl hp1))
        · have e : (a.add (i * 5)).add 0 = a.add (i * 5) := by simp [Addr.add]
          rw [← e]
          exact k0
end
end Go.Proofs.YtkdcknkgfgkoaaaGreatDoor
