/- Messages in a row, read out of an argument. Numbers in a row, read out of an argument, beside messages. -/
import Derived.Test.YtabfbnpbgdlinaaGreatDoorZPrfMf
import Derived.Test.YtabfbnpbgdlinaaGreatDoorZMsgA
set_option linter.unusedSimpArgs false
set_option linter.unusedVariables false
set_option linter.unnecessarySimpa false
namespace Go.Proofs.YtabfbnpbgdlinaaGreatDoor
open Go.ChangeShapes Go.WideShapes Go.RowKit Go.Deep

section
variable {H : Type} {enc : TypeId × Value → H}
theorem cells_msg : Tryz.prog.cellsOf 37 = 11 := by kernel_rfl
set_option maxRecDepth 100000 in
theorem msgs_open {W : World} {v : Value} {d : DataW H} {ps : List MemPlace} {r : Reach} {b0 : Nat} (hv : Value.okWide Tryz.prog W r b0 42 v)
    (h : DataW.Trod enc Tryz.prog W 0 (fun _ => true) true 42 v d ps) (hlt : ∀ x ∈ ps, x.block < W.heap.size) : ∃ l, MsgsAt W v l ∧ ∀ m ∈ l, MsgIn m ∧ m.ti ≤ 9223372036854775807 := by
  obtain ⟨A, len, cap, rfl⟩ := okWide_slice Tryz.underlying42 hv
  obtain ⟨fuel, hf⟩ := h
  rcases open_slice Tryz.underlying42 hf with ⟨h0, _⟩ | ⟨a, len', cap', m, n, D, Pl, hcs, hb, hl, hm, hmm, hx, hi⟩
  · simp [Value.cells] at h0
    obtain ⟨rfl, rfl, rfl⟩ := h0
    exact ⟨[], ⟨none, 0, rfl, Nat.le_refl _, by unfold maxLen; omega, fun i m hi => by simp at hi⟩, fun m hm => by cases hm⟩
  · simp [Value.cells] at hcs
    obtain ⟨rfl, rfl, rfl⟩ := hcs
    simp at hmm
    subst hmm
    have hps : ps = MemPlace.row a (m * Tryz.prog.cellsOf 37) ++ (List.range m).flatMap Pl := congrArg Prod.snd hx
    rw [cells_msg] at hps
    have each : ∀ i, i < len → ∃ z : MsgV, (MsgIn z ∧ z.ti ≤ 9223372036854775807) ∧ ∃ tA tc oA oc, M11 W (a.add (i * 11)) z tA tc oA oc ∧ NumsAt W (.slice tA z.tl.length tc) z.tl ∧ OpsAt W (.slice oA z.os.length oc) z.os := by
      intro i hil
      obtain ⟨cs, hc, ht⟩ := hi i (by omega)
      rw [cells_msg] at hc
      obtain ⟨_, hlen, hcell⟩ := World.cells?_some hc
      obtain ⟨xs, k, _, ex, _, hxs, hel⟩ := DataW.trod_struct Tryz.underlying37 ht
      match cs, hlen with
      | [c0, c1, c2, c3, c4, c5, c6, c7, c8, c9, c10], _ =>
        match xs, hxs with
        | [y0, y1, y2, y3, y4, y5, y6, y7, y8, y9, y10], _ =>
          have hin : ∀ p, p ∈ y9.2 ∨ p ∈ y10.2 → p.block < W.heap.size := fun p hp => hlt p (by
            have e9 := congrArg Prod.snd ex
            simp at e9
            rw [hps]
            exact List.mem_append.2 (.inr (List.mem_flatMap.2 ⟨i, List.mem_range.2 (by omega), by rw [e9]; rcases hp with hp | hp <;> simp [hp]⟩)))
          have t0 := hel 0 _ rfl
          have t1 := hel 1 _ rfl
          have t2 := hel 2 _ rfl
          have t3 := hel 3 _ rfl
          have t4 := hel 4 _ rfl
          have t5 := hel 5 _ rfl
          have t6 := hel 6 _ rfl
          have t7 := hel 7 _ rfl
          have t8 := hel 8 _ rfl
          have t9 := hel 9 _ rfl
          have t10 := hel 10 _ rfl
          simp [cells_i, cells_l, cells_s, cells_e, cells_nt, cells_ot] at t0 t1 t2 t3 t4 t5 t6 t7 t8 t9 t10
          obtain ⟨z0, e0, _⟩ := DataW.trod_int Tryz.underlying3 t0
          obtain ⟨z1, e1, _⟩ := DataW.trod_int Tryz.underlying3 t1
          obtain ⟨z2, e2, _⟩ := DataW.trod_int Tryz.underlying3 t2
          obtain ⟨z3, e3, _⟩ := DataW.trod_int Tryz.underlying3 t3
          obtain ⟨z4, e4, _⟩ := DataW.trod_int Tryz.underlying3 t4
          obtain ⟨z5, e5, _⟩ := DataW.trod_int Tryz.underlying3 t5
          obtain ⟨z6, e6, _⟩ := DataW.trod_int Tryz.underlying3 t6
          obtain ⟨z7, e7, _⟩ := DataW.trod_int Tryz.underlying24 t7
          obtain ⟨z8, e8, _, w8⟩ := DataW.trod_int Tryz.underlying2 t8
          simp at e0 e1 e2 e3 e4 e5 e6 e7 e8
          subst e0 e1 e2 e3 e4 e5 e6 e7 e8
          obtain ⟨tl, tA, tc, rfl, hn, hnr⟩ := nums_trod t9 (fun p hp => hin p (.inl hp))
          obtain ⟨os, oA, oc, rfl, ho, hor⟩ := ops_trod t10 (fun p hp => hin p (.inr hp))
          have k0 := hcell 0 (by omega)
          have k1 := hcell 1 (by omega)
          have k2 := hcell 2 (by omega)
          have k3 := hcell 3 (by omega)
          have k4 := hcell 4 (by omega)
          have k5 := hcell 5 (by omega)
          have k6 := hcell 6 (by omega)
          have k7 := hcell 7 (by omega)
          have k8 := hcell 8 (by omega)
          have k9 := hcell 9 (by omega)
          have k10 := hcell 10 (by omega)
          have e : (a.add (i * 11)).add 0 = a.add (i * 11) := by simp [Addr.add]
          refine ⟨⟨z0, z1, z2, z3, z4, z5, z6, z7, z8, tl, os⟩, ⟨⟨hnr, hor⟩, (bnd_i64 w8).2⟩, tA, tc, oA, oc, ⟨?_, k1, k2, k3, k4, k5, k6, k7, k8, k9, k10⟩, hn, ho⟩
          rw [← e]
          exact k0
    obtain ⟨l, hlen, hls⟩ := list_of each
    subst hlen
    refine ⟨l, ⟨some a, m, rfl, hl, hm, fun i z hiz => ?_⟩, fun z hz => by
      obtain ⟨i, hi⟩ := List.getElem?_of_mem hz
      exact (hls i z hi).1⟩
    obtain ⟨_, tA, tc, oA, oc, q1, q2, q3⟩ := hls i z hiz
    refine ⟨a, tA, tc, oA, oc, rfl, ?_, q1, q2, q3⟩
    have hlen0 : 0 < l.length := Nat.lt_of_le_of_lt (Nat.zero_le _) (List.getElem?_eq_some_iff.1 hiz).1
    obtain ⟨p, hp1, hp2⟩ := row_mem (a := a) (n := m * 11) (by omega)
    rw [← hp2]
    exact hlt p (by rw [hps]; exact List.mem_append.2 (.inl hp1))
end
end Go.Proofs.YtabfbnpbgdlinaaGreatDoor

namespace Go.Proofs.YtabfbnpbgdlinaaGreatDoor
open Go.ChangeShapes Go.WideShapes Go.RowKit Go.Deep
section
variable {H : Type} {enc : TypeId × Value → H}
theorem cells_int : Tryz.prog.cellsOf 3 = 1 := by kernel_rfl
set_option maxRecDepth 100000 in
/-- A slice of numbers that was read. -/
theorem ints_open {W : World} {v : Value} {d : DataW H} {ps : List MemPlace} {r : Reach} {b0 : Nat} (hv : Value.okWide Tryz.prog W r b0 64 v)
    (h : DataW.Trod enc Tryz.prog W 0 (fun _ => true) true 64 v d ps) (hlt : ∀ x ∈ ps, x.block < W.heap.size) : ∃ l, NumsAt W v l ∧ ∀ x ∈ l, -9223372036854775808 ≤ x ∧ x ≤ 9223372036854775807 := by
  obtain ⟨A, len, cap, rfl⟩ := okWide_slice Tryz.underlying64 hv
  obtain ⟨fuel, hf⟩ := h
  rcases open_slice1 Tryz.underlying64 cells_int hf with ⟨h0, _⟩ | ⟨a, len', cap', m, n, V, D, Pl, hcs, hb, hl, hm, hmm, hx, hi⟩
  · simp [Value.cells] at h0
    obtain ⟨rfl, rfl, rfl⟩ := h0
    exact ⟨[], ⟨none, 0, rfl, Nat.le_refl _, by unfold maxLen; omega, fun i b hi => by simp at hi⟩, (fun x hx => by cases hx)⟩
  · simp [Value.cells] at hcs
    obtain ⟨rfl, rfl, rfl⟩ := hcs
    simp at hmm
    subst hmm
    have hps : ps = MemPlace.row a m ++ (List.range m).flatMap Pl := congrArg Prod.snd hx
    have each : ∀ i, i < len → ∃ z : Int, W.cell? (a.add i) = some (.int .i64 z) ∧ -9223372036854775808 ≤ z ∧ z ≤ 9223372036854775807 := by
      intro i hil
      obtain ⟨hc, ht⟩ := hi i (by omega)
      obtain ⟨z, e, _, hw⟩ := DataW.trod_int Tryz.underlying3 ht
      simp at e
      exact ⟨z, by rw [hc, e], bnd_i64 hw⟩
    obtain ⟨l, hlen, hls⟩ := list_of each
    subst hlen
    refine ⟨l, ⟨some a, m, rfl, hl, hm, fun i b hib => ⟨a, rfl, ?_, (hls i b hib).1⟩⟩, fun x hx => ?_⟩
    · have hlen0 : 0 < l.length := Nat.lt_of_le_of_lt (Nat.zero_le _) (List.getElem?_eq_some_iff.1 hib).1
      obtain ⟨p, hp1, hp2⟩ := row_mem (a := a) (n := m) (by omega)
      rw [← hp2]
      exact hlt p (by rw [hps]; exact List.mem_append.2 (.inl hp1))
    · obtain ⟨i, hi⟩ := List.getElem?_of_mem hx
      exact (hls i x hi).2
end
end Go.Proofs.YtabfbnpbgdlinaaGreatDoor
