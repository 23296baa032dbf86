/- Calls of the net's laws in a row, read out of an argument. -/
import Derived.Test.YtfddlhcdlgdofaaGreatDoorZPrfMf
import Derived.Test.YtfddlhcdlgdofaaGreatDoorZNetR
set_option linter.unusedSimpArgs false
set_option linter.unusedVariables false
set_option linter.unnecessarySimpa false
namespace Go.Proofs.YtfddlhcdlgdofaaGreatDoor
open Go.ChangeShapes Go.WideShapes Go.RowKit Go.Deep

section
variable {H : Type} {enc : TypeId × Value → H}
theorem cells_nm : Tryz.prog.cellsOf 37 = 11 := by kernel_rfl
theorem cells_nb : Tryz.prog.cellsOf 4 = 1 := by kernel_rfl
theorem cells_nop : Tryz.prog.cellsOf 39 = 15 := by kernel_rfl
set_option maxRecDepth 100000 in
theorem nops_open {W : World} {v : Value} {d : DataW H} {ps : List MemPlace} {r : Reach} {b0 : Nat} (hv : Value.okWide Tryz.prog W r b0 22 v)
    (h : DataW.Trod enc Tryz.prog W 0 (fun _ => true) true 22 v d ps) (hlt : ∀ x ∈ ps, x.block < W.heap.size) : ∃ l, OpnsAt W v l ∧ ∀ o ∈ l, MsgIn o.m ∧ (-9223372036854775808 ≤ o.i ∧ o.i ≤ 9223372036854775807) ∧ (-9223372036854775808 ≤ o.k ∧ o.k ≤ 9223372036854775807) := by
  obtain ⟨A, len, cap, rfl⟩ := okWide_slice Tryz.underlying22 hv
  obtain ⟨fuel, hf⟩ := h
  rcases open_slice Tryz.underlying22 hf with ⟨h0, _⟩ | ⟨a, len', cap', m, n, D, Pl, hcs, hb, hl, hm, hmm, hx, hi⟩
  · simp [Value.cells] at h0
    obtain ⟨rfl, rfl, rfl⟩ := h0
    exact ⟨[], ⟨none, 0, rfl, Nat.le_refl _, by unfold maxLen; omega, fun i m hi => by simp at hi⟩, fun m hm => by cases hm⟩
  · simp [Value.cells] at hcs
    obtain ⟨rfl, rfl, rfl⟩ := hcs
    simp at hmm
    subst hmm
    have hps : ps = MemPlace.row a (m * Tryz.prog.cellsOf 39) ++ (List.range m).flatMap Pl := congrArg Prod.snd hx
    rw [cells_nop] at hps
    have each : ∀ i, i < len → ∃ z : OpN, (MsgIn z.m ∧ (-9223372036854775808 ≤ z.i ∧ z.i ≤ 9223372036854775807) ∧ (-9223372036854775808 ≤ z.k ∧ z.k ≤ 9223372036854775807)) ∧ ∃ tA tc oA oc, N15 W (a.add (i * 15)) z tA tc oA oc ∧ NumsAt W (.slice tA z.m.tl.length tc) z.m.tl ∧ OpsAt W (.slice oA z.m.os.length oc) z.m.os := by
      intro i hil
      obtain ⟨cs, hc, ht⟩ := hi i (by omega)
      rw [cells_nop] at hc
      obtain ⟨_, hlen, hcell⟩ := World.cells?_some hc
      obtain ⟨xs, k, _, ex, _, hxs, hel⟩ := DataW.trod_struct Tryz.underlying39 ht
      match cs, hlen with
      | [c0, c1, c2, c3, c4, c5, c6, c7, c8, c9, c10, c11, c12, c13, c14], _ =>
        match xs, hxs with
        | [q0, q1, q2, q3, q4], _ =>
          have hin0 : ∀ p, p ∈ q2.2 → p.block < W.heap.size := fun p hp => hlt p (by
            have e9 := congrArg Prod.snd ex
            simp at e9
            rw [hps]
            exact List.mem_append.2 (.inr (List.mem_flatMap.2 ⟨i, List.mem_range.2 (by omega), by rw [e9]; simp [hp]⟩)))
          have s0 := hel 0 _ rfl
          have s1 := hel 1 _ rfl
          have s2 := hel 2 _ rfl
          have s3 := hel 3 _ rfl
          have s4 := hel 4 _ rfl
          simp [cells_i, cells_nb, cells_nm] at s0 s1 s2 s3 s4
          obtain ⟨w0, e0, _⟩ := DataW.trod_int Tryz.underlying3 s0
          obtain ⟨w1, e1, _⟩ := DataW.trod_bool Tryz.underlying4 s1
          obtain ⟨w3, e3, _, i3⟩ := DataW.trod_int Tryz.underlying3 s3
          obtain ⟨w4, e4, _, i4⟩ := DataW.trod_int Tryz.underlying3 s4
          simp at e0 e1 e3 e4
          subst e0 e1 e3 e4
          obtain ⟨xs, k, _, ex, _, hxs, hel⟩ := DataW.trod_struct Tryz.underlying37 s2
          match xs, hxs with
          | [y0, y1, y2, y3, y4, y5, y6, y7, y8, y9, y10], _ =>
            have hin : ∀ p, p ∈ y9.2 ∨ p ∈ y10.2 → p.block < W.heap.size := fun p hp => hin0 p (by
              have e9 := congrArg Prod.snd ex
              simp at e9
              rw [e9]
              rcases hp with hp | hp <;> simp [hp])
            have t0 := hel 0 _ rfl
            have t1 := hel 1 _ rfl
            have t2 := hel 2 _ rfl
            have t3 := hel 3 _ rfl
            have t4 := hel 4 _ rfl
            have t5 := hel 5 _ rfl
            have t6 := hel 6 _ rfl
            have t7 := hel 7 _ rfl
            have t8 := hel 8 _ rfl
            have t9 := hel 9 _ rfl
            have t10 := hel 10 _ rfl
            simp [cells_i, cells_l, cells_s, cells_e, cells_nt, cells_ot] at t0 t1 t2 t3 t4 t5 t6 t7 t8 t9 t10
            obtain ⟨z0, e0, _⟩ := DataW.trod_int Tryz.underlying3 t0
            obtain ⟨z1, e1, _⟩ := DataW.trod_int Tryz.underlying3 t1
            obtain ⟨z2, e2, _⟩ := DataW.trod_int Tryz.underlying3 t2
            obtain ⟨z3, e3, _⟩ := DataW.trod_int Tryz.underlying3 t3
            obtain ⟨z4, e4, _⟩ := DataW.trod_int Tryz.underlying3 t4
            obtain ⟨z5, e5, _⟩ := DataW.trod_int Tryz.underlying3 t5
            obtain ⟨z6, e6, _⟩ := DataW.trod_int Tryz.underlying3 t6
            obtain ⟨z7, e7, _⟩ := DataW.trod_int Tryz.underlying24 t7
            obtain ⟨z8, e8, _, w8⟩ := DataW.trod_int Tryz.underlying2 t8
            simp at e0 e1 e2 e3 e4 e5 e6 e7 e8
            subst e0 e1 e2 e3 e4 e5 e6 e7 e8
            obtain ⟨tl, tA, tc, rfl, hn, hnr⟩ := nums_trod t9 (fun p hp => hin p (.inl hp))
            obtain ⟨os, oA, oc, rfl, ho, hor⟩ := ops_trod t10 (fun p hp => hin p (.inr hp))
            have k0 := hcell 0 (by omega)
            have kk := fun j (hj : j < 15) => hcell j hj
            have e : (a.add (i * 15)).add 0 = a.add (i * 15) := by simp [Addr.add]
            refine ⟨⟨w0, w1, ⟨z0, z1, z2, z3, z4, z5, z6, z7, z8, tl, os⟩, w3, w4⟩, ⟨⟨hnr, hor⟩, bnd_i64 i3, bnd_i64 i4⟩, tA, tc, oA, oc, ⟨?_, kk 1 (by decide), kk 2 (by decide), kk 3 (by decide), kk 4 (by decide), kk 5 (by decide), kk 6 (by decide), kk 7 (by decide), kk 8 (by decide), kk 9 (by decide), kk 10 (by decide), kk 11 (by decide), kk 12 (by decide), kk 13 (by decide), kk 14 (by decide)⟩, hn, ho⟩
            rw [← e]
            exact k0
    obtain ⟨l, hlen, hls⟩ := list_of each
    subst hlen
    refine ⟨l, ⟨some a, m, rfl, hl, hm, fun i z hiz => ?_⟩, fun z hz => by
      obtain ⟨i, hi⟩ := List.getElem?_of_mem hz
      exact (hls i z hi).1⟩
    obtain ⟨_, tA, tc, oA, oc, q1, q2, q3⟩ := hls i z hiz
    refine ⟨a, tA, tc, oA, oc, rfl, ?_, q1, q2, q3⟩
    have hlen0 : 0 < l.length := Nat.lt_of_le_of_lt (Nat.zero_le _) (List.getElem?_eq_some_iff.1 hiz).1
    obtain ⟨p, hp1, hp2⟩ := row_mem (a := a) (n := m * 15) (by omega)
    rw [← hp2]
    exact hlt p (by rw [hps]; exact List.mem_append.2 (.inl hp1))
end
end Go.Proofs.YtfddlhcdlgdofaaGreatDoor
