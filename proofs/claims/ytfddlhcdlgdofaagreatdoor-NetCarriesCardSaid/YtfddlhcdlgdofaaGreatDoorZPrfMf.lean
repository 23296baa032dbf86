/- What the rows of the messages' laws give a walk: the two listed variables, and a message read out of an argument. -/
import Derived.Test.YtfddlhcdlgdofaaGreatDoorZMegA
import Derived.Test.YtfddlhcdlgdofaaGreatDoorZMefC
import Derived.Test.YtfddlhcdlgdofaaGreatDoorRows
import Derived.Test.YtfddlhcdlgdofaaGreatDoorChecked
import Derived.ProofKit
import Derived.LaidLaws
import Derived.LaidHandle
import Derived.MakeChecks
import Derived.OpenShut
import Derived.Stop.Joined
import Derived.ChangeVars
import Derived.Deep.Slices
import Derived.Handed
import Derived.LaidSub
set_option linter.unusedSimpArgs false
set_option linter.unusedVariables false
set_option linter.unnecessarySimpa false
namespace Go.Proofs.YtfddlhcdlgdofaaGreatDoor
open Go.ChangeShapes Go.WideShapes Go.RowKit Go.Deep

theorem Tryz.own : ownKnob Tryz.prog.godebug = none := by kernel_rfl
theorem Tryz.laidOut : laidOutB Tryz.prog = true := by kernel_rfl
theorem gvarE : Tryz.prog.globalNamed "errors.errorType" = some 1 := by kernel_rfl
theorem rtypE : (Tryz.prog.cutTypes.find? (·.1 == "internal/reflectlite.rtype")).map (·.2) = some 271 := by kernel_rfl
theorem nTypesE : Tryz.prog.types.size = 315 := by kernel_rfl
theorem oneRowE : ((List.range 315).filter fun t => Tryz.prog.rowNamed t [101, 114, 114, 111, 114]) = [94] := by kernel_rfl
def laidE : List (String × DataW Unit) := [("errors.errorType", Rows.laid_errors_errorType)]
/-- What the listed variable gives a walk: the variable's one cell. -/
theorem glob_of_laid {W : World} (h : laidMetH Tryz.prog laidE W) : Glob W := by
  have h' : laidMet Tryz.prog [] W ∧ handlesMet Tryz.prog laidE W := h
  obtain ⟨name, u, ty, e1, e2, e3, e4, e5⟩ := h'.2 _ (List.mem_singleton.2 rfl)
  have en : name = [101, 114, 114, 111, 114] := (Option.some.inj e1).symm
  subst en
  obtain rfl := Option.some.inj (rtypE.symm.trans e2)
  have hm : ty ∈ (List.range 315).filter fun t => Tryz.prog.rowNamed t [101, 114, 114, 111, 114] := List.mem_filter.2 ⟨List.mem_range.2 (by rw [← nTypesE]; exact e3), e4⟩
  rw [oneRowE] at hm
  obtain rfl := List.mem_singleton.1 hm
  have hh : typeHandle Tryz.prog 94 = .pointer (some ⟨2, 94, none⟩) := by kernel_rfl
  rw [hh] at e5
  exact by simpa [Glob] using World.var?_cell gvarE e5 0
/-- A world that meets the condition. -/
noncomputable def laidWorldE (os : Os) : World :=
  let w0 := World.holding Tryz.prog os ⟨#[], #[], []⟩
  { w0 with heap := w0.heap.modify 1 fun
      | .cells _ t frozen => .cells #[.iface 271 (.agg #[.pointer (some ⟨2, 94, none⟩)])] t frozen
      | o => o }
theorem laidWorldE_met (os : Os) (args : Array Value) : laidMetH Tryz.prog laidE ((laidWorldE os).forCall (fun _ _ => 0) ⟨#[], args, []⟩).memory :=
  laidMetH_of_parts (laidMet_nil _ _) (by kernel_rfl)

section
variable {H : Type} {enc : TypeId × Value → H}
theorem list_of {α : Type} {n : Nat} {P : Nat → α → Prop} (h : ∀ i, i < n → ∃ x, P i x) : ∃ ls : List α, ls.length = n ∧ ∀ i x, ls[i]? = some x → P i x := by
  induction n with
  | zero => exact ⟨[], rfl, fun i x hx => by simp at hx⟩
  | succ n ih =>
    obtain ⟨ls, hl, hp⟩ := ih (fun i hi => h i (by omega))
    obtain ⟨x, hx⟩ := h n (by omega)
    refine ⟨ls ++ [x], by simp [hl], fun i y hy => ?_⟩
    by_cases hi : i < ls.length
    · rw [List.getElem?_append_left hi] at hy; exact hp i y hy
    · rw [List.getElem?_append_right (by omega)] at hy
      have h0 : i - ls.length = 0 := by
        rcases Nat.eq_zero_or_pos (i - ls.length) with h | h
        · exact h
        · rw [List.getElem?_eq_none (by simp; omega)] at hy; cases hy
      rw [h0] at hy
      have : x = y := by simpa using hy
      subst this
      have : i = n := by omega
      subst this
      exact hx
set_option maxRecDepth 100000 in
theorem row_mem {a : Addr} {n : Nat} (h : 0 < n) : ∃ x ∈ MemPlace.row a n, x.block = a.block := by
  cases n with
  | zero => omega
  | succ n =>
    refine ⟨(MemPlace.row a (n + 1)).head (by simp [MemPlace.row]), List.head_mem _, ?_⟩
    simp [MemPlace.row, MemPlace.block]
theorem bnd_i64 {n : Int} (h : (Lit.int .i64 n).wf = true) : -9223372036854775808 ≤ n ∧ n ≤ 9223372036854775807 := by
  simp [Lit.wf] at h
  have e1 : IntKind.i64.min = -9223372036854775808 := by decide
  rw [e1] at h
  exact h
theorem cells_i : Tryz.prog.cellsOf 3 = 1 := by kernel_rfl
theorem cells_l : Tryz.prog.cellsOf 2 = 1 := by kernel_rfl
theorem cells_e : Tryz.prog.cellsOf 24 = 1 := by kernel_rfl
theorem cells_s : Tryz.prog.cellsOf 9 = 1 := by kernel_rfl
theorem cells_nt : Tryz.prog.cellsOf 34 = 1 := by kernel_rfl
theorem cells_ot : Tryz.prog.cellsOf 35 = 1 := by kernel_rfl
theorem cells_op : Tryz.prog.cellsOf 168 = 4 := by kernel_rfl
set_option maxRecDepth 100000 in
/-- A slice of numbers that was read. -/
theorem nums_trod {W : World} {x : Value} {fuel : Nat} {y : DataW H × List MemPlace} (hf : DataW.trod enc Tryz.prog W 0 (fun _ => true) true fuel 34 [x] = some y)
    (hlt : ∀ p ∈ y.2, p.block < W.heap.size) : ∃ l tA tc, x = .slice tA l.length tc ∧ NumsAt W (.slice tA l.length tc) l ∧ ∀ z ∈ l, -9223372036854775808 ≤ z ∧ z ≤ 9223372036854775807 := by
  rcases open_slice1 Tryz.underlying34 cells_l hf with ⟨h0, _⟩ | ⟨a, len, cap, m, n, V, D, Pl, hcs, hb, hl, hm, hmm, hx, hi⟩
  · simp at h0
    subst h0
    exact ⟨[], none, 0, rfl, NumsAt.nil _, fun z hz => by cases hz⟩
  · simp at hcs
    subst hcs
    simp at hmm
    subst hmm
    have each : ∀ i, i < len → ∃ z : Int, W.cell? (a.add i) = some (.int .i64 z) ∧ -9223372036854775808 ≤ z ∧ z ≤ 9223372036854775807 := by
      intro i hil
      obtain ⟨hc, ht⟩ := hi i (by omega)
      obtain ⟨z, e, _, hw⟩ := DataW.trod_int Tryz.underlying2 ht
      simp at e
      exact ⟨z, by rw [hc, e], bnd_i64 hw⟩
    obtain ⟨l, hlen, hls⟩ := list_of each
    subst hlen
    refine ⟨l, some a, m, rfl, ⟨some a, m, rfl, hl, hm, fun i b hib => ⟨a, rfl, ?_, (hls i b hib).1⟩⟩, fun z hz => by
      obtain ⟨i, hi⟩ := List.getElem?_of_mem hz
      exact (hls i z hi).2⟩
    have hlen0 : 0 < l.length := Nat.lt_of_le_of_lt (Nat.zero_le _) (List.getElem?_eq_some_iff.1 hib).1
    obtain ⟨p, hp1, hp2⟩ := row_mem (a := a) (n := m) (by omega)
    rw [← hp2]
    refine hlt p ?_
    have : y.2 = MemPlace.row a m ++ (List.range m).flatMap Pl := congrArg Prod.snd hx
    rw [this]
    exact List.mem_append.2 (.inl hp1)
set_option maxRecDepth 100000 in
/-- A slice of operations that was read. -/
theorem ops_trod {W : World} {x : Value} {fuel : Nat} {y : DataW H × List MemPlace} (hf : DataW.trod enc Tryz.prog W 0 (fun _ => true) true fuel 35 [x] = some y)
    (hlt : ∀ p ∈ y.2, p.block < W.heap.size) : ∃ l oA oc, x = .slice oA l.length oc ∧ OpsAt W (.slice oA l.length oc) l ∧ ∀ o ∈ l, OpIn o := by
  rcases open_slice Tryz.underlying35 hf with ⟨h0, _⟩ | ⟨a, len, cap, m, n, D, Pl, hcs, hb, hl, hm, hmm, hx, hi⟩
  · simp at h0
    subst h0
    exact ⟨[], none, 0, rfl, OpsAt.nil _, fun z hz => by cases hz⟩
  · simp at hcs
    subst hcs
    simp at hmm
    subst hmm
    have hps : y.2 = MemPlace.row a (m * Tryz.prog.cellsOf 168) ++ (List.range m).flatMap Pl := congrArg Prod.snd hx
    rw [cells_op] at hps
    have each : ∀ i, i < len → ∃ o : OpV, OpIn o ∧ W.cell? (a.add (i * 4)) = some (.int .i64 o.k) ∧ W.cell? ⟨(a.add (i * 4)).block, (a.add (i * 4)).off + 1, none⟩ = some (.string o.s) ∧ W.cell? ⟨(a.add (i * 4)).block, (a.add (i * 4)).off + 2, none⟩ = some (.int .i64 o.n) ∧ W.cell? ⟨(a.add (i * 4)).block, (a.add (i * 4)).off + 3, none⟩ = some (.int .i64 o.lo) := by
      intro i hil
      obtain ⟨cs, hc, ht⟩ := hi i (by omega)
      rw [cells_op] at hc
      obtain ⟨_, hlen, hcell⟩ := World.cells?_some hc
      obtain ⟨xs, k, _, ex, _, hxs, hel⟩ := DataW.trod_struct Tryz.underlying168 ht
      match cs, hlen with
      | [c0, c1, c2, c3], _ =>
        match xs, hxs with
        | [y0, y1, y2, y3], _ =>
          have t0 := hel 0 _ rfl
          have t1 := hel 1 _ rfl
          have t2 := hel 2 _ rfl
          have t3 := hel 3 _ rfl
          simp [cells_i, cells_l, cells_s] at t0 t1 t2 t3
          obtain ⟨z0, e0, _, w0⟩ := DataW.trod_int Tryz.underlying3 t0
          obtain ⟨s1, e1, _⟩ := DataW.trod_string Tryz.underlying9 t1
          obtain ⟨z2, e2, _, w2⟩ := DataW.trod_int Tryz.underlying2 t2
          obtain ⟨z3, e3, _, w3⟩ := DataW.trod_int Tryz.underlying2 t3
          simp at e0 e1 e2 e3
          subst e0 e1 e2 e3
          have k0 := hcell 0 (by omega)
          have k1 := hcell 1 (by omega)
          have k2 := hcell 2 (by omega)
          have k3 := hcell 3 (by omega)
          have e : (a.add (i * 4)).add 0 = a.add (i * 4) := by simp [Addr.add]
          refine ⟨⟨z0, s1, z2, z3⟩, ⟨bnd_i64 w0, bnd_i64 w2, bnd_i64 w3⟩, ?_, k1, k2, k3⟩
          rw [← e]
          exact k0
    obtain ⟨l, hlen, hls⟩ := list_of each
    subst hlen
    refine ⟨l, some a, m, rfl, ⟨some a, m, rfl, hl, hm, fun i o hio => ⟨a, rfl, ?_, (hls i o hio).2⟩⟩, fun o ho => by
      obtain ⟨i, hi⟩ := List.getElem?_of_mem ho
      exact (hls i o hi).1⟩
    have hlen0 : 0 < l.length := Nat.lt_of_le_of_lt (Nat.zero_le _) (List.getElem?_eq_some_iff.1 hio).1
    obtain ⟨p, hp1, hp2⟩ := row_mem (a := a) (n := m * 4) (by omega)
    rw [← hp2]
    exact hlt p (by rw [hps]; exact List.mem_append.2 (.inl hp1))
set_option maxRecDepth 100000 in
/-- A message that was read. -/
theorem msg_open {W : World} {v : Value} {d : DataW H} {ps : List MemPlace} {r : Reach} {b0 : Nat} (hv : Value.okWide Tryz.prog W r b0 37 v)
    (h : DataW.Trod enc Tryz.prog W 0 (fun _ => true) true 37 v d ps) (hlt : ∀ x ∈ ps, x.block < W.heap.size) : ∃ m, MsgAt W v m ∧ MsgIn m ∧ m.ti ≤ 9223372036854775807 := by
  obtain ⟨cs, rfl, _⟩ := okWide_struct Tryz.underlying37 hv
  obtain ⟨fuel, hf⟩ := h
  obtain ⟨xs, k, _, ex, hl, hxs, hel⟩ := DataW.trod_struct Tryz.underlying37 hf
  have hc : Tryz.prog.cellsOf 37 = 11 := by kernel_rfl
  rw [hc] at hl
  obtain ⟨l⟩ := cs
  have hl : l.length = 11 := by simpa [Value.cells] using hl
  match l, hl with
  | [c0, c1, c2, c3, c4, c5, c6, c7, c8, c9, c10], _ =>
    match xs, hxs with
    | [y0, y1, y2, y3, y4, y5, y6, y7, y8, y9, y10], _ =>
      have hps : ps = [y0, y1, y2, y3, y4, y5, y6, y7, y8, y9, y10].flatMap (·.2) := congrArg Prod.snd ex
      have t0 := hel 0 _ rfl
      have t1 := hel 1 _ rfl
      have t2 := hel 2 _ rfl
      have t3 := hel 3 _ rfl
      have t4 := hel 4 _ rfl
      have t5 := hel 5 _ rfl
      have t6 := hel 6 _ rfl
      have t7 := hel 7 _ rfl
      have t8 := hel 8 _ rfl
      have t9 := hel 9 _ rfl
      have t10 := hel 10 _ rfl
      simp [Value.cells, cells_i, cells_l, cells_s, cells_e, cells_nt, cells_ot] at t0 t1 t2 t3 t4 t5 t6 t7 t8 t9 t10
      obtain ⟨z0, e0, _⟩ := DataW.trod_int Tryz.underlying3 t0
      obtain ⟨z1, e1, _⟩ := DataW.trod_int Tryz.underlying3 t1
      obtain ⟨z2, e2, _⟩ := DataW.trod_int Tryz.underlying3 t2
      obtain ⟨z3, e3, _⟩ := DataW.trod_int Tryz.underlying3 t3
      obtain ⟨z4, e4, _⟩ := DataW.trod_int Tryz.underlying3 t4
      obtain ⟨z5, e5, _⟩ := DataW.trod_int Tryz.underlying3 t5
      obtain ⟨z6, e6, _⟩ := DataW.trod_int Tryz.underlying3 t6
      obtain ⟨z7, e7, _⟩ := DataW.trod_int Tryz.underlying24 t7
      obtain ⟨z8, e8, _, w8⟩ := DataW.trod_int Tryz.underlying2 t8
      simp at e0 e1 e2 e3 e4 e5 e6 e7 e8
      subst e0 e1 e2 e3 e4 e5 e6 e7 e8
      obtain ⟨tl, tA, tc, rfl, hn, hnr⟩ := nums_trod t9 (fun p hp => hlt p (by rw [hps]; simp [hp]))
      obtain ⟨os, oA, oc, rfl, ho, hor⟩ := ops_trod t10 (fun p hp => hlt p (by rw [hps]; simp [hp]))
      exact ⟨⟨z0, z1, z2, z3, z4, z5, z6, z7, z8, tl, os⟩, ⟨tA, tc, oA, oc, rfl, hn, ho⟩, ⟨hnr, hor⟩, (bnd_i64 w8).2⟩
end

def laidC : List (String × DataW Unit) := [("byroad/crc.moved", Rows.laid_byroad_crc_moved)]
theorem gmoved : Tryz.prog.globalNamed "byroad/crc.moved" = some 0 := by kernel_rfl
set_option maxRecDepth 100000 in
set_option maxHeartbeats 4000000 in
/-- The listed table's sixteen cells. -/
theorem moved_of_laid {W : World} (h : laidMetH Tryz.prog laidC W) : W.var? Tryz.prog "byroad/crc.moved" = some #[.int .u32 0, .int .u32 274646895, .int .u32 549293790, .int .u32 820201905, .int .u32 1098587580, .int .u32 1361435347, .int .u32 1640403810, .int .u32 1905808397, .int .u32 2197175160, .int .u32 2460548119, .int .u32 2722870694, .int .u32 2987750089, .int .u32 3280807620, .int .u32 3553878443, .int .u32 3811616794, .int .u32 4084100981] := by
  rw [MakeChecks.laidMetH_plain _ _ _ (by kernel_rfl)] at h
  obtain ⟨ps, ⟨g, t, cs, fuel, p, q, hg, ht, hv, hd, _, _⟩, _, _⟩ := h
  obtain rfl := Option.some.inj (gmoved.symm.trans hg)
  obtain rfl := Option.some.inj ((show (Tryz.prog.globals[0]?).map (·.type) = some 242 by kernel_rfl).symm.trans ht)
  have c24 : Tryz.prog.cellsOf 222 = 1 := by kernel_rfl
  have c58 : Tryz.prog.cellsOf 242 = 16 := by kernel_rfl
  obtain ⟨xs, m, _, ex, hlen, hl, hel⟩ := DataW.trod_array Tryz.underlying242 hd
  rw [c58] at hlen
  rw [c24] at hel
  obtain ⟨l⟩ := cs
  match l, hlen with
  | [a0, a1, a2, a3, a4, a5, a6, a7, a8, a9, a10, a11, a12, a13, a14, a15], _ =>
    match xs, hl with
    | [x0, x1, x2, x3, x4, x5, x6, x7, x8, x9, x10, x11, x12, x13, x14, x15], _ =>
      have e3 := (DataW.agg.inj (Prod.mk.inj ex).1)
      simp only [List.map_cons, List.map_nil, List.cons.injEq, and_true] at e3
      have k0 := hel 0 (by omega); have k1 := hel 1 (by omega); have k2 := hel 2 (by omega); have k3 := hel 3 (by omega); have k4 := hel 4 (by omega); have k5 := hel 5 (by omega); have k6 := hel 6 (by omega); have k7 := hel 7 (by omega); have k8 := hel 8 (by omega); have k9 := hel 9 (by omega); have k10 := hel 10 (by omega); have k11 := hel 11 (by omega); have k12 := hel 12 (by omega); have k13 := hel 13 (by omega); have k14 := hel 14 (by omega); have k15 := hel 15 (by omega)
      clear hel ex
      obtain ⟨z0, b0, c0, _⟩ := DataW.trod_int Tryz.underlying222 k0
      obtain ⟨z1, b1, c1, _⟩ := DataW.trod_int Tryz.underlying222 k1
      obtain ⟨z2, b2, c2, _⟩ := DataW.trod_int Tryz.underlying222 k2
      obtain ⟨z3, b3, c3, _⟩ := DataW.trod_int Tryz.underlying222 k3
      obtain ⟨z4, b4, c4, _⟩ := DataW.trod_int Tryz.underlying222 k4
      obtain ⟨z5, b5, c5, _⟩ := DataW.trod_int Tryz.underlying222 k5
      obtain ⟨z6, b6, c6, _⟩ := DataW.trod_int Tryz.underlying222 k6
      obtain ⟨z7, b7, c7, _⟩ := DataW.trod_int Tryz.underlying222 k7
      obtain ⟨z8, b8, c8, _⟩ := DataW.trod_int Tryz.underlying222 k8
      obtain ⟨z9, b9, c9, _⟩ := DataW.trod_int Tryz.underlying222 k9
      obtain ⟨z10, b10, c10, _⟩ := DataW.trod_int Tryz.underlying222 k10
      obtain ⟨z11, b11, c11, _⟩ := DataW.trod_int Tryz.underlying222 k11
      obtain ⟨z12, b12, c12, _⟩ := DataW.trod_int Tryz.underlying222 k12
      obtain ⟨z13, b13, c13, _⟩ := DataW.trod_int Tryz.underlying222 k13
      obtain ⟨z14, b14, c14, _⟩ := DataW.trod_int Tryz.underlying222 k14
      obtain ⟨z15, b15, c15, _⟩ := DataW.trod_int Tryz.underlying222 k15
      rw [hv]
      simp_all
theorem mov_of_laid {W : World} (h : laidMetH Tryz.prog laidC W) : Mov W := by
  intro r t ht
  have hc := World.var?_cell gmoved (moved_of_laid h) r
  rw [hc]
  have e : (#[.int .u32 0, .int .u32 274646895, .int .u32 549293790, .int .u32 820201905, .int .u32 1098587580, .int .u32 1361435347, .int .u32 1640403810, .int .u32 1905808397, .int .u32 2197175160, .int .u32 2460548119, .int .u32 2722870694, .int .u32 2987750089, .int .u32 3280807620, .int .u32 3553878443, .int .u32 3811616794, .int .u32 4084100981] : Array Value) = (tab.map fun (t : Nat) => Value.int .u32 (t : Int)).toArray := rfl
  rw [e]
  simp [ht]

def laidJ : List (String × DataW Unit) := [("errors.errorType", Rows.laid_errors_errorType), ("byroad/crc.moved", Rows.laid_byroad_crc_moved)]
theorem glob_of_laidJ {W : World} (h : laidMetH Tryz.prog laidJ W) : Glob W := glob_of_laid (laidMetH.filter (l := laidJ) (fun x => x.1 == "errors.errorType") h)
theorem mov_of_laidJ {W : World} (h : laidMetH Tryz.prog laidJ W) : Mov W := mov_of_laid (laidMetH.filter (l := laidJ) (fun x => x.1 == "byroad/crc.moved") h)
/-- A world that meets the condition. -/
noncomputable def laidWorldJ (os : Os) : World :=
  let w0 := World.holding Tryz.prog os ⟨#[], #[], []⟩
  { w0 with heap := (w0.heap.modify 1 fun
      | .cells _ t frozen => .cells #[.iface 271 (.agg #[.pointer (some ⟨2, 94, none⟩)])] t frozen
      | o => o).modify 0 fun
      | .cells _ t frozen => .cells #[.int .u32 0, .int .u32 274646895, .int .u32 549293790, .int .u32 820201905, .int .u32 1098587580, .int .u32 1361435347, .int .u32 1640403810, .int .u32 1905808397, .int .u32 2197175160, .int .u32 2460548119, .int .u32 2722870694, .int .u32 2987750089, .int .u32 3280807620, .int .u32 3553878443, .int .u32 3811616794, .int .u32 4084100981] t frozen
      | o => o }
theorem laidWorldJ_met (os : Os) (args : Array Value) : laidMetH Tryz.prog laidJ ((laidWorldJ os).forCall (fun _ _ => 0) ⟨#[], args, []⟩).memory :=
  laidMetH_of_parts (laidMet_of_run' 8 (by kernel_rfl) (by kernel_rfl)) (by kernel_rfl)
end Go.Proofs.YtfddlhcdlgdofaaGreatDoor
