/- What the rows of the journal's laws give a walk: the two listed variables, and bytes and numbers read out of an argument. What the row of JournalOpens gives its walk: five arguments. -/
import Derived.Test.YtnegnokielmgkaaGreatDoorZPrfE
import Derived.Test.YtnegnokielmgkaaGreatDoorZCrcD
import Derived.LaidSub
import Derived.Carry
set_option linter.unusedSimpArgs false
set_option linter.unusedVariables false
set_option linter.unnecessarySimpa false
namespace Go.Proofs.YtnegnokielmgkaaGreatDoor
open Go.ChangeShapes Go.WideShapes Go.RowKit Go.Deep

def laidC : List (String × DataW Unit) := [("byroad/crc.moved", Rows.laid_byroad_crc_moved)]
theorem gmoved : Tryz.prog.globalNamed "byroad/crc.moved" = some 1 := by kernel_rfl
set_option maxRecDepth 100000 in
set_option maxHeartbeats 4000000 in
/-- The listed table's sixteen cells. -/
theorem moved_of_laid {W : World} (h : laidMetH Tryz.prog laidC W) : W.var? Tryz.prog "byroad/crc.moved" = some #[.int .u32 0, .int .u32 274646895, .int .u32 549293790, .int .u32 820201905, .int .u32 1098587580, .int .u32 1361435347, .int .u32 1640403810, .int .u32 1905808397, .int .u32 2197175160, .int .u32 2460548119, .int .u32 2722870694, .int .u32 2987750089, .int .u32 3280807620, .int .u32 3553878443, .int .u32 3811616794, .int .u32 4084100981] := by
  rw [MakeChecks.laidMetH_plain _ _ _ (by kernel_rfl)] at h
  obtain ⟨ps, ⟨g, t, cs, fuel, p, q, hg, ht, hv, hd, _, _⟩, _, _⟩ := h
  obtain rfl := Option.some.inj (gmoved.symm.trans hg)
  obtain rfl := Option.some.inj ((show (Tryz.prog.globals[1]?).map (·.type) = some 203 by kernel_rfl).symm.trans ht)
  have c24 : Tryz.prog.cellsOf 99 = 1 := by kernel_rfl
  have c58 : Tryz.prog.cellsOf 203 = 16 := by kernel_rfl
  obtain ⟨xs, m, _, ex, hlen, hl, hel⟩ := DataW.trod_array Tryz.underlying203 hd
  rw [c58] at hlen
  rw [c24] at hel
  obtain ⟨l⟩ := cs
  match l, hlen with
  | [a0, a1, a2, a3, a4, a5, a6, a7, a8, a9, a10, a11, a12, a13, a14, a15], _ =>
    match xs, hl with
    | [x0, x1, x2, x3, x4, x5, x6, x7, x8, x9, x10, x11, x12, x13, x14, x15], _ =>
      have e3 := (DataW.agg.inj (Prod.mk.inj ex).1)
      simp only [List.map_cons, List.map_nil, List.cons.injEq, and_true] at e3
      have k0 := hel 0 (by omega); have k1 := hel 1 (by omega); have k2 := hel 2 (by omega); have k3 := hel 3 (by omega); have k4 := hel 4 (by omega); have k5 := hel 5 (by omega); have k6 := hel 6 (by omega); have k7 := hel 7 (by omega); have k8 := hel 8 (by omega); have k9 := hel 9 (by omega); have k10 := hel 10 (by omega); have k11 := hel 11 (by omega); have k12 := hel 12 (by omega); have k13 := hel 13 (by omega); have k14 := hel 14 (by omega); have k15 := hel 15 (by omega)
      clear hel ex
      obtain ⟨z0, b0, c0, _⟩ := DataW.trod_int Tryz.underlying99 k0
      obtain ⟨z1, b1, c1, _⟩ := DataW.trod_int Tryz.underlying99 k1
      obtain ⟨z2, b2, c2, _⟩ := DataW.trod_int Tryz.underlying99 k2
      obtain ⟨z3, b3, c3, _⟩ := DataW.trod_int Tryz.underlying99 k3
      obtain ⟨z4, b4, c4, _⟩ := DataW.trod_int Tryz.underlying99 k4
      obtain ⟨z5, b5, c5, _⟩ := DataW.trod_int Tryz.underlying99 k5
      obtain ⟨z6, b6, c6, _⟩ := DataW.trod_int Tryz.underlying99 k6
      obtain ⟨z7, b7, c7, _⟩ := DataW.trod_int Tryz.underlying99 k7
      obtain ⟨z8, b8, c8, _⟩ := DataW.trod_int Tryz.underlying99 k8
      obtain ⟨z9, b9, c9, _⟩ := DataW.trod_int Tryz.underlying99 k9
      obtain ⟨z10, b10, c10, _⟩ := DataW.trod_int Tryz.underlying99 k10
      obtain ⟨z11, b11, c11, _⟩ := DataW.trod_int Tryz.underlying99 k11
      obtain ⟨z12, b12, c12, _⟩ := DataW.trod_int Tryz.underlying99 k12
      obtain ⟨z13, b13, c13, _⟩ := DataW.trod_int Tryz.underlying99 k13
      obtain ⟨z14, b14, c14, _⟩ := DataW.trod_int Tryz.underlying99 k14
      obtain ⟨z15, b15, c15, _⟩ := DataW.trod_int Tryz.underlying99 k15
      rw [hv]
      simp_all
theorem mov_of_laid {W : World} (h : laidMetH Tryz.prog laidC W) : Mov W := by
  intro r t ht
  have hc := World.var?_cell gmoved (moved_of_laid h) r
  rw [hc]
  have e : (#[.int .u32 0, .int .u32 274646895, .int .u32 549293790, .int .u32 820201905, .int .u32 1098587580, .int .u32 1361435347, .int .u32 1640403810, .int .u32 1905808397, .int .u32 2197175160, .int .u32 2460548119, .int .u32 2722870694, .int .u32 2987750089, .int .u32 3280807620, .int .u32 3553878443, .int .u32 3811616794, .int .u32 4084100981] : Array Value) = (tab.map fun (t : Nat) => Value.int .u32 (t : Int)).toArray := rfl
  rw [e]
  simp [ht]

section
variable {H : Type} {enc : TypeId × Value → H}
theorem cells5 : Tryz.prog.cellsOf 5 = 1 := by kernel_rfl
theorem cells22 : Tryz.prog.cellsOf 32 = 1 := by kernel_rfl
theorem byte_of {z : Int} (h : (Lit.int .u8 z).wf = true) : ∃ b : UInt8, z = (b.toNat : Int) := by
  simp [Lit.wf] at h
  have e1 : IntKind.u8.min = 0 := by decide
  have e2 : IntKind.u8.max = 255 := by decide
  rw [e1, e2] at h
  refine ⟨UInt8.ofNat z.toNat, ?_⟩
  rw [UInt8.toNat_ofNat']
  omega
set_option maxRecDepth 100000 in
/-- A slice of bytes that was read. -/
theorem bytes_trod {W : World} {A : Option Addr} {len cap fuel : Nat} {x : DataW H × List MemPlace} (hf : DataW.trod enc Tryz.prog W 0 (fun _ => true) true fuel 32 [.slice A len cap] = some x)
    (hlt : ∀ p ∈ x.2, p.block < W.heap.size) : ∃ l, BIs W (.slice A len cap) l := by
  rcases open_slice1 Tryz.underlying32 cells5 hf with ⟨h0, _⟩ | ⟨a, len', cap', m, n, V, D, Pl, hcs, hb, hl, hm, hmm, hx, hi⟩
  · simp at h0
    obtain ⟨rfl, rfl, rfl⟩ := h0
    exact ⟨[], none, 0, rfl, Nat.le_refl _, by unfold maxLen; omega, fun i b hi => by simp at hi⟩
  · simp at hcs
    obtain ⟨rfl, rfl, rfl⟩ := hcs
    simp at hmm
    subst hmm
    have each : ∀ i, i < len → ∃ b : UInt8, W.cell? (a.add i) = some (.int .u8 (b.toNat : Int)) := by
      intro i hil
      obtain ⟨hc, ht⟩ := hi i (by omega)
      obtain ⟨z, e, _, hw⟩ := DataW.trod_int Tryz.underlying5 ht
      obtain ⟨b, rfl⟩ := byte_of hw
      simp at e
      exact ⟨b, by rw [hc, e]⟩
    obtain ⟨l, hlen, hls⟩ := list_of each
    subst hlen
    refine ⟨l, some a, m, rfl, hl, hm, fun i b hib => ⟨a, rfl, ?_, hls i b hib⟩⟩
    have hlen0 : 0 < l.length := Nat.lt_of_le_of_lt (Nat.zero_le _) (List.getElem?_eq_some_iff.1 hib).1
    obtain ⟨p, hp1, hp2⟩ := row_mem (a := a) (n := m) (by omega)
    rw [← hp2]
    refine hlt p ?_
    have : x.2 = MemPlace.row a m ++ (List.range m).flatMap Pl := congrArg Prod.snd hx
    rw [this]
    exact List.mem_append.2 (.inl hp1)
set_option maxRecDepth 100000 in
theorem bytes_open {W : World} {v : Value} {d : DataW H} {ps : List MemPlace} {r : Reach} {b0 : Nat} (hv : Value.okWide Tryz.prog W r b0 32 v)
    (h : DataW.Trod enc Tryz.prog W 0 (fun _ => true) true 32 v d ps) (hlt : ∀ x ∈ ps, x.block < W.heap.size) : ∃ l, BIs W v l := by
  obtain ⟨A, len, cap, rfl⟩ := okWide_slice Tryz.underlying32 hv
  obtain ⟨fuel, hf⟩ := h
  exact bytes_trod (x := (d, ps)) (by simpa [Value.cells] using hf) hlt
end
section
variable {H : Type} {enc : TypeId × Value → H}
set_option maxRecDepth 100000 in
theorem bytes_trod1 {W : World} {x : Value} {fuel : Nat} {y : DataW H × List MemPlace} (hf : DataW.trod enc Tryz.prog W 0 (fun _ => true) true fuel 32 [x] = some y) (hlt : ∀ p ∈ y.2, p.block < W.heap.size) : ∃ l, BIs W x l := by
  have hform : ∃ A n c, x = .slice A n c := by
    rcases open_slice1 Tryz.underlying32 cells5 hf with ⟨h0, _⟩ | ⟨a, len', cap', m, n, V, D, Pl, hcs, _⟩
    · exact ⟨none, 0, 0, by simpa using h0⟩
    · exact ⟨some a, len', cap', by simpa using hcs⟩
  obtain ⟨A, n, c, rfl⟩ := hform
  exact bytes_trod hf hlt
set_option maxRecDepth 100000 in
theorem parts_open {W : World} {v : Value} {d : DataW H} {ps : List MemPlace} {r : Reach} {b0 : Nat} (hv : Value.okWide Tryz.prog W r b0 42 v)
    (h : DataW.Trod enc Tryz.prog W 0 (fun _ => true) true 42 v d ps) (hlt : ∀ x ∈ ps, x.block < W.heap.size) : ∃ ls, PIs W v ls := by
  obtain ⟨A, len, cap, rfl⟩ := okWide_slice Tryz.underlying42 hv
  obtain ⟨fuel, hf⟩ := h
  rcases open_slice1 Tryz.underlying42 cells22 hf with ⟨h0, _⟩ | ⟨a, len', cap', m, n, V, D, Pl, hcs, hb, hl, hm, hmm, hx, hi⟩
  · simp [Value.cells] at h0
    obtain ⟨rfl, rfl, rfl⟩ := h0
    exact ⟨[], none, 0, rfl, Nat.le_refl _, by unfold maxLen; omega, fun i b hi => by simp at hi⟩
  · simp [Value.cells] at hcs
    obtain ⟨rfl, rfl, rfl⟩ := hcs
    simp at hmm
    subst hmm
    have hps : ps = MemPlace.row a m ++ (List.range m).flatMap Pl := congrArg Prod.snd hx
    have each : ∀ i, i < len → ∃ l : List UInt8, ∃ x, W.cell? (a.add i) = some x ∧ BIs W x l := by
      intro i hil
      obtain ⟨hc, ht⟩ := hi i (by omega)
      obtain ⟨l, hl2⟩ := bytes_trod1 ht (fun p hp => hlt p (by rw [hps]; exact List.mem_append.2 (.inr (List.mem_flatMap.2 ⟨i, List.mem_range.2 (by omega), hp⟩))))
      exact ⟨l, _, hc, hl2⟩
    obtain ⟨ls, hlen, hls⟩ := list_of each
    subst hlen
    refine ⟨ls, some a, m, rfl, hl, hm, fun i l hil => ?_⟩
    obtain ⟨x, hc, hB⟩ := hls i l hil
    have hlen0 : 0 < ls.length := Nat.lt_of_le_of_lt (Nat.zero_le _) (List.getElem?_eq_some_iff.1 hil).1
    obtain ⟨p, hp1, hp2⟩ := row_mem (a := a) (n := m) (by omega)
    exact ⟨a, x, rfl, by rw [← hp2]; exact hlt p (by rw [hps]; exact List.mem_append.2 (.inl hp1)), hc, hB⟩
end


def laidJ : List (String × DataW Unit) := [("errors.errorType", Rows.laid_errors_errorType), ("byroad/crc.moved", Rows.laid_byroad_crc_moved)]
theorem glob_of_laidJ {W : World} (h : laidMetH Tryz.prog laidJ W) : Glob W := glob_of_laid (laidMetH.filter (l := laidJ) (fun x => x.1 == "errors.errorType") h)
theorem mov_of_laidJ {W : World} (h : laidMetH Tryz.prog laidJ W) : Mov W := mov_of_laid (laidMetH.filter (l := laidJ) (fun x => x.1 == "byroad/crc.moved") h)
/-- A world that meets the condition. -/
noncomputable def laidWorldJ (os : Os) : World :=
  let w0 := World.holding Tryz.prog os ⟨#[], #[], []⟩
  { w0 with heap := (w0.heap.modify 0 fun
      | .cells _ t frozen => .cells #[.iface 205 (.agg #[.pointer (some ⟨2, 95, none⟩)])] t frozen
      | o => o).modify 1 fun
      | .cells _ t frozen => .cells #[.int .u32 0, .int .u32 274646895, .int .u32 549293790, .int .u32 820201905, .int .u32 1098587580, .int .u32 1361435347, .int .u32 1640403810, .int .u32 1905808397, .int .u32 2197175160, .int .u32 2460548119, .int .u32 2722870694, .int .u32 2987750089, .int .u32 3280807620, .int .u32 3553878443, .int .u32 3811616794, .int .u32 4084100981] t frozen
      | o => o }
theorem laidWorldJ_met (os : Os) (args : Array Value) : laidMetH Tryz.prog laidJ ((laidWorldJ os).forCall (fun _ _ => 0) ⟨#[], args, []⟩).memory :=
  laidMetH_of_parts (laidMet_of_run' 8 (by kernel_rfl) (by kernel_rfl)) (by kernel_rfl)
end Go.Proofs.YtnegnokielmgkaaGreatDoor

namespace Go.Proofs.YtnegnokielmgkaaGreatDoor
open Go.ChangeShapes Go.WideShapes Go.RowKit Go.Deep

section
variable {H : Type} {enc : TypeId × Value → H} {P : Program} {w : World} {base : Nat} {spare : Nat → Bool} {held : Bool}
theorem trodAll_five {t t' t'' t3 t4 : TypeId} {args : Array Value} {ds : List (DataW H)} {ps : List MemPlace} (h : DataW.TrodAll enc P w base spare held [t, t', t'', t3, t4] args.toList ds ps) :
    ∃ v v' v'' v3 v4 d d' d'' d3 d4 p p' p'' p3 p4, args = #[v, v', v'', v3, v4] ∧ ds = [d, d', d'', d3, d4] ∧ ps = p ++ (p' ++ (p'' ++ (p3 ++ p4))) ∧ DataW.Trod enc P w base spare held t v d p ∧ DataW.Trod enc P w base spare held t' v' d' p' ∧ DataW.Trod enc P w base spare held t'' v'' d'' p'' ∧ DataW.Trod enc P w base spare held t3 v3 d3 p3 ∧ DataW.Trod enc P w base spare held t4 v4 d4 p4 := by
  obtain ⟨v, vs, d, ds', p, q, hargs, rfl, rfl, hd, hrest⟩ := trodAll_cons h
  obtain ⟨v', vs', d', ds'', p', q', rfl, rfl, rfl, hd', hrest'⟩ := trodAll_cons hrest
  obtain ⟨v'', vs'', d'', ds''', p'', q'', rfl, rfl, rfl, hd'', hrest''⟩ := trodAll_cons hrest'
  obtain ⟨v3, vs3, d3, ds3, p3, q3, rfl, rfl, rfl, hd3, hrest3⟩ := trodAll_cons hrest''
  obtain ⟨v4, vs4, d4, ds4, p4, q4, rfl, rfl, rfl, hd4, hrest4⟩ := trodAll_cons hrest3
  obtain ⟨rfl, rfl, rfl⟩ := trodAll_nil hrest4
  exact ⟨v, v', v'', v3, v4, d, d', d'', d3, d4, p, p', p'', p3, p4, by cases args; simp_all, rfl, by simp, hd, hd', hd'', hd3, hd4⟩
theorem trodAll_mk5 {t t' t'' t3 t4 : TypeId} {v v' v'' v3 v4 : Value} {d d' d'' d3 d4 : DataW H} {p p' p'' p3 p4 : List MemPlace} (h : DataW.Trod enc P w base spare held t v d p) (h' : DataW.Trod enc P w base spare held t' v' d' p')
    (h'' : DataW.Trod enc P w base spare held t'' v'' d'' p'') (h3 : DataW.Trod enc P w base spare held t3 v3 d3 p3) (h4 : DataW.Trod enc P w base spare held t4 v4 d4 p4) : DataW.TrodAll enc P w base spare held [t, t', t'', t3, t4] [v, v', v'', v3, v4] [d, d', d'', d3, d4] (p ++ (p' ++ (p'' ++ (p3 ++ p4)))) := ⟨p, p' ++ (p'' ++ (p3 ++ p4)), h, trodAll_mk4 h' h'' h3 h4, rfl⟩
end
end Go.Proofs.YtnegnokielmgkaaGreatDoor
