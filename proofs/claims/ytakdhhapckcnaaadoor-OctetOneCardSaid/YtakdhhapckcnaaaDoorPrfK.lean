/- What the rows of the fault laws give a walk: the listed variable, and links read out of an argument. -/
import Derived.Test.YtakdhhapckcnaaaDoorLawP
import Derived.ProofKit
import Derived.LaidLaws
import Derived.LaidHandle
import Derived.Stop.Joined
import Derived.ChangeVars
import Derived.Deep.Slices
import Derived.Handed
set_option linter.unusedSimpArgs false
set_option linter.unusedVariables false
namespace Go.Proofs.YtakdhhapckcnaaaDoor
open Go.ChangeShapes Go.WideShapes Go.RowKit Go.Deep

theorem Tryd.own : ownKnob Tryd.prog.godebug = none := by kernel_rfl
theorem Tryd.laidOut : laidOutB Tryd.prog = true := by kernel_rfl
theorem gvar : Tryd.prog.globalNamed "errors.errorType" = some 0 := by kernel_rfl
theorem rtyp : (Tryd.prog.cutTypes.find? (·.1 == "internal/reflectlite.rtype")).map (·.2) = some 120 := by kernel_rfl
theorem nTypes : Tryd.prog.types.size = 176 := by kernel_rfl
theorem oneRow : ((List.range 176).filter fun t => Tryd.prog.rowNamed t [101, 114, 114, 111, 114]) = [25] := by kernel_rfl

def laidL : List (String × DataW Unit) := [("errors.errorType", Rows.laid_errors_errorType)]
/-- What the listed variable gives a walk: the variable's one cell. -/
theorem glob_of_laid {W : World} (h : laidMetH Tryd.prog laidL W) : Glob W := by
  have h' : laidMet Tryd.prog [] W ∧ handlesMet Tryd.prog laidL W := h
  obtain ⟨name, u, ty, e1, e2, e3, e4, e5⟩ := h'.2 _ (List.mem_singleton.2 rfl)
  have en : name = [101, 114, 114, 111, 114] := (Option.some.inj e1).symm
  subst en
  obtain rfl := Option.some.inj (rtyp.symm.trans e2)
  have hm : ty ∈ (List.range 176).filter fun t => Tryd.prog.rowNamed t [101, 114, 114, 111, 114] := List.mem_filter.2 ⟨List.mem_range.2 (by rw [← nTypes]; exact e3), e4⟩
  rw [oneRow] at hm
  obtain rfl := List.mem_singleton.1 hm
  have hh : typeHandle Tryd.prog 25 = .pointer (some ⟨1, 25, none⟩) := by kernel_rfl
  rw [hh] at e5
  exact by simpa [Glob] using World.var?_cell gvar e5 0

/-- A world that meets the condition. -/
noncomputable def laidWorld (os : Os) : World :=
  let w0 := World.holding Tryd.prog os ⟨#[], #[], []⟩
  { w0 with heap := w0.heap.modify 0 fun
      | .cells _ t frozen => .cells #[.iface 120 (.agg #[.pointer (some ⟨1, 25, none⟩)])] t frozen
      | o => o }
theorem laidWorld_met (os : Os) (args : Array Value) : laidMetH Tryd.prog laidL ((laidWorld os).forCall (fun _ _ => 0) ⟨#[], args, []⟩).memory :=
  laidMetH_of_parts (laidMet_nil _ _) (by kernel_rfl)

/-! an argument that is a slice of links -/
section
variable {H : Type} {enc : TypeId × Value → H}
theorem list_of {n : Nat} {P : Nat → L6 → Prop} (h : ∀ i, i < n → ∃ x, P i x) : ∃ ls : List L6, ls.length = n ∧ ∀ i x, ls[i]? = some x → P i x := by
  induction n with
  | zero => exact ⟨[], rfl, fun i x hx => by simp at hx⟩
  | succ n ih =>
    obtain ⟨ls, hl, hp⟩ := ih (fun i hi => h i (by omega))
    obtain ⟨x, hx⟩ := h n (by omega)
    refine ⟨ls ++ [x], by simp [hl], fun i y hy => ?_⟩
    by_cases hi : i < ls.length
    · rw [List.getElem?_append_left hi] at hy; exact hp i y hy
    · rw [List.getElem?_append_right (by omega)] at hy
      have h0 : i - ls.length = 0 := by
        rcases Nat.eq_zero_or_pos (i - ls.length) with h | h
        · exact h
        · rw [List.getElem?_eq_none (by simp; omega)] at hy; cases hy
      rw [h0] at hy
      have : x = y := by simpa using hy
      subst this
      have : i = n := by omega
      subst this
      exact hx
theorem add_pos (p : Addr) (j : Nat) (hj : 0 < j) : p.add j = ⟨p.block, p.off + j, none⟩ := by
  unfold Addr.add; rw [if_neg (by omega)]
theorem cells42 : Tryd.prog.cellsOf 42 = 6 := by kernel_rfl
theorem cells3 : Tryd.prog.cellsOf 3 = 1 := by kernel_rfl
theorem cells30 : Tryd.prog.cellsOf 30 = 1 := by kernel_rfl
theorem cells9 : Tryd.prog.cellsOf 9 = 1 := by kernel_rfl
theorem cells2 : Tryd.prog.cellsOf 2 = 1 := by kernel_rfl
set_option maxRecDepth 100000 in
theorem row_mem {a : Addr} {n : Nat} (h : 0 < n) : ∃ x ∈ MemPlace.row a n, x.block = a.block := by
  cases n with
  | zero => omega
  | succ n =>
    refine ⟨(MemPlace.row a (n + 1)).head (by simp [MemPlace.row]), List.head_mem _, ?_⟩
    simp [MemPlace.row, MemPlace.block]
set_option maxRecDepth 100000 in
theorem links_open {W : World} {v : Value} {d : DataW H} {ps : List MemPlace} {r : Reach} {b0 : Nat} (hv : Value.okWide Tryd.prog W r b0 22 v)
    (h : DataW.Trod enc Tryd.prog W 0 (fun _ => true) true 22 v d ps) (hlt : ∀ x ∈ ps, x.block < W.heap.size) : ∃ ls, SlIn W v ls := by
  obtain ⟨A, len, cap, rfl⟩ := okWide_slice Tryd.underlying22 hv
  obtain ⟨fuel, hf⟩ := h
  rcases open_slice Tryd.underlying22 hf with ⟨h0, _⟩ | ⟨a, len', cap', m, n, D, Pl, hcs, hb, hl, hm, hmm, hx, hi⟩
  · simp [Value.cells] at h0
    obtain ⟨rfl, rfl, rfl⟩ := h0
    exact ⟨[], .inr (.inl ⟨rfl, rfl⟩)⟩
  · simp [Value.cells] at hcs
    obtain ⟨rfl, rfl, rfl⟩ := hcs
    simp at hmm
    subst hmm
    rw [cells42] at hx hi
    by_cases hz : len = 0
    · subst hz
      exact ⟨[], .inl ⟨_, _, rfl, rfl⟩⟩
    · have hbl : a.block < W.heap.size := by
        obtain ⟨x, hx1, hx2⟩ := row_mem (a := a) (n := m * 6) (by omega)
        rw [← hx2]
        refine hlt x ?_
        have : ps = MemPlace.row a (m * 6) ++ (List.range m).flatMap Pl := congrArg Prod.snd hx
        rw [this]
        exact List.mem_append.2 (.inl hx1)
      have each : ∀ i, i < len → ∃ x : L6, At6 W (a.add (i * 6)) x := by
        intro i hil
        obtain ⟨cs', h1, h2⟩ := hi i (by omega)
        obtain ⟨_, hlen, hcell⟩ := World.cells?_some h1
        obtain ⟨xs, k, _, _, _, hxl, hf⟩ := DataW.trod_struct Tryd.underlying42 h2
        match cs', hlen with
        | [v0, v1, v2, v3, v4, v5], _ =>
          have g0 := hf 0 _ rfl
          have g1 := hf 1 _ rfl
          have g2 := hf 2 _ rfl
          have g3 := hf 3 _ rfl
          have g4 := hf 4 _ rfl
          have g5 := hf 5 _ rfl
          simp [cells3, cells30, cells9, cells2] at g0 g1 g2 g3 g4 g5
          have some_at : ∀ j, j < 6 → ∃ y, xs[j]? = some y := fun j hj => ⟨xs[j]'(by rw [hxl]; exact hj), List.getElem?_eq_getElem _⟩
          obtain ⟨y0, hy0⟩ := some_at 0 (by omega)
          obtain ⟨y1, hy1⟩ := some_at 1 (by omega)
          obtain ⟨y2, hy2⟩ := some_at 2 (by omega)
          obtain ⟨y3, hy3⟩ := some_at 3 (by omega)
          obtain ⟨y4, hy4⟩ := some_at 4 (by omega)
          obtain ⟨y5, hy5⟩ := some_at 5 (by omega)
          obtain ⟨n0, e0, _, _⟩ := DataW.trod_int Tryd.underlying3 (g0.trans hy0)
          obtain ⟨n1, e1, _, _⟩ := DataW.trod_int Tryd.underlying30 (g1.trans hy1)
          obtain ⟨n2, e2, _, _⟩ := DataW.trod_int Tryd.underlying3 (g2.trans hy2)
          obtain ⟨s3, e3, _, _⟩ := DataW.trod_string Tryd.underlying9 (g3.trans hy3)
          obtain ⟨n4, e4, _, _⟩ := DataW.trod_int Tryd.underlying2 (g4.trans hy4)
          obtain ⟨n5, e5, _, _⟩ := DataW.trod_int Tryd.underlying2 (g5.trans hy5)
          simp only [List.cons.injEq, and_true] at e0 e1 e2 e3 e4 e5
          subst e0 e1 e2 e3 e4 e5
          refine ⟨⟨n0, n1, n2, s3, n4, n5⟩, ?_, ?_, ?_, ?_, ?_, ?_⟩
          · exact hcell 0 (by omega)
          · rw [← add_pos _ 1 (by omega)]; exact hcell 1 (by omega)
          · rw [← add_pos _ 2 (by omega)]; exact hcell 2 (by omega)
          · rw [← add_pos _ 3 (by omega)]; exact hcell 3 (by omega)
          · rw [← add_pos _ 4 (by omega)]; exact hcell 4 (by omega)
          · rw [← add_pos _ 5 (by omega)]; exact hcell 5 (by omega)
      obtain ⟨ls, hlen, hls⟩ := list_of each
      subst hlen
      exact ⟨ls, .inr (.inr ⟨a, m, rfl, hl, hm, hbl, hls⟩)⟩
end
end Go.Proofs.YtakdhhapckcnaaaDoor
