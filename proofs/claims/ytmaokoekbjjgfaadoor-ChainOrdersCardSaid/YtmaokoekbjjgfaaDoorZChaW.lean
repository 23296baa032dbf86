/- slices.Insert between others, where there is room. -/
import Derived.Test.YtmaokoekbjjgfaaDoorZChaV
import Derived.Lib.Overlaps
set_option linter.unusedSimpArgs false
set_option linter.unusedVariables false
set_option linter.unnecessarySimpa false
namespace Go.Proofs.YtmaokoekbjjgfaaDoor
open Go.RowKit Go.Shelf

theorem shape_of {w : World} {g j : Nat} (h : (w.cell? ⟨g, j, none⟩).isSome = true) : ∃ t k, w.shape? g = some (t, k) ∧ k ≠ 0 := by
  unfold World.cell? at h
  unfold World.shape?
  cases e : w.heap[g]? with
  | none => simp [e] at h
  | some o =>
    cases o with
    | cells cs t fr =>
      refine ⟨t, cs.size, rfl, fun e0 => ?_⟩
      have : cs[j]? = none := by rw [Array.getElem?_eq_none (by omega)]
      simp [e, this] at h
    | _ => simp [e] at h
theorem copy_off {P : Program} (w : World) (dT sT ty elem : TypeId) (z g p dn dc h q sn sc k : Nat) (l : List Value)
    (hu : P.underlying dT = some (.slice elem)) (hs : (P.info? elem).map (·.size) = some z) (hk : Nat.min sn dn = k) (hl : l.length = k * z)
    (hsrc : ∀ j v, l[j]? = some v → w.cell? ⟨h, q + j, none⟩ = some v) (hc : ∀ j, j < l.length → (w.cell? ⟨g, p + j, none⟩).isSome = true) (hf : ∀ j, j < l.length → w.frozen? ⟨g, p + j, none⟩ = false) (h1 : ∀ v ∈ l, v.oneCell' = true) :
    (Builtin.copy_ #[dT, sT] ty #[.slice (some ⟨g, p, none⟩) dn dc, .slice (some ⟨h, q, none⟩) sn sc]).run P w = .ok (.int .i64 k) (w.setCells g p l) := by
  have hf0 := run_firstCells_some (P := P) w z k ⟨h, q, none⟩ sn sc l hl (fun j v hj => by
    have hadd : (⟨h, q, none⟩ : Addr).add j = ⟨h, q + j, none⟩ := by unfold Addr.add; split <;> simp_all
    rw [hadd]; exact hsrc j v hj)
  have hst := run_storeCells_cells (P := P) g p l 0 w (fun j hj => by rw [Nat.add_zero]; exact hc j hj) (fun j hj => by rw [Nat.add_zero]; exact hf j hj) h1
  rw [Nat.add_zero] at hst
  cases hq : P.info? elem with
  | none => simp [hq] at hs
  | some i =>
    have hi : i.size = z := by simpa [hq] using hs
    simp only [Builtin.firstCells] at hf0
    simp [Builtin.copy_, run_underlying hu, Builtin.lenOf, Builtin.firstCells, sizeOf, typeInfo, hq, hi, hk, hf0, hst, goInt]
theorem size_ver (w : World) : (sizeOf 47).run Tryd.prog w = .ok 5 w := by kernel_rfl
theorem over_ver {W : World} {b g p : Nat} {x : Ver} (hx : W.heap[b]? = some (.cells #[.int .i64 x.at_, .int .i64 x.n, .bool x.there, .int .i64 x.read, .bool x.opn] 47 (0, 0))) (hbg : b ≠ g) {j : Nat} (hg : (W.cell? ⟨g, j, none⟩).isSome = true) (lb cb : Nat) :
    (callFunc 50 #[.slice (some ⟨b, 0, none⟩) 1 1, .slice (some ⟨g, p, none⟩) lb cb]).run Tryd.prog W = .ok (.value (.bool false)) W := by
  obtain ⟨t, k, hs, hk⟩ := shape_of hg
  rw [run_callFunc_extern Tryd.func50 (by kernel_rfl) (by kernel_rfl) (by kernel_rfl) (e := Extern.SlicesOverlaps.overlaps #[48, 48] #[4]) (by kernel_rfl),
    Lib.run_overlaps_apart W 48 4 47 Tryd.underlying48 5 size_ver ⟨b, 0, none⟩ ⟨g, p, none⟩ 1 1 lb cb hbg 47 t 5 k (by simp [World.shape?, hx]) hs hk (free0 hx 0) (free0 hx 5)]
  rfl
end Go.Proofs.YtmaokoekbjjgfaaDoor
