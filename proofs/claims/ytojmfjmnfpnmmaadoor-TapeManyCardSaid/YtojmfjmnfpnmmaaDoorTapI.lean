/- The tape: Append. -/
import Derived.Test.YtojmfjmnfpnmmaaDoorTapH
import Derived.Deep.RegionHeld3
set_option linter.unusedSimpArgs false
set_option linter.unusedVariables false
set_option linter.unnecessarySimpa false
namespace Go.Proofs.YtojmfjmnfpnmmaaDoor
open Go.RowKit
open Go.Maps (Keyed)

theorem appendS : (⟨#[97, 112, 112, 101, 110, 100]⟩ : ByteArray) = ⟨#[97, 112, 112, 101, 110, 100]⟩ := rfl
/-- The world when Append's arguments have their boxes. -/
def appW (w : World) (p : Option Addr) (seg : Int) (v : Value) : World := ((w.alloc (.cells #[.pointer p] 31)).alloc (.cells #[.int .i64 seg] 3)).alloc (.cells #[v] 22)
theorem appW_size (w : World) (p : Option Addr) (seg : Int) (v : Value) : (appW w p seg v).heap.size = w.heap.size + 1 + 1 + 1 := by unfold appW; rw [asz, asz, asz]
theorem appW_below (w : World) (p : Option Addr) (seg : Int) (v : Value) : Below w.heap.size w (appW w p seg v) := by
  unfold appW
  exact (((Below.refl _ _).alloc (Nat.le_refl _) _).alloc (by rw [asz]; omega) _).alloc (by rw [asz, asz]; omega) _
theorem appW_cells (w : World) (p : Option Addr) (seg : Int) (v : Value) : (appW w p seg v).cell? ⟨w.heap.size, 0, none⟩ = some (.pointer p) ∧ (appW w p seg v).cell? ⟨w.heap.size + 1, 0, none⟩ = some (.int .i64 seg) ∧ (appW w p seg v).cell? ⟨w.heap.size + 1 + 1, 0, none⟩ = some v := by
  unfold appW
  refine ⟨?_, ?_, ?_⟩
  · exact cell_of (((Below.heap_alloc _ _ _ (by rw [asz, asz]; omega)).trans (Below.heap_alloc _ _ _ (by rw [asz]; omega))).trans (alloc_at w _)) 0
  · have := alloc_at (w.alloc (.cells #[.pointer p] 31)) (.cells #[.int .i64 seg] 3)
    rw [asz] at this
    exact cell_of ((Below.heap_alloc _ _ _ (by rw [asz, asz]; omega)).trans this) 0
  · have := alloc_at ((w.alloc (.cells #[.pointer p] 31)).alloc (.cells #[.int .i64 seg] 3)) (.cells #[v] 22)
    rw [asz, asz] at this
    exact cell_of this 0

set_option maxRecDepth 100000 in
set_option maxHeartbeats 2000000 in
/-- ready says no. -/
theorem append_err {w : World} {p : Option Addr} {seg : Int} {A : Option Addr} {n c : Nat} {E : Int} (hG : Glob w) (hE : E ≠ 0)
    (hR : Calls Tryd.prog 30 #[.pointer p, .int .i64 seg] (appW w p seg (.slice A n c)) fun e w' => ∃ v, e = .returned v ∧ ErrP E (appW w p seg (.slice A n c)) v w') :
    Calls Tryd.prog 11 #[.pointer p, .int .i64 seg, .slice A n c] w fun e w' => e = .returned (.int .i64 E) ∧ Below w.heap.size w w' := by
  have HR := Lib.hid hR
  have HG := Lib.hid (hG.below (appW_below w p seg (.slice A n c)))
  have HB0 := Lib.hid (appW_below w p seg (.slice A n c))
  obtain ⟨k0, k1, k2⟩ := appW_cells w p seg (.slice A n c)
  have HCL := Lib.hid (fun W (hW : Below (appW w p seg (.slice A n c)).heap.size (appW w p seg (.slice A n c)) W) => (hW.cell (p := ⟨w.heap.size, 0, none⟩) (by rw [appW_size]; simp only; omega)).trans k0)
  have HE := Lib.hid hE
  have hmf : ∀ (fn : Fn) (first cap : Array Value) (w : World), (Instr.makeFunc fn first cap).run Tryd.prog w = .ok (.func fn first cap) w := fun _ _ _ _ => rfl
  clear hR hG k0 k1 k2 hE
  go_enter Tryd.func11, Tryd.ntmps11
  go_wp2_with fail
  refine (HR.out).mono ?_
  rintro e w4 ⟨v4, rfl, h4⟩
  have hb4 := h4.below
  have HC4 : Hid (∀ W, Below w4.heap.size w4 W → W.cell? ⟨w.heap.size, 0, none⟩ = some (.pointer p)) := fun W hW => HCL.out W (hb4.trans (hW.mono hb4.size))
  have HB4 := Lib.hid (HB0.out.trans (hb4.mono HB0.out.size))
  have HIN := Lib.hid (fun W (hW : Below w4.heap.size w4 W) => (in_err ⟨#[97, 112, 112, 101, 110, 100]⟩ h4 hW).mono fun e w' (h : ∃ v', e = .returned v' ∧ ErrQ E (appW w p seg (.slice A n c)) v' w' ∧ Below W.heap.size W w') => (h.elim fun v' h => ⟨v', h.1, h.2.1, hW.trans (h.2.2.mono hW.size)⟩ : ∃ v', e = .returned v' ∧ ErrQ E (appW w p seg (.slice A n c)) v' w' ∧ Below w4.heap.size w4 w'))
  have HCH : Hid (∀ v' Wq f W, ErrQ E (appW w p seg (.slice A n c)) v' Wq → Below Wq.heap.size Wq W → Below w4.heap.size w4 Wq → Calls Tryd.prog 32 #[.pointer p, v', f] W fun e w' => e = .returned (.int .i64 E) ∧ Below w4.heap.size w4 w') := fun v' Wq f W hq hW hb => (change_err HG.out hq HE.out hW).mono fun e w' ⟨h1, h2⟩ => ⟨h1, hb.trans ((hW.trans (h2.mono hW.size)).mono hb.size)⟩
  have hc4 := HC4.out _ (Below.refl _ _)
  obtain ⟨tt, uu, rfl⟩ := h4.form HE.out
  clear h4 hb4
  go_wp2_with fail
  go_region_held3 (fun W => W.cell? ⟨w.heap.size, 0, none⟩ = some (.pointer p)) ((first | go_keep | exact HC4.out _ (by assumption))) (first | (go_at_call 33; refine (HIN.out _ (by first | assumption | exact below_drew (Below.refl _ _))).mono ?_; rintro e w5 ⟨v5, rfl, hq5, hb5⟩) | (go_at_call 32; refine (HCH.out _ _ _ _ (by assumption) (Below.refl _ _) (by assumption)).mono ?_; rintro e w6 ⟨rfl, hb6⟩))
  all_goals
    go_wp2
    go_ret
    exact ⟨rfl, HB4.out.trans (Below.mono (by assumption) HB4.out.size)⟩
end Go.Proofs.YtojmfjmnfpnmmaaDoor
