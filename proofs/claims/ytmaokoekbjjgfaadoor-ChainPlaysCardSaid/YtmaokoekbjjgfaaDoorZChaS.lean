/- Copy. -/
import Derived.Test.YtmaokoekbjjgfaaDoorZChaR
set_option linter.unusedSimpArgs false
set_option linter.unusedVariables false
set_option linter.unnecessarySimpa false
namespace Go.Proofs.YtmaokoekbjjgfaaDoor
open Go.RowKit Go.Shelf

set_option maxRecDepth 100000 in
set_option maxHeartbeats 1000000 in
theorem Copy_any {w : World} {c : Nat} {v : Value} {L : List Ver} (h : Ch w c v L) (h0 : 0 < L.length) :
    Calls Tryd.prog 10 #[.pointer (some ⟨c, 0, none⟩)] w fun e w' => ∃ d u, e = .returned (.pointer (some ⟨d, 0, none⟩)) ∧ Ch w' d u L ∧ Below w.heap.size w w' ∧ w.heap.size ≤ d ∧ ∀ b, u.ownBlock = some b → w.heap.size ≤ b := by
  have HV := Lib.hid (Versions_any h h0)
  have HC := Lib.hid h
  clear h
  go_enter Tryd.func10, Tryd.ntmps10
  go_wp2_with fail
  refine (HV.out).mono ?_
  rintro e w1 ⟨rfl, rfl⟩
  clear HV
  go_wp2_with fail
  go_ret
  have hb2 := below_new (w := w) (.cells (verC L).toArray 47)
  have hb3 := below_new (w := w.alloc (.cells (verC L).toArray 47)) (.cells #[.slice (some ⟨w.heap.size, 0, none⟩) L.length L.length] 58)
  have hbb : Below w.heap.size w ((w.alloc (.cells (verC L).toArray 47)).alloc (.cells #[.slice (some ⟨w.heap.size, 0, none⟩) L.length L.length] 58)) := hb2.trans (hb3.mono (by rw [asz]; omega))
  have hrow := row_all HC.out.few (alloc_at w (.cells (verC L).toArray 47))
  have hat := alloc_at (w.alloc (.cells (verC L).toArray 47)) (.cells #[.slice (some ⟨w.heap.size, 0, none⟩) L.length L.length] 58)
  rw [asz] at hat
  refine ⟨_, _, rfl, ⟨⟨hat, hrow.below hb3, fun e => ?_⟩, HC.out.ris, HC.out.few, HC.out.ok, HC.out.glob.below hbb, fun e => ?_⟩, hbb, by omega, fun b hb => ?_⟩
  · have e : w.heap.size = w.heap.size + 1 := Option.some.inj e
    omega
  · have e : w.heap.size = 0 := Option.some.inj e
    have := HC.out.glob.lt
    omega
  · have hb : w.heap.size = b := Option.some.inj hb
    omega
end Go.Proofs.YtmaokoekbjjgfaaDoor
