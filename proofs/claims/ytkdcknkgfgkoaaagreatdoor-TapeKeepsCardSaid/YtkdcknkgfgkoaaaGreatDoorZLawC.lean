/- TapeKeeps: the law's same. -/
import Derived.Test.YtkdcknkgfgkoaaaGreatDoorZLawA
import Derived.Test.YtkdcknkgfgkoaaaGreatDoorZCrcF
set_option linter.unusedSimpArgs false
set_option linter.unusedVariables false
set_option linter.unnecessarySimpa false
namespace Go.Proofs.YtkdcknkgfgkoaaaGreatDoor
open Go.RowKit

theorem row_set {W : World} {g n c : Nat} {l : List Value} (h : RowIs W 1 (.slice (some ⟨g, 0, none⟩) n c) n l) {i : Nat} (hi : i < n) (u : Value) : RowIs (W.setCell ⟨g, i, none⟩ u) 1 (.slice (some ⟨g, 0, none⟩) n c) n (l.set i u) := by
  rcases h with ⟨e, _⟩ | ⟨g', cap, e, h1, h2, h3⟩
  · cases e
  · injection e with e _ e2
    injection e with e
    injection e with e
    subst e
    subst e2
    have hex : (W.cell? ⟨g, i, none⟩).isSome = true := (h3.there i (by omega)).1
    refine .inr ⟨g, c, rfl, by rw [List.length_set]; exact h1, h2, ⟨by rw [setCell_sz]; exact h3.lt, by rw [List.length_set]; exact h3.le, h3.max, fun j b hj => ?_, fun j hj => ?_⟩⟩
    · by_cases hij : i = j
      · subst hij
        rw [List.getElem?_set_self (by rw [h1]; omega)] at hj
        obtain rfl := Option.some.inj hj
        exact World.cell?_setCell_same' _ _ _ hex
      · rw [List.getElem?_set_ne hij] at hj
        rw [World.cell?_setCell_other _ _ _ _ (by intro e; injection e with _ e; exact hij e)]
        exact h3.holds j b hj
    · obtain ⟨q1, q2⟩ := h3.there j hj
      refine ⟨?_, by rw [World.frozen?_setCell]; exact q2⟩
      by_cases hij : i = j
      · subst hij
        rw [World.cell?_setCell_same' _ _ _ hex]; rfl
      · rw [World.cell?_setCell_other _ _ _ _ (by intro e; injection e with _ e; exact hij e)]
        exact q1
end Go.Proofs.YtkdcknkgfgkoaaaGreatDoor
