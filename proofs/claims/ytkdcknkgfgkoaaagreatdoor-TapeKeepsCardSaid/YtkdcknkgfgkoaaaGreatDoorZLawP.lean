/- TapeKeeps: the law's step: any. -/
import Derived.Test.YtkdcknkgfgkoaaaGreatDoorZLawO
import Derived.Test.YtkdcknkgfgkoaaaGreatDoorZLawH
import Derived.Test.YtkdcknkgfgkoaaaGreatDoorZLawJ
set_option linter.unusedSimpArgs false
set_option linter.unusedVariables false
set_option linter.unnecessarySimpa false
namespace Go.Proofs.YtkdcknkgfgkoaaaGreatDoor
open Go.RowKit

theorem step_any {w0 w : World} {t r : Nat} {T : Tp} {R : RTp} (h : TR w0 w t r T R) {v : Value} {kd n a : Int} {b : List UInt8} {ks : List Int} (hv : OpIs w0 v kd n a b ks) : Calls Tryz.prog 11 #[.pointer (some ⟨t, 0, none⟩), .pointer (some ⟨r, 0, none⟩), v] w (StepP w0) := by
  by_cases h0 : kd < 0 ∨ 8 < kd
  · exact step_other h hv h0
  · have : kd = 0 ∨ kd = 1 ∨ kd = 2 ∨ kd = 3 ∨ kd = 4 ∨ kd = 5 ∨ kd = 6 ∨ kd = 7 ∨ kd = 8 := by omega
    rcases this with rfl | rfl | rfl | rfl | rfl | rfl | rfl | rfl | rfl
    · exact step0 h hv
    · exact step1 h hv
    · exact step2 h hv
    · exact step3 h hv
    · exact step4 h hv
    · exact step5 h hv
    · exact step6 h hv
    · exact step7 h hv
    · exact step8 h hv
end Go.Proofs.YtkdcknkgfgkoaaaGreatDoor
