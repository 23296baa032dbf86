/- crc.One: the body of bytes that are just one frame. (CrcO's, without the law's own functions.) -/
import Derived.Test.YtfddlhcdlgdofaaGreatDoorZCrcF
set_option linter.unusedSimpArgs false
set_option linter.unusedVariables false
set_option linter.unnecessarySimpa false
namespace Go.Proofs.YtfddlhcdlgdofaaGreatDoor
open Go.RowKit

set_option maxRecDepth 100000 in
set_option maxHeartbeats 1000000 in
theorem one_no {w : World} {v : Value} {l : List UInt8} (hM : Mov w) (h : BIs w v l) (hf : firstP l = 0 ∨ firstP l ≠ l.length) :
    Calls Tryz.prog 57 #[v] w fun e w' => e = .returned (.tuple #[.slice none 0 0, .bool false]) ∧ Below w.heap.size w w' := by
  have HF := Lib.hid (first_any hM h)
  obtain ⟨A, cap, rfl, _, _, h3⟩ := h
  clear h3 hM
  by_cases h0 : firstP l = 0
  · rw [h0] at HF
    go_enter Tryz.func57, Tryz.ntmps57
    go_wp2_with fail
    refine (HF.out).mono ?_
    rintro e w' ⟨rfl, hb⟩
    go_wp2_with fail
    go_ret2
    exact ⟨rfl, hb⟩
  · have h1 : ((firstP l : Int) == 0) = false := beq_eq_false_iff_ne.2 (by omega)
    have h2 : ((firstP l : Int) != (l.length : Int)) = true := by rw [bne_iff_ne]; omega
    clear hf h0
    go_enter Tryz.func57, Tryz.ntmps57
    go_wp2_with fail
    refine (HF.out).mono ?_
    rintro e w' ⟨rfl, hb⟩
    go_wp2_with fail
    go_ret2
    exact ⟨rfl, hb⟩
set_option maxRecDepth 100000 in
set_option maxHeartbeats 1000000 in
theorem one_yes {w : World} {v : Value} {l : List UInt8} (hM : Mov w) (h : BIs w v l) (hf : firstP l ≠ 0) (hl : firstP l = l.length) :
    Calls Tryz.prog 57 #[v] w fun e w' => ∃ x, e = .returned (.tuple #[x, .bool true]) ∧ OwnBy w' w.heap.size x (bodyP l) ∧ Below w.heap.size w w' := by
  have HF := Lib.hid (first_any hM h)
  have HBD := Lib.hid (fun (W : World) (hW : Below w.heap.size w W) => body_at (h.below hW) hf)
  obtain ⟨A, cap, rfl, _, _, h3⟩ := h
  clear h3 hM
  have h1 : ((firstP l : Int) == 0) = false := beq_eq_false_iff_ne.2 (by omega)
  have h2 : ((firstP l : Int) != (l.length : Int)) = false := by rw [bne_eq_false_iff_eq]; omega
  clear hf hl
  generalize firstP l = F at *
  go_enter Tryz.func57, Tryz.ntmps57
  go_wp2_with fail
  refine (HF.out).mono ?_
  rintro e w1 ⟨rfl, hb⟩
  have HB := Lib.hid hb
  clear hb
  go_wp2_with fail
  refine (HBD.out w1 HB.out).mono ?_
  rintro e w2 ⟨x, rfl, hO, hb⟩
  have HO := Lib.hid (show OwnBy w2 w.heap.size x (bodyP l) from by
    rcases hO with h | ⟨g, c, rfl, h⟩
    · exact .inl h
    · exact .inr ⟨g, c, rfl, ⟨Nat.le_trans HB.out.size h.new, h.lt, h.le, h.max, h.holds, h.there⟩⟩)
  have HB2 := Lib.hid (HB.out.trans (hb.mono HB.out.size))
  clear hO hb
  go_wp2
  go_ret2
  exact ⟨_, rfl, HO.out, HB2.out⟩
end Go.Proofs.YtfddlhcdlgdofaaGreatDoor
