/- container/heap's down, at wait.queue. -/
import Derived.Test.YtlbhpeeggbfcpaaZWaiO
import Derived.Deep.CutBlock
import Derived.Deep.DeepCutAuto
set_option linter.unusedSimpArgs false
set_option linter.unusedVariables false
set_option linter.unnecessarySimpa false
namespace Go.Proofs.Ytlbhpeeggbfcpaa
open Go.RowKit

/-- The lesser one of the children. -/
structure Least (l : List Int) (n i j : Nat) (y : Int) : Prop where
  at_ : l[j]? = some y
  child : j = 2 * i + 1 ∨ j = 2 * i + 2
  lt : j < n
  least : ∀ k z, (k = 2 * i + 1 ∨ k = 2 * i + 2) → k < n → l[k]? = some z → y ≤ z
set_option maxRecDepth 100000 in
set_option maxHeartbeats 4000000 in
theorem down_any {w : World} {q i0 n : Nat} {v : Value} {l0 : List Int} (R : List Int → Nat → Prop) (hR : ∀ (l : List Int) (i j : Nat) (x y : Int), R l i → l[i]? = some x → Least l n i j y → y < x → R ((l.set i y).set j x) j) (h : QAt w q v l0) (h0 : R l0 i0) (hi0 : i0 < l0.length) (hn : n ≤ l0.length) (hl : l0.length ≤ 1000000) :
    Calls Try.prog 92 #[.iface 125 (.pointer (some ⟨q, 0, none⟩)), .int .i64 i0, .int .i64 n] w fun e w' => ∃ l i b, e = .returned (.bool b) ∧ R l i ∧ l.length = l0.length ∧ (n ≤ 2 * i + 1 ∨ ∃ x, l[i]? = some x ∧ ∃ j y, Least l n i j y ∧ x ≤ y) ∧ QAt w' q v l ∧ Touch (fun k => v.ownBlock = some k) w w' := by
  have HR := Lib.hid hR
  have HQ := Lib.hid h
  have H0 := Lib.hid h0
  clear h hR h0
  go_enter Try.func92, Try.ntmps92
  go_wp2_with fail
  go_loopw [7] (fun iv wr => ∃ (l : List Int) (i : Nat), iv = .int .i64 i ∧ i < l.length ∧ l.length = l0.length ∧ R l i ∧ QAt wr q v l ∧ Touch (fun k => v.ownBlock = some k) w wr) (fun iv _ => l0.length - (intOf iv).toNat)
  case atStart => exact ⟨l0, i0, rfl, hi0, rfl, H0.out, HQ.out, Touch.refl _ _⟩
  case round =>
    obtain ⟨l, i, rfl, hil, hll, hr, hq, ht⟩ := hrel
    have HR2 := Lib.hid hr
    have HQ2 := Lib.hid hq
    have HT2 := Lib.hid ht
    have HIL := Lib.hid hil
    have HLL := Lib.hid hll
    have b1 : (i : Int) ≤ 1000000 := by omega
    have b2 : (n : Int) ≤ 1000000 := by omega
    clear hr hq ht
    by_cases hc : 2 * i + 1 < n
    · have c1 : ¬ (n : Int) ≤ 2 * (i : Int) + 1 := by omega
      have c2 : ¬ 2 * (i : Int) + 1 < 0 := by omega
      have hj1 : l[2 * i + 1]? = some l[2 * i + 1] := List.getElem?_eq_getElem (by omega)
      generalize l[2 * i + 1] = y1 at hj1
      have hx0 : l[i]? = some l[i] := List.getElem?_eq_getElem hil
      generalize l[i] = x0 at hx0
      have HX0 := Lib.hid hx0
      have HC := Lib.hid hc
      have HJ1 := Lib.hid hj1
      have hm1 := mLess (.pointer (some ⟨q, 0, none⟩))
      have hm2 := mSwap (.pointer (some ⟨q, 0, none⟩))
      have e1 : ((2 * i + 2 : Nat) : Int) = 2 * (i : Int) + 1 + 1 := by omega
      have e2 : ((2 * i + 1 : Nat) : Int) = 2 * (i : Int) + 1 := by omega
      have E1 := Lib.hid e1
      have E2 := Lib.hid e2
      clear hj1 hx0 e1 e2
      go_upto_region 6 with fail
      go_cut [33] from 25 to 32 (fun cv wx => ∃ d, cv = .bool d ∧ (d = true → ∃ y2, Least l n i (2 * i + 2) y2) ∧ (d = false → Least l n i (2 * i + 1) y1) ∧ Below wr.heap.size wr wx)
      case first =>
        by_cases hc2 : 2 * i + 2 < n
        · have d1 : 2 * (i : Int) + 1 + 1 < (n : Int) := by omega
          have hj2 : l[2 * i + 2]? = some l[2 * i + 2] := List.getElem?_eq_getElem (by omega)
          generalize l[2 * i + 2] = y2 at hj2
          have HL := Lib.hid (qless HQ2.out hj2 HJ1.out)
          rw [E1.out, E2.out] at HL
          have HC2 := Lib.hid hc2
          have HJ2 := Lib.hid hj2
          clear hj2
          by_cases hlt : y2 < y1
          · have d : decide (y2 < y1) = true := decide_eq_true hlt
            rw [d] at HL
            have HLT := Lib.hid hlt
            clear hlt d
            go_wp2_with fail
            refine (HL.out).mono ?_
            rintro e w2 ⟨rfl, hb2⟩
            have HB := Lib.hid hb2
            clear hb2
            go_wp2_with fail
            go_meet
            exact ⟨true, rfl, fun _ => ⟨y2, HJ2.out, .inr rfl, HC2.out, fun k z hk hkn hz => by
              have := HLT.out
              rcases hk with rfl | rfl
              · rw [HJ1.out] at hz; have := Option.some.inj hz; omega
              · rw [HJ2.out] at hz; have := Option.some.inj hz; omega⟩, (fun h => by cases h), HB.out⟩
          · have d : decide (y2 < y1) = false := decide_eq_false hlt
            rw [d] at HL
            have HLT := Lib.hid hlt
            clear hlt d
            go_wp2_with fail
            refine (HL.out).mono ?_
            rintro e w2 ⟨rfl, hb2⟩
            have HB := Lib.hid hb2
            clear hb2
            go_wp2_with fail
            go_meet
            exact ⟨false, rfl, (fun h => by cases h), fun _ => ⟨HJ1.out, .inl rfl, HC.out, fun k z hk hkn hz => by
              have := HLT.out
              rcases hk with rfl | rfl
              · rw [HJ1.out] at hz; have := Option.some.inj hz; omega
              · rw [HJ2.out] at hz; have := Option.some.inj hz; omega⟩, HB.out⟩
        · have d1 : ¬ 2 * (i : Int) + 1 + 1 < (n : Int) := by omega
          have HC2 := Lib.hid hc2
          go_wp2_with fail
          go_meet
          exact ⟨false, rfl, (fun h => by cases h), fun _ => ⟨HJ1.out, .inl rfl, HC.out, fun k z hk hkn hz => by
            have := HC2.out
            rcases hk with rfl | rfl
            · rw [HJ1.out] at hz; have := Option.some.inj hz; omega
            · omega⟩, Below.refl _ _⟩
      case rest =>
        obtain ⟨d, rfl, hd1, hd2, hbc⟩ := hcut
        have HBC := Lib.hid hbc
        cases d
        · have LEAST := Lib.hid (hd2 rfl)
          clear hd1 hd2 hbc
          have HL2 := Lib.hid (qless (HQ2.out.below HBC.out) LEAST.out.at_ HX0.out)
          have HSW := Lib.hid (fun (w5 : World) (hb5 : Below wr.heap.size wr w5) => qswap (HQ2.out.below hb5) HX0.out LEAST.out.at_)
          by_cases hlt2 : y1 < x0
          · have d : decide (y1 < x0) = true := decide_eq_true hlt2
            rw [d, E2.out] at HL2
            have HLT2 := Lib.hid hlt2
            clear hlt2 d
            go_wp2_with fail
            refine (HL2.out).mono ?_
            rintro e w6 ⟨rfl, hb6⟩
            have HB6 := Lib.hid (HBC.out.trans (hb6.mono HBC.out.size))
            clear hb6
            have HSW2 := Lib.hid (HSW.out w6 HB6.out)
            rw [E2.out] at HSW2
            go_wp2_with fail
            refine (HSW2.out).mono ?_
            rintro e w7 ⟨rfl, hq7, ht7⟩
            have HQ7 := Lib.hid hq7
            have HT7 := Lib.hid ((HT2.out.after HB6.out).trans ht7 (fun _ _ h => h))
            clear hq7 ht7
            go_wp2_with fail
            go_roundw
            case rel => exact ⟨_, (2 * i + 1), by go_num, by rw [List.length_set, List.length_set]; have := HLL.out; have := HC.out; have := LEAST.out.lt; omega, by rw [List.length_set, List.length_set]; exact HLL.out, HR.out l i (2 * i + 1) x0 y1 HR2.out HX0.out LEAST.out HLT2.out, HQ7.out, HT7.out⟩
            case measure => have := HLL.out; have := LEAST.out.lt; have := HIL.out; simp [intOf]; omega
          · have d : decide (y1 < x0) = false := decide_eq_false hlt2
            rw [d, E2.out] at HL2
            have HLT2 := Lib.hid hlt2
            clear hlt2 d
            go_wp2_with fail
            refine (HL2.out).mono ?_
            rintro e w6 ⟨rfl, hb6⟩
            have HB6 := Lib.hid (HBC.out.trans (hb6.mono HBC.out.size))
            clear hb6
            go_wp2_with fail
            go_ret
            exact ⟨l, i, _, rfl, HR2.out, HLL.out, .inr ⟨x0, HX0.out, (2 * i + 1), y1, LEAST.out, by first | exact HLT2.out | exact Int.not_lt.1 HLT2.out⟩, HQ2.out.below HB6.out, HT2.out.after HB6.out⟩
        · obtain ⟨y2, hy2⟩ := hd1 rfl
          have LEAST := Lib.hid hy2
          clear hd1 hd2 hbc hy2
          have HL2 := Lib.hid (qless (HQ2.out.below HBC.out) LEAST.out.at_ HX0.out)
          have HSW := Lib.hid (fun (w5 : World) (hb5 : Below wr.heap.size wr w5) => qswap (HQ2.out.below hb5) HX0.out LEAST.out.at_)
          by_cases hlt2 : y2 < x0
          · have d : decide (y2 < x0) = true := decide_eq_true hlt2
            rw [d, E1.out] at HL2
            have HLT2 := Lib.hid hlt2
            clear hlt2 d
            go_wp2_with fail
            refine (HL2.out).mono ?_
            rintro e w6 ⟨rfl, hb6⟩
            have HB6 := Lib.hid (HBC.out.trans (hb6.mono HBC.out.size))
            clear hb6
            have HSW2 := Lib.hid (HSW.out w6 HB6.out)
            rw [E1.out] at HSW2
            go_wp2_with fail
            refine (HSW2.out).mono ?_
            rintro e w7 ⟨rfl, hq7, ht7⟩
            have HQ7 := Lib.hid hq7
            have HT7 := Lib.hid ((HT2.out.after HB6.out).trans ht7 (fun _ _ h => h))
            clear hq7 ht7
            go_wp2_with fail
            go_roundw
            case rel => exact ⟨_, (2 * i + 2), by go_num, by rw [List.length_set, List.length_set]; have := HLL.out; have := HC.out; have := LEAST.out.lt; omega, by rw [List.length_set, List.length_set]; exact HLL.out, HR.out l i (2 * i + 2) x0 y2 HR2.out HX0.out LEAST.out HLT2.out, HQ7.out, HT7.out⟩
            case measure => have := HLL.out; have := LEAST.out.lt; have := HIL.out; simp [intOf]; omega
          · have d : decide (y2 < x0) = false := decide_eq_false hlt2
            rw [d, E1.out] at HL2
            have HLT2 := Lib.hid hlt2
            clear hlt2 d
            go_wp2_with fail
            refine (HL2.out).mono ?_
            rintro e w6 ⟨rfl, hb6⟩
            have HB6 := Lib.hid (HBC.out.trans (hb6.mono HBC.out.size))
            clear hb6
            go_wp2_with fail
            go_ret
            exact ⟨l, i, _, rfl, HR2.out, HLL.out, .inr ⟨x0, HX0.out, (2 * i + 2), y2, LEAST.out, by first | exact HLT2.out | exact Int.not_lt.1 HLT2.out⟩, HQ2.out.below HB6.out, HT2.out.after HB6.out⟩
    · have c1 : (n : Int) ≤ 2 * (i : Int) + 1 := by omega
      have HC := Lib.hid hc
      go_wp2_with fail
      go_ret
      exact ⟨l, i, _, rfl, HR2.out, HLL.out, .inl (by have := HC.out; omega), HQ2.out, HT2.out⟩
end Go.Proofs.Ytlbhpeeggbfcpaa
