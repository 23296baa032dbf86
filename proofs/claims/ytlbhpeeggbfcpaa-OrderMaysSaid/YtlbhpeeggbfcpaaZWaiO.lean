/- wait.queue: Pop. container/heap's up, at wait.queue. -/
import Derived.Test.YtlbhpeeggbfcpaaZWaiN
import Derived.Test.YtlbhpeeggbfcpaaZWaiF
set_option linter.unusedSimpArgs false
set_option linter.unusedVariables false
set_option linter.unnecessarySimpa false
namespace Go.Proofs.Ytlbhpeeggbfcpaa
open Go.RowKit

set_option maxRecDepth 100000 in
set_option maxHeartbeats 1000000 in
theorem qpop {w : World} {q : Nat} {v : Value} {l : List Int} {x : Int} (h : QAt w q v (l ++ [x])) : Calls Try.prog 115 #[.pointer (some ⟨q, 0, none⟩)] w fun e w' => ∃ v', e = .returned (.iface 3 (.int .i64 x)) ∧ QAt w' q v' l ∧ v'.ownBlock = v.ownBlock ∧ Touch (fun k => k = q) w w' := by
  have c0 := cell_of h.head 0
  have f0 := free0 h.head 0
  have hne : (l ++ [x]) ≠ [] := by simp
  obtain ⟨g, cap, rfl, h1, h2, hcut, hcell⟩ := h.row.cut hne
  rw [List.dropLast_concat] at hcut
  have hln : (l ++ [x]).length = l.length + 1 := by simp
  have k1 := hcell l.length x (by simp)
  rw [hln] at h1 c0 hcut
  have hgq : g ≠ q := fun e => h.off (by rw [← e]; rfl)
  have HQ : Hid (QAt (w.setCell ⟨q, 0, none⟩ (.slice (some ⟨g, 0, none⟩) l.length cap)) q (.slice (some ⟨g, 0, none⟩) l.length cap) l) := Lib.hid ⟨set_at h.head 0 _, RowIs.keep hcut (by simp [World.setCell]) (fun k hk => by cases hk; exact Below.heap_setCell _ _ _ _ (fun e => hgq (by simpa using e))), fun e => hgq (by cases e; rfl)⟩
  have HT : Hid (Touch (fun k => k = q) w (w.setCell ⟨q, 0, none⟩ (.slice (some ⟨g, 0, none⟩) l.length cap))) := Lib.hid ((Touch.refl (fun k => k = q) w).setCell ⟨q, 0, none⟩ (fun _ => rfl) _)
  have hll : (l.length : Int) + 1 ≤ 9223372036854775807 := by unfold maxLen at h2; omega
  unfold maxLen at h2
  have hcl : l.length ≤ cap := by omega
  clear h hcut hcell hne hln
  go_enter Try.func115, Try.ntmps115
  go_wp2_with fail
  go_ret
  exact ⟨_, rfl, HQ.out, rfl, HT.out⟩
end Go.Proofs.Ytlbhpeeggbfcpaa

namespace Go.Proofs.Ytlbhpeeggbfcpaa
open Go.RowKit

theorem mLess (v : Value) (w : World) : (method 268 125 v "Less").run Try.prog w = .ok (114, v) w := by kernel_rfl
theorem mSwap (v : Value) (w : World) : (method 268 125 v "Swap").run Try.prog w = .ok (117, v) w := by kernel_rfl
theorem mLen (v : Value) (w : World) : (method 268 125 v "Len").run Try.prog w = .ok (55, v) w := by kernel_rfl
theorem mPush (v : Value) (w : World) : (method 268 125 v "Push").run Try.prog w = .ok (116, v) w := by kernel_rfl
theorem mPop (v : Value) (w : World) : (method 268 125 v "Pop").run Try.prog w = .ok (115, v) w := by kernel_rfl
theorem half_i (j : Nat) (h : 0 < j) : Int.tdiv ((j : Int) - 1) 2 = (((j - 1) / 2 : Nat) : Int) := by
  rw [Int.tdiv_eq_ediv_of_nonneg (by omega)]
  omega
set_option maxRecDepth 100000 in
set_option maxHeartbeats 2000000 in
theorem up_any {w : World} {q j0 : Nat} {v : Value} {l0 : List Int} (R : List Int → Nat → Prop) (hR : ∀ (l : List Int) (j : Nat) (x y : Int), R l j → 0 < j → l[j]? = some x → l[(j - 1) / 2]? = some y → x < y → R ((l.set ((j - 1) / 2) x).set j y) ((j - 1) / 2)) (h : QAt w q v l0) (h0 : R l0 j0) (hj : j0 < l0.length) (hl : l0.length ≤ 1000000) :
    Calls Try.prog 91 #[.iface 125 (.pointer (some ⟨q, 0, none⟩)), .int .i64 j0] w fun e w' => ∃ l j, e = .returned (.tuple #[]) ∧ R l j ∧ l.length = l0.length ∧ (j = 0 ∨ ∃ x y, l[j]? = some x ∧ l[(j - 1) / 2]? = some y ∧ ¬ x < y) ∧ QAt w' q v l ∧ Touch (fun k => v.ownBlock = some k) w w' := by
  have HR := Lib.hid hR
  have HQ := Lib.hid h
  have H0 := Lib.hid h0
  clear h hR h0
  go_enter Try.func91, Try.ntmps91
  go_wp2_with fail
  go_loopw [1] (fun jv wr => ∃ (l : List Int) (j : Nat), jv = .int .i64 j ∧ j < l.length ∧ l.length = l0.length ∧ R l j ∧ QAt wr q v l ∧ Touch (fun k => v.ownBlock = some k) w wr) (fun jv _ => (intOf jv).toNat)
  case atStart => exact ⟨l0, j0, rfl, hj, rfl, H0.out, HQ.out, Touch.refl _ _⟩
  case round =>
    obtain ⟨l, j, rfl, hjl, hll, hr, hq, ht⟩ := hrel
    have HR2 := Lib.hid hr
    have HQ2 := Lib.hid hq
    have HT2 := Lib.hid ht
    clear hr hq ht
    by_cases hz : j = 0
    · subst hz
      go_wp2_with fail
      first | go_end0 | (refine bodyPost_end (v := .tuple #[]) (by simp [results, Try.results91, go_sem]) rfl ?_)
      first | exact ⟨l, 0, rfl, HR2.out, hll, .inl rfl, HQ2.out, HT2.out⟩ | exact ⟨rfl, l, 0, HR2.out, hll, .inl rfl, HQ2.out, HT2.out⟩
    · have hp : 0 < j := by omega
      have e1 := half_i j hp
      have hpl : (j - 1) / 2 < l.length := by omega
      have hne : ((((j - 1) / 2 : Nat) : Int) == (j : Int)) = false := by rw [beq_eq_false_iff_ne]; omega
      have hx : l[j]? = some l[j] := List.getElem?_eq_getElem hjl
      have hy : l[(j - 1) / 2]? = some l[(j - 1) / 2] := List.getElem?_eq_getElem hpl
      generalize l[j] = x at hx
      generalize l[(j - 1) / 2] = y at hy
      have HL := Lib.hid (qless HQ2.out hx hy)
      have hm1 := mLess (.pointer (some ⟨q, 0, none⟩))
      have hm2 := mSwap (.pointer (some ⟨q, 0, none⟩))
      have HP : Hid ((j - 1) / 2 < j) := Lib.hid (by omega)
      have HS := Lib.hid (HR.out l j x y HR2.out hp hx)
      have HFIN : Hid (∀ z, l[(j - 1) / 2]? = some z → ¬ x < z → ∃ x y, l[j]? = some x ∧ l[(j - 1) / 2]? = some y ∧ ¬ x < y) := Lib.hid (fun z hz hn => ⟨x, z, hx, hz, hn⟩)
      have b1 : (j : Int) ≤ 1000000 := by omega
      have b2 : (1 : Int) ≤ (j : Int) := by omega
      have b3 : (((j - 1) / 2 : Nat) : Int) ≤ 1000000 := by omega
      generalize hpe : (j - 1) / 2 = p at *
      have HPE := Lib.hid hpe
      clear hpe
      have HX := Lib.hid hx
      have HY := Lib.hid hy
      have HLL := Lib.hid hll
      have HJ := Lib.hid hjl
      clear hx hy hll hz hpl
      by_cases hlt : x < y
      · have d : decide (x < y) = true := decide_eq_true hlt
        rw [d] at HL
        have HLT := Lib.hid hlt
        clear hlt d
        go_wp2_with fail
        refine (HL.out).mono ?_
        rintro e w2 ⟨rfl, hb2⟩
        have HT4 := Lib.hid (HT2.out.after hb2)
        have HSW := Lib.hid (qswap (HQ2.out.below hb2) HY.out HX.out)
        clear hb2
        go_wp2_with fail
        refine (HSW.out).mono ?_
        rintro e w3 ⟨rfl, hq3, ht3⟩
        have HQ3 := Lib.hid hq3
        have HT3 := Lib.hid (HT4.out.trans ht3 (fun _ _ h => h))
        clear hq3 ht3
        go_wp2_with fail
        go_roundw
        case rel => exact ⟨_, p, rfl, by rw [List.length_set, List.length_set]; have := HJ.out; have := HP.out; omega, by rw [List.length_set, List.length_set]; exact HLL.out, HS.out HY.out HLT.out, HQ3.out, HT3.out⟩
        case measure => have := HP.out; simp [intOf]; omega
      · have d : decide (x < y) = false := decide_eq_false hlt
        rw [d] at HL
        have HLT := Lib.hid hlt
        clear hlt d
        go_wp2_with fail
        refine (HL.out).mono ?_
        rintro e w2 ⟨rfl, hb2⟩
        have HB := Lib.hid hb2
        clear hb2
        go_wp2_with fail
        first | go_end0 | (refine bodyPost_end (v := .tuple #[]) (by simp [results, Try.results91, go_sem]) rfl ?_)
        exact ⟨rfl, l, j, HR2.out, HLL.out, .inr ⟨x, HX.out, y, by rw [HPE.out]; exact HY.out, by first | exact HLT.out | exact Int.not_lt.1 HLT.out⟩, HQ2.out.below HB.out, HT2.out.after HB.out⟩
end Go.Proofs.Ytlbhpeeggbfcpaa
