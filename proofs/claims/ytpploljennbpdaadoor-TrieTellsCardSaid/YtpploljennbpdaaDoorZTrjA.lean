/- trie, the law's side: whether two lists are the same, whether one begins another. -/
import Derived.Test.YtpploljennbpdaaDoorZTriZ
import Derived.Deep.QuietTactic
import Derived.BigQuiet
set_option linter.unusedSimpArgs false
set_option linter.unusedVariables false
set_option linter.unnecessarySimpa false
namespace Go.Proofs.YtpploljennbpdaaDoor
open Go.RowKit Go.Shelf

def sameB (a b : List Int) : Bool := decide (a = b)
theorem take_same {a b : List Int} {k : Nat} {x : Int} (h : a.take k = b.take k) (ha : a[k]? = some x) (hb : b[k]? = some x) : a.take (k + 1) = b.take (k + 1) := by
  rw [List.take_add_one, List.take_add_one, h, ha, hb]
set_option maxRecDepth 100000 in
set_option maxHeartbeats 2000000 in
theorem same_any {w : World} {u v : Value} {a b : List Int} (h : SIs w u a) (k : SIs w v b) (ha : a.length ≤ 1000000) (hb : b.length ≤ 1000000) : Calls Tryd.prog 30 #[u, v] w fun e w' => e = .returned (.bool (sameB a b)) ∧ Below w.heap.size w w' := by
  obtain ⟨A, cap, rfl, h1, h2⟩ := h.form
  obtain ⟨A2, cap2, rfl, k1, k2⟩ := k.form
  unfold maxLen at h2 k2
  have haI : (a.length : Int) ≤ 1000000 := by omega
  have hbI : (b.length : Int) ≤ 1000000 := by omega
  have HH := Lib.hid h
  have HK := Lib.hid k
  clear h k
  by_cases hl : a.length = b.length
  · have hlI : (a.length : Int) = (b.length : Int) := by omega
    have hlb : ((a.length : Int) == (b.length : Int)) = true := by rw [beq_iff_eq]; exact hlI
    have HL := Lib.hid hl
    have HLI := Lib.hid hlI
    clear hl hlI
    go_enter Tryd.func30, Tryd.ntmps30
    go_wp2_with fail
    go_loopw [13] (fun iv wr => ∃ k : Nat, k ≤ a.length ∧ iv = .int .i64 k ∧ Below w.heap.size w wr ∧ a.take k = b.take k) (fun iv _ => a.length - (intOf iv).toNat)
    case atStart => exact ⟨0, Nat.zero_le _, rfl, Below.refl _ _, rfl⟩
    case round =>
      obtain ⟨k, hk, rfl, hbw, hno⟩ := hrel
      have HB := Lib.hid hbw
      have HNO := Lib.hid hno
      by_cases hlt : k < a.length
      · have hx : a[k]? = some a[k] := List.getElem?_eq_getElem hlt
        have hy : b[k]? = some (b[k]'(by rw [← HL.out]; exact hlt)) := List.getElem?_eq_getElem _
        generalize a[k] = x at hx
        generalize b[k]'(by rw [← HL.out]; exact hlt) = y at hy
        obtain ⟨p, rfl, _, kx⟩ := (HH.out.below hbw).at hx
        obtain ⟨q, rfl, _, ky⟩ := (HK.out.below hbw).at hy
        have hi : (k : Int) < (a.length : Int) := by omega
        have hj : (k : Int) < (b.length : Int) := by have := HLI.out; omega
        have HLT := Lib.hid hlt
        by_cases hxy : x = y
        · subst hxy
          have hq : (x == x) = true := beq_self_eq_true x
          have HT := Lib.hid (take_same hno hx hy)
          clear hx hy hno hk hlt hbw
          go_wp2_with fail
          go_quiet (fail)
          go_wp2_with fail
          go_roundw
          case rel => exact ⟨k + 1, HLT.out, by go_num, below_drewN HB.out _, HT.out⟩
          case measure => have := HLT.out; simp [intOf]; omega
        · have hq : (x == y) = false := beq_eq_false_iff_ne.2 hxy
          have HF : Hid (sameB a b = false) := Lib.hid (by
            unfold sameB
            refine decide_eq_false (fun e => hxy ?_)
            rw [e, hy] at hx
            exact (Option.some.inj hx).symm)
          clear hx hy hno hk hlt hbw hxy
          go_wp2_with fail
          go_quiet (fail)
          go_wp2_with fail
          refine bodyPost_ret (v := .bool false) (by simp [results, Tryd.results30, go_sem]) rfl ⟨by rw [HF.out], below_drewN HB.out _⟩
      · obtain rfl : k = a.length := by omega
        have HT : Hid (sameB a b = true) := Lib.hid (by
          have := hno
          unfold sameB
          refine decide_eq_true ?_
          rw [HL.out, List.take_length] at this
          rw [← HL.out, List.take_length] at this
          exact this)
        have hn : ¬ (a.length : Int) < (a.length : Int) := by omega
        clear hlt hk hno hbw
        go_wp2_with fail
        refine bodyPost_ret (v := .bool true) (by simp [results, Tryd.results30, go_sem]) rfl ⟨by rw [HT.out], HB.out⟩
  · have hlb : ((a.length : Int) == (b.length : Int)) = false := by rw [beq_eq_false_iff_ne]; omega
    have HF : Hid (sameB a b = false) := Lib.hid (decide_eq_false (fun e => hl (by rw [e])))
    clear hl
    go_enter Tryd.func30, Tryd.ntmps30
    go_wp2_with fail
    refine bodyPost_ret (v := .bool false) (by simp [results, Tryd.results30, go_sem]) rfl ⟨by rw [HF.out], Below.refl _ _⟩
set_option maxRecDepth 100000 in
set_option maxHeartbeats 2000000 in
theorem Same_any {w : World} {u v : Value} {a b : List Int} (h : SIs w u a) (k : SIs w v b) (ha : a.length ≤ 1000000) (hb : b.length ≤ 1000000) : Calls Tryd.prog 12 #[u, v] w fun e w' => e = .returned (.bool (sameB a b)) ∧ Below w.heap.size w w' := by
  have HS := Lib.hid (same_any h k ha hb)
  obtain ⟨r, hr⟩ : ∃ r, sameB a b = r := ⟨_, rfl⟩
  rw [hr] at HS
  have HR := Lib.hid hr
  clear h k ha hb hr
  go_enter Tryd.func12, Tryd.ntmps12
  go_wp2_with fail
  refine (HS.out).mono ?_
  rintro e w1 ⟨rfl, hb1⟩
  have HB1 := Lib.hid hb1
  clear hb1
  go_wp2_with fail
  refine bodyPost_ret (v := .bool r) (by simp [results, Tryd.results12, go_sem]) rfl ⟨by rw [HR.out], HB1.out⟩
def beginsB (a b : List Int) : Bool := decide (a <+: b)
theorem begins_out {a b : List Int} (h : ¬ a.length ≤ b.length) : beginsB a b = false := decide_eq_false (fun e => h e.length_le)
theorem begins_in {a b : List Int} (h : a.length ≤ b.length) : sameB a (b.take a.length) = beginsB a b := by
  unfold sameB beginsB
  rw [decide_eq_decide, List.prefix_iff_eq_take]
set_option maxRecDepth 100000 in
set_option maxHeartbeats 2000000 in
theorem Begins_any {w : World} {u v : Value} {a b : List Int} (h : SIs w u a) (k : SIs w v b) (ha : a.length ≤ 1000000) (hb : b.length ≤ 1000000) : Calls Tryd.prog 26 #[u, v] w fun e w' => e = .returned (.bool (beginsB a b)) ∧ Below w.heap.size w w' := by
  obtain ⟨A, cap, rfl, h1, h2⟩ := h.form
  obtain ⟨A2, cap2, rfl, k1, k2⟩ := k.form
  unfold maxLen at h2 k2
  have haI : (a.length : Int) ≤ 1000000 := by omega
  have hbI : (b.length : Int) ≤ 1000000 := by omega
  by_cases hl : a.length ≤ b.length
  · have HS := Lib.hid (same_any h (k.take hl) ha (by rw [List.length_take]; omega))
    rw [begins_in hl] at HS
    obtain ⟨r, hr⟩ : ∃ r, beginsB a b = r := ⟨_, rfl⟩
    rw [hr] at HS
    have HR := Lib.hid hr
    have hlI : (a.length : Int) ≤ (b.length : Int) := by omega
    have hac : a.length ≤ cap2 := by omega
    clear h k hr hl
    go_enter Tryd.func26, Tryd.ntmps26
    go_wp2_with fail
    refine (HS.out).mono ?_
    rintro e w1 ⟨rfl, hb1⟩
    have HB1 := Lib.hid hb1
    clear hb1
    go_wp2_with fail
    refine bodyPost_ret (v := .bool r) (by simp [results, Tryd.results26, go_sem]) rfl ⟨by rw [HR.out], HB1.out⟩
  · have HF := Lib.hid (begins_out hl)
    have hlI : ¬ (a.length : Int) ≤ (b.length : Int) := by omega
    have hd : decide ((a.length : Int) ≤ (b.length : Int)) = false := decide_eq_false hlI
    clear h k hl
    go_enter Tryd.func26, Tryd.ntmps26
    go_wp2_with fail
    refine bodyPost_ret (v := .bool false) (by simp [results, Tryd.results26, go_sem]) rfl ⟨by rw [HF.out], Below.refl _ _⟩
end Go.Proofs.YtpploljennbpdaaDoor
