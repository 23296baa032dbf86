/- The law CrcSums. -/
import Derived.Test.YtponcidmipkodaaDoorCrcM
set_option linter.unusedSimpArgs false
set_option linter.unusedVariables false
set_option linter.unnecessarySimpa false
namespace Go.Proofs.YtponcidmipkodaaDoor
open Go.RowKit

theorem bis_empty {w : World} (A : Option Addr) (c : Nat) (hc : c ≤ maxLen) : BIs w (.slice A 0 c) [] := ⟨A, c, rfl, Nat.zero_le _, hc, fun i b hi => by simp at hi⟩
theorem At.from {w : World} {a : Addr} {l : List UInt8} (h : At w a l) (lo m cap : Nat) (hm : lo + m ≤ l.length) (hc : l.length ≤ cap) (hx : cap ≤ maxLen) : BIs w (.slice (some (a.add lo)) m (cap - lo)) ((l.drop lo).take m) := by
  have hl : ((l.drop lo).take m).length = m := by rw [List.length_take, List.length_drop]; omega
  refine ⟨some (a.add lo), cap - lo, by rw [hl], by omega, by omega, fun i b hi => ⟨_, rfl, by rw [add_block]; exact h.1, ?_⟩⟩
  rw [List.getElem?_take] at hi
  split at hi
  · rw [List.getElem?_drop] at hi
    rw [Go.Deep.add_add]
    exact h.2 _ b hi
  · cases hi
theorem pis_four {w : World} {x0 x1 x2 x3 : Value} {l0 l1 l2 l3 : List UInt8} (h0 : BIs w x0 l0) (h1 : BIs w x1 l1) (h2 : BIs w x2 l2) (h3 : BIs w x3 l3) :
    PIs (w.alloc (.cells #[x0, x1, x2, x3] 22)) (.slice (some ⟨w.heap.size, 0, none⟩) 4 4) [l0, l1, l2, l3] :=
  new_parts w [x0, x1, x2, x3] [l0, l1, l2, l3] rfl (by simp) fun i z k hz hk => by
    match i with
    | 0 =>
      obtain rfl : x0 = z := by simpa using hz
      obtain rfl : l0 = k := by simpa using hk
      exact h0
    | 1 =>
      obtain rfl : x1 = z := by simpa using hz
      obtain rfl : l1 = k := by simpa using hk
      exact h1
    | 2 =>
      obtain rfl : x2 = z := by simpa using hz
      obtain rfl : l2 = k := by simpa using hk
      exact h2
    | 3 =>
      obtain rfl : x3 = z := by simpa using hz
      obtain rfl : l3 = k := by simpa using hk
      exact h3
    | i + 4 => simp at hz
theorem cut_flat (l : List UInt8) (i j : Nat) : [l.take i, (l.drop i).take j, [], (l.drop (i + j)).take (l.length - (i + j))].flatten = l := by
  have e : (l.drop (i + j)).take (l.length - (i + j)) = l.drop (i + j) := List.take_of_length_le (by rw [List.length_drop]; omega)
  simp only [List.flatten_cons, List.flatten_nil, List.append_nil, List.nil_append, e]
  rw [← List.drop_drop, List.take_append_drop, List.take_append_drop]
/-- i: where the first cut is, whatever the number. -/
theorem cut_cases (c : Int) (n : Nat) : ∃ i : Nat, i ≤ n ∧ (c.tmod ((n : Int) + 1) = (i : Int) ∨ (0 < i ∧ c.tmod ((n : Int) + 1) = -(i : Int))) := by
  obtain ⟨m, hm, h⟩ := tmod_cases c (n + 1) (by omega)
  exact ⟨m, by omega, by simpa using h⟩

/-- Sum of parts that are laid anew, in any world that comes. -/
theorem sums_new {w : World} {cs : Array Value} {n : Nat} {ls : List (List UInt8)} {l : List UInt8} (hM : Mov w) (hl : ls.flatten = l) (h : ∀ W, Below w.heap.size w W → PIs (W.alloc (.cells cs 22)) (.slice (some ⟨W.heap.size, 0, none⟩) n n) ls) (W : World) (hW : Below w.heap.size w W) :
    Calls Tryd.prog 12 #[.slice (some ⟨W.heap.size, 0, none⟩) n n] (W.alloc (.cells cs 22)) (fun e w' => e = .returned (.int .u32 (sumB l : Nat)) ∧ Below w.heap.size w w') ∧
    Calls Tryd.prog 12 #[.slice (some ⟨W.heap.size, 0, none⟩) n n] (W.alloc (.cells cs 22)).drew (fun e w' => e = .returned (.int .u32 (sumB l : Nat)) ∧ Below w.heap.size w w') := by
  subst hl
  have hA : Below w.heap.size w (W.alloc (.cells cs 22)) := hW.trans ((Below.new _).mono hW.size)
  constructor
  · exact (sum_any (hM.below hA) (h W hW)).mono fun e w' ⟨h1, h2⟩ => ⟨h1, h2 ▸ hA⟩
  · exact (sum_any (hM.below (below_drew hA)) ((h W hW).below (below_drew (Below.refl _ _)))).mono fun e w' ⟨h1, h2⟩ => ⟨h1, h2 ▸ below_drew hA⟩

set_option maxRecDepth 100000 in
set_option maxHeartbeats 4000000 in
theorem law_sums {w : World} {v : Value} {l0 : List UInt8} {c d : Int} (hM : Mov w) (h : BIs w v l0) (hc0 : -9223372036854775808 ≤ c) (hc1 : c ≤ 9223372036854775807) (hd0 : -9223372036854775808 ≤ d) (hd1 : d ≤ 9223372036854775807) :
    Calls Tryd.prog 3 #[v, .int .i64 c, .int .i64 d] w fun e w' => e = .returned (.bool true) ∧ Below w.heap.size w w' := by
  have HS0 := Lib.hid (short_any h)
  have hle := shortL_le l0
  have HM := Lib.hid hM
  obtain ⟨A0, cap0, rfl, _, _, h3⟩ := h
  clear h3 hM
  generalize shortL l0 = l at *
  have hS := sumB_lt l
  have HSS : Hid (sumB l = sumB l) := rfl
  go_enter Tryd.func3, Tryd.ntmps3
  go_wp2_with fail
  refine (HS0.out).mono ?_
  rintro e w' ⟨x, rfl, hx, rfl⟩
  have HX := Lib.hid hx
  obtain ⟨A, cap, rfl, hcap, hmax, h3⟩ := hx
  clear h3
  unfold maxLen at hmax
  obtain ⟨i, hi, hcs⟩ := cut_cases c l.length
  obtain ⟨j, hj, hds⟩ := cut_cases d (l.length - i)
  have hli : (l.length : Int) ≤ 200 := by omega
  have hlj : ((l.length - i : Nat) : Int) = (l.length : Int) - (i : Int) := by omega
  rw [hlj] at hds
  have hi2 : (i : Int) ≤ (l.length : Int) := by omega
  have HR := Lib.hid (fun W (hW : Below w.heap.size w W) => rsum_any (HX.out.below hW) (by omega : l.length ≤ 1000000))
  have HS1 := Lib.hid (sums_new (cs := #[.slice A l.length cap]) HM.out (show [l].flatten = l by simp) (fun W hW => pis_one (HX.out.below hW)))
  have q1 : (i : Int) ≤ (cap : Int) := by omega
  have q2 : (0 : Int) ≤ (i : Int) + (j : Int) := by omega
  have q3 : (i : Int) + (j : Int) ≤ (cap : Int) := by omega
  have q4 : (i : Int) ≤ (i : Int) + (j : Int) := by omega
  have q5 : IntKind.i64.wrap ((i : Int) + (j : Int)) = (i : Int) + (j : Int) := IntWalk.i64_in _ (by omega)
  have q6 : ((i : Int) + (j : Int)).toNat = i + j := by omega
  have q7 : (i : Int) + (j : Int) ≤ (l.length : Int) := by omega
  have HAW := Lib.hid (fun W (hW : Below w.heap.size w W) => awake3 (HM.out.below hW))
  have HFL := Lib.hid (cut_flat l i j)
  clear hS hle
  go_upto_if 17 with fail
  go_cut [7] (fun s7 wx => s7 = .int .i64 (i : Int) ∧ w = wx)
  case first =>
    rcases hcs with hcs | ⟨hi0, hcs⟩
    · go_wp2_with fail
      go_meet
      exact ⟨by first | rfl | rw [hcs], rfl⟩
    · go_wp2_with fail
      go_meet
      exact ⟨by first | rfl | rw [hcs], rfl⟩
  case rest =>
    obtain ⟨rfl, rfl⟩ := hcut
    clear hcs
    go_upto_if 28 with fail
    go_cut [8] (fun s8 wx => s8 = .int .i64 (j : Int) ∧ w = wx)
    case first =>
      rcases hds with hds | ⟨hj0, hds⟩
      · go_wp2_with fail
        go_meet
        exact ⟨by first | rfl | rw [hds], rfl⟩
      · go_wp2_with fail
        go_meet
        exact ⟨by first | rfl | rw [hds], rfl⟩
    case rest =>
      obtain ⟨rfl, rfl⟩ := hcut
      clear hds
      by_cases hne : l = []
      · subst hne
        obtain rfl : i = 0 := Nat.le_zero.1 hi
        obtain rfl : j = 0 := Nat.le_zero.1 hj
        have z1 : IntKind.i64.wrap (0 : Int) = 0 := by decide
        have z2 : IntKind.i64.wrap ((0 : Int) + 0) = 0 := by decide
        clear q1 q2 q3 q4 q5 q6 q7 hi hj hli hlj hi2
        cases A with
        | none =>
          have HS4 := Lib.hid (sums_new (cs := #[.slice none 0 cap, .slice none 0 cap, .slice none 0 0, .slice none 0 cap]) HM.out (show [([] : List UInt8), [], [], []].flatten = [] from rfl) (fun W hW => pis_four (bis_empty none cap (by unfold maxLen; omega)) (bis_empty none cap (by unfold maxLen; omega)) (bis_empty none 0 (by unfold maxLen; omega)) (bis_empty none cap (by unfold maxLen; omega))))
          go_wp2_with fail
          go_region_held (fun w' => True) (trivial) (first | (go_at_call_of 12 (Value.slice (some ⟨w.heap.size, 0, none⟩) 1 1); refine (HS1.out _ (Below.refl _ _)).2.mono ?_; rintro e w1 ⟨rfl, hb1⟩) | (go_at_call 13; refine (HR.out _ (by assumption)).mono ?_; rintro e w2 ⟨rfl, hw2⟩; subst hw2) | (go_at_call 14; refine (HAW.out _ (by assumption)).mono ?_; rintro e w4 ⟨rfl, hb4⟩) | (go_at_call 12; refine (HS4.out _ (by assumption)).1.mono ?_; rintro e w3 ⟨rfl, hb3⟩))
          go_wp2_with fail
          go_ret
          exact ⟨rfl, hb3.trans (hb4.mono hb3.size)⟩
        | some a =>
          have HS4 := Lib.hid (sums_new (cs := #[.slice (some a) 0 cap, .slice (some a) 0 cap, .slice none 0 0, .slice (some a) 0 cap]) HM.out (show [([] : List UInt8), [], [], []].flatten = [] from rfl) (fun W hW => pis_four (bis_empty (some a) cap (by unfold maxLen; omega)) (bis_empty (some a) cap (by unfold maxLen; omega)) (bis_empty none 0 (by unfold maxLen; omega)) (bis_empty (some a) cap (by unfold maxLen; omega))))
          go_wp2_with fail
          go_region_held (fun w' => True) (trivial) (first | (go_at_call_of 12 (Value.slice (some ⟨w.heap.size, 0, none⟩) 1 1); refine (HS1.out _ (Below.refl _ _)).2.mono ?_; rintro e w1 ⟨rfl, hb1⟩) | (go_at_call 13; refine (HR.out _ (by assumption)).mono ?_; rintro e w2 ⟨rfl, hw2⟩; subst hw2) | (go_at_call 14; refine (HAW.out _ (by assumption)).mono ?_; rintro e w4 ⟨rfl, hb4⟩) | (go_at_call 12; refine (HS4.out _ (by assumption)).1.mono ?_; rintro e w3 ⟨rfl, hb3⟩))
          go_wp2_with fail
          go_ret
          exact ⟨rfl, hb3.trans (hb4.mono hb3.size)⟩
      · obtain ⟨a, rfl, hat⟩ : ∃ a, A = some a ∧ At w a l := by
          obtain ⟨a', c', e, _, _, hat⟩ := HX.out.at hne
          injection e with e _ _
          exact ⟨a', e, hat⟩
        have HAT := Lib.hid hat
        clear hat hne
        by_cases k1 : cap = i
        · subst k1
          obtain rfl : j = 0 := by omega
          have z0 : cap = l.length := by omega
          have z1 : IntKind.i64.wrap (cap : Int) = (cap : Int) := IntWalk.i64_in _ (by omega)
          have z2 : (cap : Int) ≤ (l.length : Int) := by omega
          have z3 : (0 : Int) ≤ (cap : Int) := by omega
          clear q2 q3 q4 q5 q6 q7 hlj z0
          have HE : Hid ((l.drop (cap + 0)).take (l.length - (cap + 0)) = []) := by
            show _ = _
            rw [List.drop_eq_nil_of_le (by omega), List.take_nil]
          have HS4 := Lib.hid (sums_new (cs := #[.slice (some a) cap cap, .slice (some a) 0 0, .slice none 0 0, .slice (some a) 0 0]) HM.out HFL.out (fun W hW => pis_four (BIs.below (w := w) ((HAT.out.take cap).bis (by rw [List.length_take]; omega) (by omega) (by unfold maxLen; omega)) hW) (BIs.below (w := w) (bis_empty (some a) 0 (by unfold maxLen; omega)) hW) (bis_empty none 0 (by unfold maxLen; omega)) (BIs.below (w := w) (by rw [HE.out]; exact bis_empty _ _ (by unfold maxLen; omega)) hW)))
          go_wp2_with fail
          go_region_held (fun w' => True) (trivial) (first | (go_at_call_of 12 (Value.slice (some ⟨w.heap.size, 0, none⟩) 1 1); refine (HS1.out _ (Below.refl _ _)).2.mono ?_; rintro e w1 ⟨rfl, hb1⟩) | (go_at_call 13; refine (HR.out _ (by assumption)).mono ?_; rintro e w2 ⟨rfl, hw2⟩; subst hw2) | (go_at_call 14; refine (HAW.out _ (by assumption)).mono ?_; rintro e w4 ⟨rfl, hb4⟩) | (go_at_call 12; refine (HS4.out _ (by assumption)).1.mono ?_; rintro e w3 ⟨rfl, hb3⟩))
          go_wp2_with fail
          go_ret
          exact ⟨rfl, hb3.trans (hb4.mono hb3.size)⟩
        · by_cases k2 : cap = i + j
          · subst k2
            have HE : Hid ((l.drop (i + j)).take (l.length - (i + j)) = []) := by
              show _ = _
              rw [List.drop_eq_nil_of_le (by omega), List.take_nil]
            have HS4 := Lib.hid (sums_new (cs := #[.slice (some a) i (i + j), .slice (some (a.add i)) j j, .slice none 0 0, .slice (some a) 0 0]) HM.out HFL.out (fun W hW => pis_four (BIs.below (w := w) ((HAT.out.take i).bis (by rw [List.length_take]; omega) (by omega) (by unfold maxLen; omega)) hW) (BIs.below (w := w) (by have := HAT.out.from i j (i + j) (by omega) hcap (by unfold maxLen; omega); rwa [Nat.add_sub_cancel_left] at this) hW) (bis_empty none 0 (by unfold maxLen; omega)) (BIs.below (w := w) (by rw [HE.out]; exact bis_empty _ _ (by unfold maxLen; omega)) hW)))
            go_wp2_with fail
            go_region_held (fun w' => True) (trivial) (first | (go_at_call_of 12 (Value.slice (some ⟨w.heap.size, 0, none⟩) 1 1); refine (HS1.out _ (Below.refl _ _)).2.mono ?_; rintro e w1 ⟨rfl, hb1⟩) | (go_at_call 13; refine (HR.out _ (by assumption)).mono ?_; rintro e w2 ⟨rfl, hw2⟩; subst hw2) | (go_at_call 14; refine (HAW.out _ (by assumption)).mono ?_; rintro e w4 ⟨rfl, hb4⟩) | (go_at_call 12; refine (HS4.out _ (by assumption)).1.mono ?_; rintro e w3 ⟨rfl, hb3⟩))
            go_wp2_with fail
            go_ret
            exact ⟨rfl, hb3.trans (hb4.mono hb3.size)⟩
          · have HS4 := Lib.hid (sums_new (cs := #[.slice (some a) i cap, .slice (some (a.add i)) j (cap - i), .slice none 0 0, .slice (some (a.add (i + j))) (l.length - (i + j)) (cap - (i + j))]) HM.out HFL.out (fun W hW => pis_four (BIs.below (w := w) ((HAT.out.take i).bis (by rw [List.length_take]; omega) (by omega) (by unfold maxLen; omega)) hW) (BIs.below (w := w) (HAT.out.from i j cap (by omega) hcap (by unfold maxLen; omega)) hW) (bis_empty none 0 (by unfold maxLen; omega)) (BIs.below (w := w) (HAT.out.from (i + j) (l.length - (i + j)) cap (by omega) hcap (by unfold maxLen; omega)) hW)))
            go_wp2_with fail
            go_region_held (fun w' => True) (trivial) (first | (go_at_call_of 12 (Value.slice (some ⟨w.heap.size, 0, none⟩) 1 1); refine (HS1.out _ (Below.refl _ _)).2.mono ?_; rintro e w1 ⟨rfl, hb1⟩) | (go_at_call 13; refine (HR.out _ (by assumption)).mono ?_; rintro e w2 ⟨rfl, hw2⟩; subst hw2) | (go_at_call 14; refine (HAW.out _ (by assumption)).mono ?_; rintro e w4 ⟨rfl, hb4⟩) | (go_at_call 12; refine (HS4.out _ (by assumption)).1.mono ?_; rintro e w3 ⟨rfl, hb3⟩))
            go_wp2_with fail
            go_ret
            exact ⟨rfl, hb3.trans (hb4.mono hb3.size)⟩
end Go.Proofs.YtponcidmipkodaaDoor
