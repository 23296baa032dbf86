/- The law CrcWraps. -/
import Derived.Test.YtponcidmipkodaaDoorCrcM
import Derived.Deep.RegionHeld
set_option linter.unusedSimpArgs false
set_option linter.unusedVariables false
set_option linter.unnecessarySimpa false
namespace Go.Proofs.YtponcidmipkodaaDoor
open Go.RowKit

theorem bis_empty {w : World} (A : Option Addr) (c : Nat) (hc : c ≤ maxLen) : BIs w (.slice A 0 c) [] := ⟨A, c, rfl, Nat.zero_le _, hc, fun i b hi => by simp at hi⟩
theorem At.from {w : World} {a : Addr} {l : List UInt8} (h : At w a l) (lo m cap : Nat) (hm : lo + m ≤ l.length) (hc : l.length ≤ cap) (hx : cap ≤ maxLen) : BIs w (.slice (some (a.add lo)) m (cap - lo)) ((l.drop lo).take m) := by
  have hl : ((l.drop lo).take m).length = m := by rw [List.length_take, List.length_drop]; omega
  refine ⟨some (a.add lo), cap - lo, by rw [hl], by omega, by omega, fun i b hi => ⟨_, rfl, by rw [add_block]; exact h.1, ?_⟩⟩
  rw [List.getElem?_take] at hi
  split at hi
  · rw [List.getElem?_drop] at hi
    rw [Go.Deep.add_add]
    exact h.2 _ b hi
  · cases hi
theorem pis_four {w : World} {x0 x1 x2 x3 : Value} {l0 l1 l2 l3 : List UInt8} (h0 : BIs w x0 l0) (h1 : BIs w x1 l1) (h2 : BIs w x2 l2) (h3 : BIs w x3 l3) :
    PIs (w.alloc (.cells #[x0, x1, x2, x3] 22)) (.slice (some ⟨w.heap.size, 0, none⟩) 4 4) [l0, l1, l2, l3] :=
  new_parts w [x0, x1, x2, x3] [l0, l1, l2, l3] rfl (by simp) fun i z k hz hk => by
    match i with
    | 0 =>
      obtain rfl : x0 = z := by simpa using hz
      obtain rfl : l0 = k := by simpa using hk
      exact h0
    | 1 =>
      obtain rfl : x1 = z := by simpa using hz
      obtain rfl : l1 = k := by simpa using hk
      exact h1
    | 2 =>
      obtain rfl : x2 = z := by simpa using hz
      obtain rfl : l2 = k := by simpa using hk
      exact h2
    | 3 =>
      obtain rfl : x3 = z := by simpa using hz
      obtain rfl : l3 = k := by simpa using hk
      exact h3
    | i + 4 => simp at hz
theorem cut_flat (l : List UInt8) (i j : Nat) : [l.take i, (l.drop i).take j, [], (l.drop (i + j)).take (l.length - (i + j))].flatten = l := by
  have e : (l.drop (i + j)).take (l.length - (i + j)) = l.drop (i + j) := List.take_of_length_le (by rw [List.length_drop]; omega)
  simp only [List.flatten_cons, List.flatten_nil, List.append_nil, List.nil_append, e]
  rw [← List.drop_drop, List.take_append_drop, List.take_append_drop]
/-- i: where the first cut is, whatever the number. -/
theorem cut_cases (c : Int) (n : Nat) : ∃ i : Nat, i ≤ n ∧ (c.tmod ((n : Int) + 1) = (i : Int) ∨ (0 < i ∧ c.tmod ((n : Int) + 1) = -(i : Int))) := by
  obtain ⟨m, hm, h⟩ := tmod_cases c (n + 1) (by omega)
  exact ⟨m, by omega, by simpa using h⟩


theorem OwnC.bis {w : World} {base g cap : Nat} {l : List UInt8} (h : OwnC w base g cap l) : BIs w (.slice (some ⟨g, 0, none⟩) l.length cap) l := (OwnBy.bis (.inr ⟨g, cap, rfl, h⟩))
theorem xor_one (x : UInt8) : ∃ y : UInt8, bits .xor .u8 (x.toNat : Int) 1 = (y.toNat : Int) := by
  obtain ⟨y, h, _⟩ := flip x 0 (by decide)
  exact ⟨y, by simpa using h⟩
theorem peel_frame {w : World} {v : Value} {l : List UInt8} (hM : Mov w) (h : BIs w v (frameB l)) (hl : l.length ≤ 16384) :
    Calls Tryd.prog 18 #[v] w fun e w' => ∃ x, e = .returned (.tuple #[x, .int .i64 ((l.length : Int) + 7)]) ∧ OwnBy w' w.heap.size x l ∧ Below w.heap.size w w' := by
  have := peel_yes hM h (by rw [frame_first hl]; omega)
  rw [frame_body hl, frame_first hl] at this
  exact this

theorem wraps_new {w : World} {cs : Array Value} {n : Nat} {ls : List (List UInt8)} {l : List UInt8} (hM : Mov w) (hl : ls.flatten = l) (hle : l.length ≤ 16384) (h : PIs (w.alloc (.cells cs 22)) (.slice (some ⟨w.heap.size, 0, none⟩) n n) ls) :
    Calls Tryd.prog 15 #[.slice (some ⟨w.heap.size, 0, none⟩) n n] (w.alloc (.cells cs 22)).drew fun e w' => ∃ g c, e = .returned (.slice (some ⟨g, 0, none⟩) (l.length + 7) c) ∧ OwnC w' w.heap.size g c (frameB l) ∧ Below w.heap.size w w' := by
  subst hl
  have hA := below_drew (Below.new (w := w) (.cells cs 22))
  refine (wrap_any (hM.below hA) (h.below (below_drew (Below.refl _ _))) (by omega)).mono ?_
  rintro e w' ⟨f, rfl, -, hO, hb⟩
  obtain ⟨g, c, rfl, hC⟩ := ((hO hle).lower hA.size).form (frameB_ne _)
  rw [frameB_len]
  exact ⟨g, c, rfl, hC, hA.trans (hb.mono hA.size)⟩

set_option maxRecDepth 100000 in
set_option maxHeartbeats 4000000 in
theorem law_wraps {w : World} {v : Value} {l0 : List UInt8} {c : Int} (hM : Mov w) (h : BIs w v l0) (hc0 : -9223372036854775808 ≤ c) (hc1 : c ≤ 9223372036854775807) :
    Calls Tryd.prog 4 #[v, .int .i64 c] w fun e w' => e = .returned (.bool true) ∧ Below w.heap.size w w' := by
  have HS0 := Lib.hid (short_any h)
  have hle := shortL_le l0
  have HM := Lib.hid hM
  obtain ⟨A0, cap0, rfl, _, _, h3⟩ := h
  clear h3 hM
  generalize shortL l0 = l at *
  go_enter Tryd.func4, Tryd.ntmps4
  go_wp2_with fail
  refine (HS0.out).mono ?_
  rintro e w' ⟨x, rfl, hx, rfl⟩
  have HX := Lib.hid hx
  obtain ⟨A, cap, rfl, hcap, hmax, h3⟩ := hx
  clear h3
  unfold maxLen at hmax
  obtain ⟨i, hi, hcs⟩ := cut_cases c l.length
  have hli : (l.length : Int) ≤ 200 := by omega
  have hi2 : (i : Int) ≤ (l.length : Int) := by omega
  have q1 : (i : Int) ≤ (cap : Int) := by omega
  have HAW := Lib.hid (fun W (hW : Below w.heap.size w W) => awake3 (HM.out.below hW))
  have HLE := Lib.hid hle
  clear hle
  go_upto_if 22 with fail
  go_cut [5] (fun s5 wx => s5 = .int .i64 (i : Int) ∧ w = wx)
  case first =>
    rcases hcs with hcs | ⟨hi0, hcs⟩
    · go_wp2_with fail
      go_meet
      exact ⟨by first | rfl | rw [hcs], rfl⟩
    · go_wp2_with fail
      go_meet
      exact ⟨by first | rfl | rw [hcs], rfl⟩
  case rest =>
    obtain ⟨rfl, rfl⟩ := hcut
    clear hcs
    go_upto_region 5 with fail
    go_cut [6] (fun f wx => ∃ g cg, f = .slice (some ⟨g, 0, none⟩) (l.length + 7) cg ∧ OwnC wx w.heap.size g cg (frameB l) ∧ Below w.heap.size w wx)
    case first =>
      have hfl : [l.take i, (l.drop i).take (l.length - i)].flatten = l := by
        rw [List.flatten_cons, List.flatten_cons, List.flatten_nil, List.append_nil, List.take_of_length_le (by rw [List.length_drop]; omega : (l.drop i).length ≤ l.length - i), List.take_append_drop]
      have HFL := Lib.hid hfl
      clear hfl
      by_cases hne : l = []
      · subst hne
        obtain rfl : i = 0 := Nat.le_zero.1 hi
        clear q1 hi hli hi2
        cases A with
        | none =>
          have HW := Lib.hid (wraps_new (cs := #[.slice none 0 cap, .slice none 0 cap]) HM.out (show [([] : List UInt8), []].flatten = [] from rfl) (by have := HLE.out; omega) (pis_two (bis_empty none cap (by unfold maxLen; omega)) (bis_empty none cap (by unfold maxLen; omega))))
          go_wp2_with fail
          go_region_held (fun w' => True) (trivial) (first | (go_at_call 15; refine (HW.out).mono ?_; rintro e w1 ⟨g, cg, rfl, hC, hb⟩))
          go_wp2_with fail
          go_meet
          exact ⟨g, cg, rfl, hC, hb⟩
        | some a =>
          have HW := Lib.hid (wraps_new (cs := #[.slice (some a) 0 cap, .slice (some a) 0 cap]) HM.out (show [([] : List UInt8), []].flatten = [] from rfl) (by have := HLE.out; omega) (pis_two (bis_empty (some a) cap (by unfold maxLen; omega)) (bis_empty (some a) cap (by unfold maxLen; omega))))
          go_wp2_with fail
          go_region_held (fun w' => True) (trivial) (first | (go_at_call 15; refine (HW.out).mono ?_; rintro e w1 ⟨g, cg, rfl, hC, hb⟩))
          go_wp2_with fail
          go_meet
          exact ⟨g, cg, rfl, hC, hb⟩
      · obtain ⟨a, rfl, hat⟩ : ∃ a, A = some a ∧ At w a l := by
          obtain ⟨a', c', e, _, _, hat⟩ := HX.out.at hne
          injection e with e _ _
          exact ⟨a', e, hat⟩
        have HAT := Lib.hid hat
        clear hat hne
        by_cases k1 : cap = i
        · subst k1
          have HE : Hid ((l.drop cap).take (l.length - cap) = []) := by
            show _ = _
            rw [List.drop_eq_nil_of_le (by omega), List.take_nil]
          have HW := Lib.hid (wraps_new (cs := #[.slice (some a) cap cap, .slice (some a) 0 0]) HM.out (HFL.out) (by have := HLE.out; omega) (pis_two ((HAT.out.take cap).bis (by rw [List.length_take]; omega) (by omega) (by unfold maxLen; omega)) (by rw [HE.out]; exact bis_empty (some a) 0 (by unfold maxLen; omega))))
          go_wp2_with fail
          go_region_held (fun w' => True) (trivial) (first | (go_at_call 15; refine (HW.out).mono ?_; rintro e w1 ⟨g, cg, rfl, hC, hb⟩))
          go_wp2_with fail
          go_meet
          exact ⟨g, cg, rfl, hC, hb⟩
        · have HW := Lib.hid (wraps_new (cs := #[.slice (some a) i cap, .slice (some (a.add i)) (l.length - i) (cap - i)]) HM.out (HFL.out) (by have := HLE.out; omega) (pis_two ((HAT.out.take i).bis (by rw [List.length_take]; omega) (by omega) (by unfold maxLen; omega)) (HAT.out.from i (l.length - i) cap (by omega) hcap (by unfold maxLen; omega))))
          go_wp2_with fail
          go_region_held (fun w' => True) (trivial) (first | (go_at_call 15; refine (HW.out).mono ?_; rintro e w1 ⟨g, cg, rfl, hC, hb⟩))
          go_wp2_with fail
          go_meet
          exact ⟨g, cg, rfl, hC, hb⟩
    case rest =>
      obtain ⟨g, cg, rfl, hC, hb⟩ := hcut
      have HC := Lib.hid hC
      have HB := Lib.hid hb
      have HF : Hid (∀ W, Below wc.heap.size wc W → BIs W (.slice (some ⟨g, 0, none⟩) (l.length + 7) cg) (frameB l)) := fun W hW => by
        have := (hC.keep hW.size (hW.block g hC.lt)).bis
        rwa [frameB_len] at this
      have HXW : Hid (∀ W, Below wc.heap.size wc W → BIs W (.slice A l.length cap) l) := fun W hW => (HX.out.below hb).below hW
      have hcv : ∀ W, Below wc.heap.size wc W → (convert 22 9 (.slice (some ⟨g, 0, none⟩) (l.length + 7) cg)).run Tryd.prog W = .ok (.string ⟨(frameB l).toArray⟩) W := fun W hW => bis_string (HF.out W hW)
      have HRW : Hid (∀ W, Below wc.heap.size wc W → Calls Tryd.prog 16 #[.slice A l.length cap] W fun e w' => ∃ y, e = .returned y ∧ (convert 22 9 y).run Tryd.prog w' = .ok (.string ⟨(frameB l).toArray⟩) w' ∧ (convert 22 9 (.slice (some ⟨g, 0, none⟩) (l.length + 7) cg)).run Tryd.prog w' = .ok (.string ⟨(frameB l).toArray⟩) w' ∧ (convert 22 9 (.slice (some ⟨g, 0, none⟩) (l.length + 7) cg)).run Tryd.prog (w'.alloc (.cells #[.slice A l.length cap] 22)) = .ok (.string ⟨(frameB l).toArray⟩) (w'.alloc (.cells #[.slice A l.length cap] 22)) ∧ Below wc.heap.size wc w') := fun W hW =>
        (rwrap_any (HXW.out W hW) (by have := HLE.out; omega)).mono fun e w' ⟨y, h1, h2, h3⟩ => ⟨y, h1, bis_string h2.bis, hcv w' (hW.trans (h3.mono hW.size)), hcv _ ((hW.trans (h3.mono hW.size)).trans ((Below.new _).mono (hW.trans (h3.mono hW.size)).size)), hW.trans (h3.mono hW.size)⟩
      have HWR : Hid (∀ W, Below wc.heap.size wc W → Calls Tryd.prog 15 #[.slice (some ⟨W.heap.size, 0, none⟩) 1 1] (W.alloc (.cells #[.slice A l.length cap] 22)) fun e w' => ∃ y, e = .returned y ∧ (convert 22 9 y).run Tryd.prog w' = .ok (.string ⟨(frameB l).toArray⟩) w' ∧ (convert 22 9 (.slice (some ⟨g, 0, none⟩) (l.length + 7) cg)).run Tryd.prog w' = .ok (.string ⟨(frameB l).toArray⟩) w' ∧ Below wc.heap.size wc w') := fun W hW => by
        have hA : Below wc.heap.size wc (W.alloc (.cells #[.slice A l.length cap] 22)) := hW.trans ((Below.new _).mono hW.size)
        have := wrap_any (HM.out.below (HB.out.trans (hA.mono HB.out.size))) (pis_one (HXW.out W hW)) (by simp; have := HLE.out; omega)
        rw [List.flatten_cons, List.flatten_nil, List.append_nil] at this
        exact this.mono fun e w' ⟨y, h1, _, h2, h3⟩ => ⟨y, h1, bis_string (h2 (by have := HLE.out; omega)).bis, hcv w' (hA.trans (h3.mono hA.size)), hA.trans (h3.mono hA.size)⟩
      have c0 := hcv wc (Below.refl _ _)
      have c1 := hcv wc.drew (below_drew (Below.refl _ _))
      clear hcv hC hb
      go_wp2_with fail
      go_region_held (fun w' => (convert 22 9 (.slice (some ⟨g, 0, none⟩) (l.length + 7) cg)).run Tryd.prog w' = .ok (.string ⟨(frameB l).toArray⟩) w') (first | exact c0 | exact c1 | assumption | trivial) (first | ((with_reducible (show Calls _ _ _ _ _)); go_at_call 16; refine (HRW.out _ (by first | assumption | exact below_drew (Below.refl _ _))).mono ?_; rintro e w2 ⟨y, rfl, hy1, hy2, hy3, hb2⟩) | ((with_reducible (show Calls _ _ _ _ _)); go_at_call 15; refine (HWR.out _ (by assumption)).mono ?_; rintro e w3 ⟨z, rfl, hz1, hz2, hb3⟩))
      go_wp2_with fail
      have HB3 := Lib.hid (HB.out.trans (hb3.mono HB.out.size))
      have hF3 := HF.out w3 hb3
      have HONE := Lib.hid (one_frame (HM.out.below HB3.out) hF3 (by have := HLE.out; omega))
      have hX3 := HXW.out w3 hb3
      have HF3 := Lib.hid (fun W (hW : Below w3.heap.size w3 W) => hF3.below hW)
      have HX3 := Lib.hid (fun W (hW : Below w3.heap.size w3 W) => hX3.below hW)
      clear hy1 hy2 hy3 hb2 hz1 hz2 hb3 hF3 hX3 c0 c1
      refine (HONE.out).mono ?_
      rintro e w4 ⟨x7, rfl, hx7, hb4⟩
      have HP := Lib.hid (peel_frame (HM.out.below (HB3.out.trans (hb4.mono HB3.out.size))) (HF3.out w4 hb4) (by have := HLE.out; omega))
      have HB4 := Lib.hid hb4
      clear hb4
      go_wp2_with fail
      refine (HP.out).mono ?_
      rintro e w5 ⟨x9, rfl, hx9, hb5⟩
      have hx75 := hx7.below hb5
      have hB5 := HB4.out.trans (hb5.mono HB4.out.size)
      have k1 := bis_string hx75.bis
      have k2 := bis_string hx9.bis
      have k3 := bis_string (HX3.out w5 hB5)
      have HO7 := Lib.hid hx75
      have HB5 := Lib.hid hB5
      obtain ⟨A7, c7, rfl, _, _, h37⟩ := hx7.bis
      obtain ⟨A9, c9, rfl, _, _, h39⟩ := hx9.bis
      clear h37 h39 hx7 hx9 hb5 hx75 hB5
      go_wp2_with fail
      go_loopw [82] (fun n wr => ∃ (k : Nat) (l' : List UInt8), k ≤ l.length ∧ n = .int .i64 k ∧ l'.length = l.length ∧ OwnBy wr w3.heap.size (.slice A7 l.length c7) l' ∧ Below w3.heap.size w3 wr) (fun n _ => l.length - (intOf n).toNat)
      case atStart => exact ⟨0, l, by omega, rfl, rfl, HO7.out, HB5.out⟩
      case round =>
        obtain ⟨k, l', hk, rfl, hll, hown, hb⟩ := hrel
        by_cases hlt : k < l.length
        · have hkl : k < l'.length := by omega
          obtain ⟨g7, rfl, hC⟩ : ∃ g7, A7 = some ⟨g7, 0, none⟩ ∧ OwnC wr w3.heap.size g7 c7 l' := by
            rcases hown with ⟨_, h⟩ | ⟨g, c', h, hc⟩
            · rw [h] at hkl; simp at hkl
            · injection h with h1 _ h2
              subst h2
              exact ⟨g, h1, hc⟩
          have hcell := hC.holds k l'[k] (List.getElem?_eq_getElem hkl)
          have hfz := (hC.there k (Nat.lt_of_lt_of_le hkl hC.le)).2
          obtain ⟨y, hy⟩ := xor_one l'[k]
          have HSET := Lib.hid (hC.set hkl y)
          have HBS := Lib.hid (hb.setCell (p := ⟨g7, k, none⟩) hC.new (.int .u8 (y.toNat : Int)))
          have HLL := Lib.hid hll
          generalize l'[k] = x at *
          have hx8 : (x.toNat : Int) < 256 := by have := UInt8.toNat_lt x; omega
          clear hown hb hC hll
          go_wp2_with fail
          go_roundw
          case rel => exact ⟨k + 1, l'.set k y, by omega, by go_num, by rw [List.length_set]; exact HLL.out, .inr ⟨g7, c7, by rw [List.length_set, HLL.out], HSET.out⟩, HBS.out⟩
          case measure => simp [intOf]; omega
        · obtain rfl : k = l.length := by omega
          have HBR := Lib.hid hb
          have HON2 := Lib.hid (one_frame (HM.out.below (HB3.out.trans (hb.mono HB3.out.size))) (HF3.out wr hb) (by have := HLE.out; omega))
          clear hown hb hll
          go_wp2_with fail
          refine (HON2.out).mono ?_
          rintro e w6 ⟨x8, rfl, hx8, hb6⟩
          have hB6 := HBR.out.trans (hb6.mono HBR.out.size)
          have m1 := bis_string hx8.bis
          have m2 := bis_string (HX3.out w6 hB6)
          have HB6 := Lib.hid (HB3.out.trans (hB6.mono HB3.out.size))
          obtain ⟨A8, c8, rfl, _, _, h38⟩ := hx8.bis
          clear hx8 hb6 hB6 h38
          go_wp2_with fail
          refine (HAW.out _ HB6.out).mono ?_
          rintro e w8 ⟨rfl, hb8⟩
          have HB8 := Lib.hid (HB6.out.trans (hb8.mono HB6.out.size))
          clear hb8
          go_wp2
          go_ret
          exact ⟨rfl, HB8.out⟩
end Go.Proofs.YtponcidmipkodaaDoor
