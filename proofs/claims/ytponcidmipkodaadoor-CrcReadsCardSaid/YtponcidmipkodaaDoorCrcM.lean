/- The law CrcMost. -/
import Derived.Test.YtponcidmipkodaaDoorCrcI
set_option linter.unusedSimpArgs false
set_option linter.unusedVariables false
set_option linter.unnecessarySimpa false
namespace Go.Proofs.YtponcidmipkodaaDoor
open Go.RowKit

theorem pis_two {w : World} {x y : Value} {l m : List UInt8} (h : BIs w x l) (h2 : BIs w y m) : PIs (w.alloc (.cells #[x, y] 22)) (.slice (some ⟨w.heap.size, 0, none⟩) 2 2) [l, m] :=
  new_parts w [x, y] [l, m] rfl (by simp) fun i z k hz hk => by
    match i with
    | 0 =>
      obtain rfl : x = z := by simpa using hz
      obtain rfl : l = k := by simpa using hk
      exact h
    | 1 =>
      obtain rfl : y = z := by simpa using hz
      obtain rfl : m = k := by simpa using hk
      exact h2
    | i + 2 => simp at hz
theorem frame_first {l : List UInt8} (hl : l.length ≤ 16384) : firstP (frameB l) = l.length + 7 := by
  have := firstP_frame hl []
  rwa [List.append_nil] at this
theorem frame_body {l : List UInt8} (hl : l.length ≤ 16384) : bodyP (frameB l) = l := by
  have h := szP_frame hl []
  rw [List.append_nil] at h
  unfold bodyP
  rw [h]
  have e : frameB l = headB l.length ++ (l ++ be4 (sumB (preB l))) := by unfold frameB preB; rw [List.append_assoc]
  have e3 : (headB l.length).length = 3 := rfl
  rw [e, ← e3, List.drop_left, List.take_left]
theorem one_frame {w : World} {v : Value} {l : List UInt8} (hM : Mov w) (h : BIs w v (frameB l)) (hl : l.length ≤ 16384) :
    Calls Tryd.prog 17 #[v] w fun e w' => ∃ x, e = .returned (.tuple #[x, .bool true]) ∧ OwnBy w' w.heap.size x l ∧ Below w.heap.size w w' := by
  have := one_yes hM h (by rw [frame_first hl]; omega) (by rw [frame_first hl, frameB_len])
  rwa [frame_body hl] at this
theorem OwnBy.form {w : World} {base : Nat} {v : Value} {l : List UInt8} (h : OwnBy w base v l) (hne : l ≠ []) : ∃ g c, v = .slice (some ⟨g, 0, none⟩) l.length c ∧ OwnC w base g c l := by
  rcases h with ⟨_, h⟩ | ⟨g, c, h, hc⟩
  · exact absurd h hne
  · exact ⟨g, c, h, hc⟩
theorem frameB_ne (l : List UInt8) : frameB l ≠ [] := fun h => by
  have := congrArg List.length h
  rw [frameB_len] at this
  simp at this
theorem OwnC.from {w : World} {base g cap : Nat} {l : List UInt8} (h : OwnC w base g cap l) (m : Nat) (n : Nat) (hn : l.length - m = n) (hm : m ≤ l.length) : BIs w (.slice (some ⟨g, m, none⟩) n (cap - m)) (l.drop m) := by
  subst hn
  have hle := h.le
  have hmx := h.max
  refine ⟨some ⟨g, m, none⟩, cap - m, by rw [List.length_drop], by rw [List.length_drop]; omega, by omega, fun i b hi => ⟨_, rfl, h.lt, ?_⟩⟩
  rw [List.getElem?_drop] at hi
  have e : (⟨g, m, none⟩ : Addr).add i = ⟨g, m + i, none⟩ := by
    unfold Addr.add
    split
    · subst i; rfl
    · rfl
  rw [e]
  exact h.holds _ b hi
theorem OwnC.upto {w : World} {base g cap : Nat} {l : List UInt8} (h : OwnC w base g cap l) (m : Nat) (hm : m ≤ l.length) : BIs w (.slice (some ⟨g, 0, none⟩) m cap) (l.take m) := by
  have hle := h.le
  refine ⟨some ⟨g, 0, none⟩, cap, by rw [List.length_take, Nat.min_eq_left hm], by rw [List.length_take]; omega, h.max, fun i b hi => ⟨_, rfl, h.lt, ?_⟩⟩
  rw [List.getElem?_take] at hi
  rw [add0]
  split at hi
  · exact h.holds _ b hi
  · cases hi

set_option maxRecDepth 100000 in
set_option maxHeartbeats 4000000 in
theorem law_most {w : World} {o c : Int} (hM : Mov w) (ho0 : -9223372036854775808 ≤ o) (ho1 : o ≤ 9223372036854775807) (hc0 : -9223372036854775808 ≤ c) (hc1 : c ≤ 9223372036854775807) :
    Calls Tryd.prog 8 #[.int .i64 o, .int .i64 c] w fun e w' => e = .returned (.bool true) ∧ Below w.heap.size w w' := by
  have HM := Lib.hid hM
  obtain ⟨N, hN, hN0, hN1⟩ : ∃ N : Nat, 16384 + o.tmod 30 = (N : Int) ∧ 16355 ≤ N ∧ N ≤ 16413 := by
    obtain ⟨m, hm, h⟩ := (by
      have h2 : (o.tmod 30).natAbs < 30 := by
        rw [Int.natAbs_tmod]
        exact Nat.mod_lt _ (by decide)
      exact ⟨(o.tmod 30).natAbs, h2, rfl⟩ : ∃ m : Nat, m < 30 ∧ (o.tmod 30).natAbs = m)
    exact ⟨(16384 + o.tmod 30).toNat, by omega, by omega, by omega⟩
  clear hM
  go_enter Tryd.func8, Tryd.ntmps8
  have hN30 : (N : Int) ≤ 16413 := by omega
  have hN31 : (16355 : Int) ≤ (N : Int) := by omega
  go_wp2_with (at_make; refine wpList_make_by _ rfl _ _ rfl w.heap.size N N _ _ rfl rfl rfl rfl (Nat.le_refl _) ?_ (Nat.le_refl _) ?_)
  · omega
  intro w1 hown hb
  obtain ⟨g0, c0, e0, hC⟩ := hown.form (by intro h; have := congrArg List.length h; rw [List.length_replicate] at this; simp at this; omega)
  injection e0 with e1 e2 e3
  injection e1 with e1
  injection e1 with e1
  subst e1 e3
  have HC := Lib.hid hC
  have HLL : Hid ((List.replicate N (0 : UInt8)).length = N) := List.length_replicate ..
  have HB := Lib.hid hb
  generalize List.replicate N (0 : UInt8) = l at *
  clear hown hb hC e2
  obtain ⟨m, hm, hcs⟩ := tmod_cases c N (by omega)
  rcases hcs with hcs | ⟨hm0, hcs⟩
  · skip
    have hx1 := HC.out.upto m (by rw [HLL.out]; omega)
    have hx2 := HC.out.from m (N - m) (by rw [HLL.out]) (by rw [HLL.out]; omega)
    have hA := Below.new (w := w1) (.cells #[.slice (some ⟨w.heap.size, 0, none⟩) m N, .slice (some ⟨w.heap.size, m, none⟩) (N - m) (N - m)] 22)
    have hA' := below_drew hA
    have hw := wrap_any (HM.out.below (HB.out.trans (hA'.mono HB.out.size))) ((pis_two hx1 hx2).below (below_drew (Below.refl _ _))) (by rw [List.flatten_cons, List.flatten_cons, List.flatten_nil, List.append_nil, List.take_append_drop, HLL.out]; omega)
    rw [List.flatten_cons, List.flatten_cons, List.flatten_nil, List.append_nil, List.take_append_drop, HLL.out] at hw
    have HW := Lib.hid hw
    have HA := Lib.hid (HB.out.trans (hA'.mono HB.out.size))
    have q1 : (m : Int) ≤ (N : Int) := by omega
    have q2 : m ≤ N := by omega
    have q3 : ¬ N = m := by omega
    clear hx1 hx2 hA hA' hw
    go_wp2_with fail
    go_region_held3 (fun w' => True) (trivial) (first | (go_at_call 15; refine (HW.out).mono ?_; rintro e w2 ⟨f, rfl, hf1, hf2, hb2⟩))
    have HB2 := Lib.hid (HA.out.trans (hb2.mono HA.out.size))
    have HAW := Lib.hid (fun W (hW : Below w.heap.size w W) => awake3 (HM.out.below hW))
    by_cases hbig : (16384 : Int) < (N : Int)
    · obtain rfl := hf1 (by omega)
      clear hf1 hf2 hb2
      go_wp2_with fail
      refine (HAW.out _ HB2.out).mono ?_
      rintro e w4 ⟨rfl, hb4⟩
      have HB4 := Lib.hid (HB2.out.trans (hb4.mono HB2.out.size))
      clear hb4
      go_wp2
      go_ret
      exact ⟨rfl, HB4.out⟩
    · have HO := Lib.hid ((hf2 (by omega)).lower HA.out.size)
      have HONE := Lib.hid (one_frame (HM.out.below HB2.out) HO.out.bis (by rw [HLL.out]; omega))
      obtain ⟨A6, c6, rfl, _, _, h3⟩ := HO.out.bis
      clear hf1 hf2 hb2 h3
      go_wp2_with fail
      refine (HONE.out).mono ?_
      rintro e w3 ⟨x, rfl, hx, hb3⟩
      have HB3 := Lib.hid (HB2.out.trans (hb3.mono HB2.out.size))
      obtain ⟨A7, c7, rfl, _, _, h3⟩ := hx.bis
      rw [HLL.out]
      clear hx hb3 h3
      go_wp2_with fail
      refine (HAW.out _ HB3.out).mono ?_
      rintro e w4 ⟨rfl, hb4⟩
      have HB4 := Lib.hid (HB3.out.trans (hb4.mono HB3.out.size))
      clear hb4
      go_wp2
      go_ret
      exact ⟨rfl, HB4.out⟩
  · skip
    have hx1 := HC.out.upto m (by rw [HLL.out]; omega)
    have hx2 := HC.out.from m (N - m) (by rw [HLL.out]) (by rw [HLL.out]; omega)
    have hA := Below.new (w := w1) (.cells #[.slice (some ⟨w.heap.size, 0, none⟩) m N, .slice (some ⟨w.heap.size, m, none⟩) (N - m) (N - m)] 22)
    have hA' := below_drew hA
    have hw := wrap_any (HM.out.below (HB.out.trans (hA'.mono HB.out.size))) ((pis_two hx1 hx2).below (below_drew (Below.refl _ _))) (by rw [List.flatten_cons, List.flatten_cons, List.flatten_nil, List.append_nil, List.take_append_drop, HLL.out]; omega)
    rw [List.flatten_cons, List.flatten_cons, List.flatten_nil, List.append_nil, List.take_append_drop, HLL.out] at hw
    have HW := Lib.hid hw
    have HA := Lib.hid (HB.out.trans (hA'.mono HB.out.size))
    have q1 : (m : Int) ≤ (N : Int) := by omega
    have q2 : m ≤ N := by omega
    have q3 : ¬ N = m := by omega
    clear hx1 hx2 hA hA' hw
    go_wp2_with fail
    go_region_held3 (fun w' => True) (trivial) (first | (go_at_call 15; refine (HW.out).mono ?_; rintro e w2 ⟨f, rfl, hf1, hf2, hb2⟩))
    have HB2 := Lib.hid (HA.out.trans (hb2.mono HA.out.size))
    have HAW := Lib.hid (fun W (hW : Below w.heap.size w W) => awake3 (HM.out.below hW))
    by_cases hbig : (16384 : Int) < (N : Int)
    · obtain rfl := hf1 (by omega)
      clear hf1 hf2 hb2
      go_wp2_with fail
      refine (HAW.out _ HB2.out).mono ?_
      rintro e w4 ⟨rfl, hb4⟩
      have HB4 := Lib.hid (HB2.out.trans (hb4.mono HB2.out.size))
      clear hb4
      go_wp2
      go_ret
      exact ⟨rfl, HB4.out⟩
    · have HO := Lib.hid ((hf2 (by omega)).lower HA.out.size)
      have HONE := Lib.hid (one_frame (HM.out.below HB2.out) HO.out.bis (by rw [HLL.out]; omega))
      obtain ⟨A6, c6, rfl, _, _, h3⟩ := HO.out.bis
      clear hf1 hf2 hb2 h3
      go_wp2_with fail
      refine (HONE.out).mono ?_
      rintro e w3 ⟨x, rfl, hx, hb3⟩
      have HB3 := Lib.hid (HB2.out.trans (hb3.mono HB2.out.size))
      obtain ⟨A7, c7, rfl, _, _, h3⟩ := hx.bis
      rw [HLL.out]
      clear hx hb3 h3
      go_wp2_with fail
      refine (HAW.out _ HB3.out).mono ?_
      rintro e w4 ⟨rfl, hb4⟩
      have HB4 := Lib.hid (HB3.out.trans (hb4.mono HB3.out.size))
      clear hb4
      go_wp2
      go_ret
      exact ⟨rfl, HB4.out⟩
end Go.Proofs.YtponcidmipkodaaDoor
