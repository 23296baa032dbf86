/- The law CrcBit. -/
import Derived.Test.YtponcidmipkodaaDoorCrcH
set_option linter.unusedSimpArgs false
set_option linter.unusedVariables false
set_option linter.unnecessarySimpa false
namespace Go.Proofs.YtponcidmipkodaaDoor
open Go.RowKit

theorem tmod_cases (c : Int) (N : Nat) (hN : 0 < N) : ∃ m : Nat, m < N ∧ (c.tmod N = (m : Int) ∨ (0 < m ∧ c.tmod N = -(m : Int))) := by
  have h2 : (c.tmod N).natAbs < N := by
    rw [Int.natAbs_tmod]
    exact Nat.mod_lt _ (by simpa using hN)
  rcases Int.lt_or_le (c.tmod N) 0 with h | h
  · exact ⟨(c.tmod N).natAbs, h2, .inr ⟨by omega, by omega⟩⟩
  · exact ⟨(c.tmod N).natAbs, h2, .inl (by omega)⟩
theorem flip (x : UInt8) (j : Nat) (hj : j < 8) : ∃ y : UInt8, bits .xor .u8 (x.toNat : Int) ((2 : Int) ^ j % 256) = (y.toNat : Int) ∧ x ≠ y := by
  have h2 : (2 : Int) ^ j % 256 = ((2 ^ j : Nat) : Int) := by
    match j, hj with
    | 0, _ | 1, _ | 2, _ | 3, _ | 4, _ | 5, _ | 6, _ | 7, _ => rfl
  have h3 : 2 ^ j < 256 := by
    match j, hj with
    | 0, _ | 1, _ | 2, _ | 3, _ | 4, _ | 5, _ | 6, _ | 7, _ => decide
  have hx := UInt8.toNat_lt x
  have hlt : x.toNat ^^^ 2 ^ j < 256 := Nat.xor_lt_two_pow (n := 8) hx h3
  have hy : (UInt8.ofNat (x.toNat ^^^ 2 ^ j)).toNat = x.toNat ^^^ 2 ^ j := by
    rw [UInt8.toNat_ofNat']; exact Nat.mod_eq_of_lt hlt
  refine ⟨UInt8.ofNat (x.toNat ^^^ 2 ^ j), ?_, fun e => ?_⟩
  · rw [h2, u8_xor_nat _ _ hx h3, hy]
  · have e2 := congrArg UInt8.toNat e
    rw [hy] at e2
    have e3 := congrArg (x.toNat ^^^ ·) e2
    simp only [← Nat.xor_assoc, Nat.xor_self, Nat.zero_xor] at e3
    have := Nat.two_pow_pos j
    omega
theorem set_one {l : List UInt8} {k : Nat} (hl : l.length ≤ 16384) (hk : k < (frameB l).length) {y : UInt8} (hy : (frameB l)[k] ≠ y) : firstP ((frameB l).set k y) ≠ ((frameB l).set k y).length := by
  have e1 : frameB l = (frameB l).take k ++ (frameB l)[k] :: (frameB l).drop (k + 1) := by
    rw [← List.drop_eq_getElem_cons hk, List.take_append_drop]
  have e2 : (frameB l).set k y = (frameB l).take k ++ y :: (frameB l).drop (k + 1) := List.set_eq_take_append_cons_drop.trans (by rw [if_pos hk])
  rw [List.length_set, frameB_len, e2]
  exact firstP_one hl hy e1
/-- A byte of one's own that is stored. -/
theorem OwnC.set {w : World} {base g cap : Nat} {l : List UInt8} (h : OwnC w base g cap l) {k : Nat} (hk : k < l.length) (y : UInt8) : OwnC (w.setCell ⟨g, k, none⟩ (.int .u8 (y.toNat : Int))) base g cap (l.set k y) := by
  have hs : (w.setCell ⟨g, k, none⟩ (.int .u8 (y.toNat : Int))).heap.size = w.heap.size := by simp [World.setCell]
  have hk2 : k < cap := Nat.lt_of_lt_of_le hk h.le
  have hsame : (w.setCell ⟨g, k, none⟩ (.int .u8 (y.toNat : Int))).cell? ⟨g, k, none⟩ = some (.int .u8 (y.toNat : Int)) := World.cell?_setCell_same' _ _ _ (h.there k hk2).1
  have hother : ∀ j, j ≠ k → (w.setCell ⟨g, k, none⟩ (.int .u8 (y.toNat : Int))).cell? ⟨g, j, none⟩ = w.cell? ⟨g, j, none⟩ := fun j hj => World.cell?_setCell_other _ _ _ _ (fun e => hj (by injection e with _ e _; exact e.symm))
  refine ⟨h.new, by rw [hs]; exact h.lt, by rw [List.length_set]; exact h.le, h.max, fun j b hj => ?_, fun j hj => ⟨?_, by rw [World.frozen?_setCell]; exact (h.there j hj).2⟩⟩
  · by_cases hjk : j = k
    · subst hjk
      rw [List.getElem?_set_self hk] at hj
      rw [hsame, ← Option.some.inj hj]
    · rw [List.getElem?_set_ne (by omega)] at hj
      rw [hother j hjk]
      exact h.holds j b hj
  · by_cases hjk : j = k
    · subst hjk; rw [hsame]; rfl
    · rw [hother j hjk]; exact (h.there j hj).1

set_option maxRecDepth 100000 in
set_option maxHeartbeats 4000000 in
theorem law_bit {w : World} {v : Value} {l0 : List UInt8} {c : Int} (hM : Mov w) (h : BIs w v l0) (hc0 : -9223372036854775808 ≤ c) (hc1 : c ≤ 9223372036854775807) :
    Calls Tryd.prog 6 #[v, .int .i64 c] w fun e w' => e = .returned (.bool true) ∧ Below w.heap.size w w' := by
  have HS0 := Lib.hid (short_any h)
  have HS := Lib.hid (fun W (hW : Below w.heap.size w W) => short_any (h.below hW))
  have hle := shortL_le l0
  have HM := Lib.hid hM
  obtain ⟨A0, cap0, rfl, _, _, h3⟩ := h
  clear h3 hM
  generalize shortL l0 = l at *
  go_enter Tryd.func6, Tryd.ntmps6
  go_wp2_with fail
  refine (HS0.out).mono ?_
  rintro e w' ⟨x, rfl, hx, rfl⟩
  have HX := Lib.hid hx
  have hA := Below.new (w := w) (.cells #[x] 22)
  have hw := wrap_any (HM.out.below hA) (pis_one hx) (by simp; omega)
  rw [List.flatten_cons, List.flatten_nil, List.append_nil] at hw
  have HW := Lib.hid hw
  have HA := Lib.hid hA
  obtain ⟨A1, cap1, rfl, _, _, h3⟩ := hx
  clear h3 hw hA
  go_wp2_with fail
  refine (HW.out).mono ?_
  rintro e w1 ⟨f, rfl, -, hO, hb⟩
  have hO := (hO (by omega)).lower HA.out.size
  have HB := Lib.hid (HA.out.trans (hb.mono HA.out.size))
  have HF : Hid (frameB l = frameB l) := rfl
  obtain ⟨g, cg, rfl, hC⟩ : ∃ g c, f = .slice (some ⟨g, 0, none⟩) (l.length + 7) c ∧ OwnC w1 w.heap.size g c (frameB l) := by
    rcases hO with ⟨_, h⟩ | ⟨g, c, h, hc⟩
    · have := congrArg List.length h
      rw [frameB_len] at this
      simp at this
    · rw [frameB_len] at h
      exact ⟨g, c, h, hc⟩
  have HC := Lib.hid hC
  have hL : (l.length : Int) ≤ 200 := by omega
  clear hO hb hC
  go_wp2_with fail
  refine (HS.out w1 HB.out).mono ?_
  rintro e w' ⟨x2, rfl, hx2, rfl⟩
  obtain ⟨A2, cap2, rfl, _, _, h3⟩ := hx2
  clear h3
  obtain ⟨m, hm, hcs⟩ := tmod_cases c (8 * (l.length + 7)) (by omega)
  rw [show ((8 * (l.length + 7) : Nat) : Int) = 8 * ((l.length : Int) + 7) from by omega] at hcs
  rcases hcs with hcs | ⟨hm0, hcs⟩
  · skip
    have hk : m / 8 < (frameB l).length := by rw [frameB_len]; omega
    have hcell := HC.out.holds (m / 8) (frameB l)[m / 8] (List.getElem?_eq_getElem hk)
    have hfz := (HC.out.there (m / 8) (Nat.lt_of_lt_of_le hk HC.out.le)).2
    have hm' : (m : Int) < 8 * ((l.length : Int) + 7) := by omega
    have hm8 : m / 8 < l.length + 7 := by omega
    obtain ⟨y, hfl, hxy⟩ := flip (frameB l)[m / 8] (m % 8) (by omega)
    have hset := HC.out.set hk y
    have hno := one_no (HM.out.below (HB.out.setCell (p := ⟨g, m / 8, none⟩) HC.out.new (.int .u8 (y.toNat : Int)))) (OwnBy.bis (.inr ⟨g, cg, rfl, hset⟩)) (.inr (set_one (by omega) hk hxy))
    rw [List.length_set, frameB_len] at hno
    have HN := Lib.hid hno
    have HB2 := Lib.hid (HB.out.setCell (p := ⟨g, m / 8, none⟩) HC.out.new (.int .u8 (y.toNat : Int)))
    generalize hxx : (frameB l)[m / 8] = x at *
    have hx8 : (x.toNat : Int) < 256 := by have := UInt8.toNat_lt x; omega
    clear hset hno hxy
    go_wp2_with fail
    refine (HN.out).mono ?_
    rintro e w3 ⟨rfl, hb3⟩
    have hB3 := HB2.out.trans (hb3.mono HB2.out.size)
    have HAW := Lib.hid (awake3 (HM.out.below hB3))
    have HB3 := Lib.hid hB3
    clear hb3 hB3
    go_wp2_with fail
    refine (HAW.out).mono ?_
    rintro e w4 ⟨rfl, hb4⟩
    have HB4 := Lib.hid (HB3.out.trans (hb4.mono HB3.out.size))
    clear hb4
    go_wp2
    go_ret
    exact ⟨rfl, HB4.out⟩
  · skip
    have hk : m / 8 < (frameB l).length := by rw [frameB_len]; omega
    have hcell := HC.out.holds (m / 8) (frameB l)[m / 8] (List.getElem?_eq_getElem hk)
    have hfz := (HC.out.there (m / 8) (Nat.lt_of_lt_of_le hk HC.out.le)).2
    have hm' : (m : Int) < 8 * ((l.length : Int) + 7) := by omega
    have hm8 : m / 8 < l.length + 7 := by omega
    obtain ⟨y, hfl, hxy⟩ := flip (frameB l)[m / 8] (m % 8) (by omega)
    have hset := HC.out.set hk y
    have hno := one_no (HM.out.below (HB.out.setCell (p := ⟨g, m / 8, none⟩) HC.out.new (.int .u8 (y.toNat : Int)))) (OwnBy.bis (.inr ⟨g, cg, rfl, hset⟩)) (.inr (set_one (by omega) hk hxy))
    rw [List.length_set, frameB_len] at hno
    have HN := Lib.hid hno
    have HB2 := Lib.hid (HB.out.setCell (p := ⟨g, m / 8, none⟩) HC.out.new (.int .u8 (y.toNat : Int)))
    generalize hxx : (frameB l)[m / 8] = x at *
    have hx8 : (x.toNat : Int) < 256 := by have := UInt8.toNat_lt x; omega
    clear hset hno hxy
    go_wp2_with fail
    refine (HN.out).mono ?_
    rintro e w3 ⟨rfl, hb3⟩
    have hB3 := HB2.out.trans (hb3.mono HB2.out.size)
    have HAW := Lib.hid (awake3 (HM.out.below hB3))
    have HB3 := Lib.hid hB3
    clear hb3 hB3
    go_wp2_with fail
    refine (HAW.out).mono ?_
    rintro e w4 ⟨rfl, hb4⟩
    have HB4 := Lib.hid (HB3.out.trans (hb4.mono HB3.out.size))
    clear hb4
    go_wp2
    go_ret
    exact ⟨rfl, HB4.out⟩
end Go.Proofs.YtponcidmipkodaaDoor
