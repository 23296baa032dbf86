/- The chapter's example (awake); crc.All. -/
import Derived.Test.YtojmfjmnfpnmmaaDoorCrcF
import Derived.Lib.SmallJoins
set_option linter.unusedSimpArgs false
set_option linter.unusedVariables false
set_option linter.unnecessarySimpa false
namespace Go.Proofs.YtojmfjmnfpnmmaaDoor
open Go.RowKit

/-- A slice of slices that is laid anew. -/
theorem new_parts (w : World) (xs : List Value) (ls : List (List UInt8)) (hlen : xs.length = ls.length) (hl : ls.length ≤ 1000) (h : ∀ (i : Nat) (x : Value) (l : List UInt8), xs[i]? = some x → ls[i]? = some l → BIs w x l) :
    PIs (w.alloc (.cells xs.toArray 23)) (.slice (some ⟨w.heap.size, 0, none⟩) ls.length ls.length) ls := by
  refine ⟨_, _, rfl, Nat.le_refl _, by unfold maxLen; omega, fun i l hi => ?_⟩
  have hi' : i < xs.length := by rw [hlen]; exact (List.getElem?_eq_some_iff.1 hi).1
  refine ⟨_, xs[i], rfl, by show w.heap.size < (w.heap.push _).size; rw [Array.size_push]; omega, ?_, (h i _ l (List.getElem?_eq_getElem hi') hi).below ((Below.refl _ _).alloc (Nat.le_refl _) _)⟩
  rw [add0, cell_of_row _ _ _ _ _ _ (heap_alloc_new w _)]
  simp [hi']

theorem awake_sum : sumB [49, 50, 51, 52, 53, 54, 55, 56, 57] = 3808858755 := by decide +kernel
theorem new_lit (w : World) (l : List UInt8) (cs : Array Value) (fr : Nat × Nat) (hcs : (bc l).toArray = cs) (hl : l.length ≤ 1000) : BIs (w.alloc (.cells cs 5 fr)) (.slice (some ⟨w.heap.size, 0, none⟩) l.length l.length) l := by
  subst hcs
  refine ⟨_, _, rfl, Nat.le_refl _, by unfold maxLen; omega, fun i b hi => ⟨_, rfl, by show w.heap.size < (w.heap.push _).size; rw [Array.size_push]; omega, ?_⟩⟩
  rw [add0, World.cell?_alloc_mark]
  simpa using bc_some hi
/-- One part. -/
theorem pis_one {w : World} {x : Value} {l : List UInt8} (h : BIs w x l) : PIs (w.alloc (.cells #[x] 23)) (.slice (some ⟨w.heap.size, 0, none⟩) 1 1) [l] :=
  new_parts w [x] [l] rfl (by simp) fun i y m hy hm => by
    match i with
    | 0 =>
      obtain rfl : x = y := by simpa using hy
      obtain rfl : l = m := by simpa using hm
      exact h
    | i + 1 => simp at hy
theorem Below.new {w : World} (o : Obj) : Below w.heap.size w (w.alloc o) := (Below.refl _ _).alloc (Nat.le_refl _) _

theorem Mov.below' {w W : World} (h : Mov w) {B : Nat} (hB : w.heap.size ≤ B) (hW : Below B w W) : Mov W := h.below (hW.mono hB)

set_option maxRecDepth 100000 in
set_option maxHeartbeats 4000000 in
theorem awake3 {w : World} (hM : Mov w) : Calls Tryd.prog 9 #[] w fun e w' => e = .returned (.bool true) ∧ Below w.heap.size w w' := by
  have hcv := Lib.run_convert_bytes_const (P := Tryd.prog) w 23 5 #[.int .u8 97] 1 1 Tryd.underlying23 Tryd.underlying5
  have hB1 : BIs (w.alloc (.cells #[.int .u8 97] 5 (1, 2))) (.slice (some ⟨w.heap.size, 0, none⟩) 1 1) [97] := new_lit w [97] _ _ rfl (by decide)
  have hA1 := Below.new (w := w) (.cells #[.int .u8 97] 5 (1, 2))
  have HA1 := Lib.hid hA1
  have HM := Lib.hid hM
  have HP := Lib.hid (pis_one hB1)
  have hA2 := hA1.trans ((Below.new (w := w.alloc (.cells #[.int .u8 97] 5 (1, 2))) (.cells #[.slice (some ⟨w.heap.size, 0, none⟩) 1 1] 23)).mono hA1.size)
  have hw := wrap_any (hM.below hA2) HP.out (by decide)
  rw [asz w] at hw
  have HW := Lib.hid hw
  have HA2 := Lib.hid hA2
  clear hM hA1 hA2 hB1 hw
  go_enter Tryd.func9, Tryd.ntmps9
  go_wp2_with fail
  refine (HW.out).mono ?_
  rintro e w1 ⟨x1, rfl, -, hO1, hb1⟩
  have hO1 := (hO1 (by decide)).lower HA2.out.size
  have hb1 := HA2.out.trans (hb1.mono HA2.out.size)
  rw [show [[(97 : UInt8)]].flatten = [97] from rfl] at hO1
  have HO1 := Lib.hid hO1
  have HB1 := Lib.hid hb1
  have hf : firstP (frameB [97]) = 8 := by
    have := firstP_frame (l := [97]) (by decide) []
    rw [List.append_nil] at this
    exact this
  have hbody : bodyP (frameB [97]) = [97] := by
    unfold bodyP
    have := szP_frame (l := [97]) (by decide) []
    rw [List.append_nil] at this
    rw [this]
    rfl
  have hY := one_yes (HM.out.below hb1) hO1.bis (by rw [hf]; decide) (by rw [hf, frameB_len]; rfl)
  rw [hbody] at hY
  have HY := Lib.hid hY
  obtain ⟨g1, c1, rfl, hC1⟩ : ∃ g c, x1 = .slice (some ⟨g, 0, none⟩) 8 c ∧ OwnC w1 w.heap.size g c (frameB [97]) := by
    rcases hO1 with ⟨_, h⟩ | ⟨g, c, h, hc⟩
    · have := congrArg List.length h
      rw [frameB_len] at this
      simp at this
    · rw [frameB_len] at h
      exact ⟨g, c, h, hc⟩
  have HC1 := Lib.hid hC1
  clear hO1 hb1 hY hC1 hcv hf hbody
  go_wp2_with fail
  refine (HY.out).mono ?_
  rintro e w2 ⟨x2, rfl, hO2, hb2⟩
  have HB2 := Lib.hid (HB1.out.trans (hb2.mono HB1.out.size))
  have hC2 : OwnC w2 w.heap.size g1 c1 (frameB [97]) := HC1.out.keep hb2.size (hb2.block g1 HC1.out.lt)
  have HS2 := Lib.hid (fun W (hW : Below w2.heap.size w2 W) => bis_string (hO2.bis.below hW))
  have HCL := Lib.hid (fun W (hW : Below w2.heap.size w2 W) => (⟨(hW.cell (p := ⟨g1, 0, none⟩) hC2.lt).trans (hC2.holds 0 167 rfl), (hW.cell (p := ⟨g1, 2, none⟩) hC2.lt).trans (hC2.holds 2 1 rfl)⟩ : W.cell? ⟨g1, 0, none⟩ = some (.int .u8 167) ∧ W.cell? ⟨g1, 2, none⟩ = some (.int .u8 1)))
  have hcv2 := Lib.run_convert_bytes_const (P := Tryd.prog) w2 23 5 #[.int .u8 49, .int .u8 50, .int .u8 51, .int .u8 52, .int .u8 53, .int .u8 54, .int .u8 55, .int .u8 56, .int .u8 57] 9 9 Tryd.underlying23 Tryd.underlying5
  have hB2 : BIs (w2.alloc (.cells #[.int .u8 49, .int .u8 50, .int .u8 51, .int .u8 52, .int .u8 53, .int .u8 54, .int .u8 55, .int .u8 56, .int .u8 57] 5 (9, 10))) (.slice (some ⟨w2.heap.size, 0, none⟩) 9 9) [49, 50, 51, 52, 53, 54, 55, 56, 57] := new_lit w2 [49, 50, 51, 52, 53, 54, 55, 56, 57] _ _ rfl (by decide)
  have hA3 := Below.new (w := w2) (.cells #[.int .u8 49, .int .u8 50, .int .u8 51, .int .u8 52, .int .u8 53, .int .u8 54, .int .u8 55, .int .u8 56, .int .u8 57] 5 (9, 10))
  have hA4 := hA3.trans ((Below.new (w := w2.alloc (.cells #[.int .u8 49, .int .u8 50, .int .u8 51, .int .u8 52, .int .u8 53, .int .u8 54, .int .u8 55, .int .u8 56, .int .u8 57] 5 (9, 10))) (.cells #[.slice (some ⟨w2.heap.size, 0, none⟩) 9 9] 23)).mono hA3.size)
  have hs := sum_any ((HM.out.below HB2.out).below hA4) (pis_one hB2)
  rw [asz w2, List.flatten_cons, List.flatten_nil, List.append_nil, awake_sum] at hs
  have HS := Lib.hid hs
  have HA4 := Lib.hid hA4
  have hcl := HCL.out _ hA4
  have hst := HS2.out _ hA4
  obtain ⟨hcl1, hcl2⟩ := hcl
  have hx2 : ∃ A c, x2 = .slice A 1 c := by
    obtain ⟨A, c, h, _⟩ := hO2.bis
    exact ⟨A, c, h⟩
  clear hO2 hb2 hC2 hB2 hA3 hA4 hs
  obtain ⟨A2, cc2, rfl⟩ := hx2
  go_wp2_with fail
  refine (HS.out).mono ?_
  rintro e w' ⟨rfl, rfl⟩
  go_wp2_with fail
  go_ret
  exact ⟨rfl, HB2.out.trans (HA4.out.mono HB2.out.size)⟩
end Go.Proofs.YtojmfjmnfpnmmaaDoor
