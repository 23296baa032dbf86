/- The chapter's example (genmegb.py wrote it.) -/
import Derived.Test.YtfaaeacgmlklhaaGreatDoorZMegB
set_option linter.unusedSimpArgs false
set_option linter.unusedVariables false
set_option linter.unnecessarySimpa false
namespace Go.Proofs.YtfaaeacgmlklhaaGreatDoor
open Go.RowKit Go.Shelf

def exM : MsgV := ⟨1, 0, 2, 7, 3, 1, 5, 0, 0, [], [⟨1, ⟨#[120]⟩, 0, 0⟩]⟩
theorem exM_may : mayM exM = true := by decide +kernel
theorem exM_in : MsgIn exM := ⟨fun x h => (by cases h), fun o h => by
  obtain rfl := List.mem_singleton.1 h
  exact ⟨by decide, by decide, by decide⟩⟩
theorem nums_nil_any {w : World} {A : Option Addr} {c : Nat} (h : NumsAt w (.slice A 0 c) []) (W : World) : NumsAt W (.slice A 0 c) [] := by
  obtain ⟨A', c', e, h1, h2, _⟩ := h
  injection e with e1 e2 e3
  subst e1 e3
  exact ⟨_, _, rfl, h1, h2, fun i x hi => by simp at hi⟩
theorem ops_nil_any {w : World} {A : Option Addr} {c : Nat} (h : OpsAt w (.slice A 0 c) []) (W : World) : OpsAt W (.slice A 0 c) [] := by
  obtain ⟨A', c', e, h1, h2, _⟩ := h.form
  injection e with e1 e2 e3
  subst e1 e3
  exact ⟨_, _, rfl, h1, h2, fun i x hi => by simp at hi⟩
theorem exA_may : mayM (ansM exM 13) = true := by decide +kernel
theorem exA_eq : ansM exM 13 = ⟨13, 2, 0, 7, 3, 0, 0, 0, 0, [], []⟩ := by unfold ansM exM; simp
set_option maxRecDepth 100000 in
set_option maxHeartbeats 8000000 in
theorem awake_m {w : World} (hG : Glob w) (hMv : Mov w) :
    Calls Tryz.prog 11 #[] w fun e w' => e = .returned (.bool true) ∧ Below w.heap.size w w' := by
  have hb1 := below_new (w := w) (.cells #[.int .i64 1, .string ⟨#[120]⟩, .int .i64 0, .int .i64 0] 73)
  have hat1 := alloc_at w (.cells #[.int .i64 1, .string ⟨#[120]⟩, .int .i64 0, .int .i64 0] 73)
  have hb2 := hb1.trans ((below_new (w := w.alloc (.cells #[.int .i64 1, .string ⟨#[120]⟩, .int .i64 0, .int .i64 0] 73)) (.cells #[.int .i64 1, .int .i64 0, .int .i64 2, .int .i64 7, .int .i64 3, .int .i64 1, .int .i64 5, .int .i64 0, .int .i64 0, .slice none 0 0, .slice (some ⟨w.heap.size, 0, none⟩) 1 1] 33)).mono hb1.size)
  have hatM := alloc_at (w.alloc (.cells #[.int .i64 1, .string ⟨#[120]⟩, .int .i64 0, .int .i64 0] 73)) (.cells #[.int .i64 1, .int .i64 0, .int .i64 2, .int .i64 7, .int .i64 3, .int .i64 1, .int .i64 5, .int .i64 0, .int .i64 0, .slice none 0 0, .slice (some ⟨w.heap.size, 0, none⟩) 1 1] 33)
  have hatS := ((below_new (w := w.alloc (.cells #[.int .i64 1, .string ⟨#[120]⟩, .int .i64 0, .int .i64 0] 73)) (.cells #[.int .i64 1, .int .i64 0, .int .i64 2, .int .i64 7, .int .i64 3, .int .i64 1, .int .i64 5, .int .i64 0, .int .i64 0, .slice none 0 0, .slice (some ⟨w.heap.size, 0, none⟩) 1 1] 33)).block w.heap.size (heap_lt hat1)).trans hat1
  rw [asz] at hatM
  have hmsg : MsgIs ((w.alloc (.cells #[.int .i64 1, .string ⟨#[120]⟩, .int .i64 0, .int .i64 0] 73)).alloc (.cells #[.int .i64 1, .int .i64 0, .int .i64 2, .int .i64 7, .int .i64 3, .int .i64 1, .int .i64 5, .int .i64 0, .int .i64 0, .slice none 0 0, .slice (some ⟨w.heap.size, 0, none⟩) 1 1] 33)) (.agg #[.int .i64 1, .int .i64 0, .int .i64 2, .int .i64 7, .int .i64 3, .int .i64 1, .int .i64 5, .int .i64 0, .int .i64 0, .slice none 0 0, .slice (some ⟨w.heap.size, 0, none⟩) 1 1]) exM := ⟨none, 0, some ⟨w.heap.size, 0, none⟩, 1, rfl, NumsAt.nil _, ⟨some ⟨w.heap.size, 0, none⟩, 1, rfl, Nat.le_refl _, by unfold maxLen; omega, fun i o hi => by
      match i, hi with
      | 0, hi =>
        obtain rfl := Option.some.inj hi
        exact ⟨_, rfl, heap_lt hatS, cell_of hatS 0, cell_of hatS 1, cell_of hatS 2, cell_of hatS 3⟩⟩, fun o ho => by
      obtain rfl := List.mem_singleton.1 ho
      decide⟩
  have HB2 := Lib.hid hb2
  have HMS := Lib.hid (fun W (hW : Below ((w.alloc (.cells #[.int .i64 1, .string ⟨#[120]⟩, .int .i64 0, .int .i64 0] 73)).alloc (.cells #[.int .i64 1, .int .i64 0, .int .i64 2, .int .i64 7, .int .i64 3, .int .i64 1, .int .i64 5, .int .i64 0, .int .i64 0, .slice none 0 0, .slice (some ⟨w.heap.size, 0, none⟩) 1 1] 33)).heap.size ((w.alloc (.cells #[.int .i64 1, .string ⟨#[120]⟩, .int .i64 0, .int .i64 0] 73)).alloc (.cells #[.int .i64 1, .int .i64 0, .int .i64 2, .int .i64 7, .int .i64 3, .int .i64 1, .int .i64 5, .int .i64 0, .int .i64 0, .slice none 0 0, .slice (some ⟨w.heap.size, 0, none⟩) 1 1] 33)) W) => hmsg.below hW)
  have HAN := Lib.hid (Answer_any hmsg 13)
  have HG := Lib.hid (And.intro hG hMv)
  have HAM := Lib.hid hatM
  rw [exA_eq] at HAN
  clear hG hMv hb1 hat1 hb2 hatM hatS hmsg
  go_enter Tryz.func11, Tryz.ntmps11
  go_wp2_with fail
  refine (HAN.out).mono ?_
  rintro e w3 ⟨va, rfl, hva, hb3⟩
  have HVA := Lib.hid hva
  obtain ⟨tA, tc, oA, oc, rfl, hn0, ho0, _⟩ := hva
  simp only [List.length_nil] at hn0 ho0 ⊢
  have HN0 := Lib.hid (And.intro (nums_nil_any hn0) (ops_nil_any ho0))
  clear hn0 ho0 HVA
  have hM3 := (hb3.block (w.heap.size + 1) (heap_lt HAM.out)).trans HAM.out
  have HM3 := Lib.hid hM3
  have hz3 : w.heap.size + 1 < w3.heap.size := heap_lt hM3
  have hb4 := below_new (w := w3) (.cells #[.int .i64 13, .int .i64 2, .int .i64 0, .int .i64 7, .int .i64 3, .int .i64 0, .int .i64 0, .int .i64 0, .int .i64 0, .slice tA 0 tc, .slice oA 0 oc] 33)
  have hA4 := alloc_at w3 (.cells #[.int .i64 13, .int .i64 2, .int .i64 0, .int .i64 7, .int .i64 3, .int .i64 0, .int .i64 0, .int .i64 0, .int .i64 0, .slice tA 0 tc, .slice oA 0 oc] 33)
  have hB4 := (HB2.out.trans (hb3.mono HB2.out.size)).trans (hb4.mono (Nat.le_trans HB2.out.size hb3.size))
  have HB4 := Lib.hid hB4
  have HS4 := Lib.hid (hb3.trans (hb4.mono hb3.size))
  have HM4 := Lib.hid ((hb4.block (w.heap.size + 1) (heap_lt hM3)).trans hM3)
  have HA4 := Lib.hid hA4
  have HEN := Lib.hid (Encode_yes (HG.out.1.below hB4) (HG.out.2.below hB4) (HMS.out _ (hb3.trans (hb4.mono hb3.size))) exM_may exM_in)
  have m0 := cell_of hM3 0
  have m1 := cell_of hM3 1
  have m2 := cell_of hM3 2
  have m3 := cell_of hM3 3
  have m4 := cell_of hM3 4
  have m5 := cell_of hM3 5
  have m6 := cell_of hM3 6
  have m7 := cell_of hM3 7
  have m8 := cell_of hM3 8
  have m9 := cell_of hM3 9
  have m10 := cell_of hM3 10
  simp at m0 m1 m2 m3 m4 m5 m6 m7 m8 m9 m10
  clear hb3 hM3 hb4 hA4 hB4 HAN
  go_wp2_with fail
  refine (HEN.out).mono ?_
  rintro e w5 ⟨v5, rfl, ho5, hb5⟩
  have HM5 := Lib.hid ((hb5.block (w.heap.size + 1) (heap_lt HM4.out)).trans HM4.out)
  have HA5 := Lib.hid ((hb5.block w3.heap.size (heap_lt HA4.out)).trans HA4.out)
  have HS5 := Lib.hid (HS4.out.trans (hb5.mono HS4.out.size))
  have hB5 := HB4.out.trans (hb5.mono HB4.out.size)
  have HB5 := Lib.hid hB5
  have HDE := Lib.hid (Decode_any (HG.out.1.below hB5) (HG.out.2.below hB5) ho5.bis)
  rw [decM_back exM_may exM_in] at HDE
  obtain ⟨A5, c5, rfl⟩ := ho5.len
  clear hb5 hB5 ho5 HEN m0 m1 m2 m3 m4 m5 m6 m7 m8 m9 m10
  go_wp2_with fail
  refine (HDE.out).mono ?_
  rintro e w6 ⟨hb6, hcs⟩
  obtain ⟨md, vd, e1, rfl, hvd⟩ : ∃ m v, some exM = some m ∧ e = Ending.returned (.tuple #[v, .int .i64 0]) ∧ MsgIs w6 v m := by
    rcases hcs with ⟨h, _⟩ | h
    · cases h
    · exact h
  obtain rfl := Option.some.inj e1
  have HVD := Lib.hid hvd
  obtain ⟨tB, td, oB, od, rfl, _⟩ := hvd
  have hM6 := (hb6.block (w.heap.size + 1) (heap_lt HM5.out)).trans HM5.out
  have hA6 := (hb6.block w3.heap.size (heap_lt HA5.out)).trans HA5.out
  have hz6 : w.heap.size + 1 < w6.heap.size := heap_lt hM6
  have hz6a : w3.heap.size < w6.heap.size := heap_lt hA6
  have hb7 := below_new (w := w6) (.cells #[.int .i64 1, .int .i64 0, .int .i64 2, .int .i64 7, .int .i64 3, .int .i64 1, .int .i64 5, .int .i64 0, .int .i64 0, .slice tB 0 td, .slice oB 1 od] 33)
  have hD7 := alloc_at w6 (.cells #[.int .i64 1, .int .i64 0, .int .i64 2, .int .i64 7, .int .i64 3, .int .i64 1, .int .i64 5, .int .i64 0, .int .i64 0, .slice tB 0 td, .slice oB 1 od] 33)
  have hB7 := (HB5.out.trans (hb6.mono HB5.out.size)).trans (hb7.mono (Nat.le_trans HB5.out.size hb6.size))
  have hS7 := (HS5.out.trans (hb6.mono HS5.out.size)).trans (hb7.mono (Nat.le_trans HS5.out.size hb6.size))
  have HB7 := Lib.hid hB7
  have HS7 := Lib.hid hS7
  have HM7 := Lib.hid ((hb7.block (w.heap.size + 1) (heap_lt hM6)).trans hM6)
  have HA7 := Lib.hid ((hb7.block w3.heap.size (heap_lt hA6)).trans hA6)
  have HD7 := Lib.hid hD7
  have HVD7 := Lib.hid (HVD.out.below hb7)
  have HMY := Lib.hid (May_any (HG.out.1.below hB7) (HMS.out _ hS7))
  rw [exM_may] at HMY
  have hM6' := hM6
  have m0 := cell_of hM6' 0
  have m1 := cell_of hM6' 1
  have m2 := cell_of hM6' 2
  have m3 := cell_of hM6' 3
  have m4 := cell_of hM6' 4
  have m5 := cell_of hM6' 5
  have m6 := cell_of hM6' 6
  have m7 := cell_of hM6' 7
  have m8 := cell_of hM6' 8
  have m9 := cell_of hM6' 9
  have m10 := cell_of hM6' 10
  simp at m0 m1 m2 m3 m4 m5 m6 m7 m8 m9 m10
  clear e1 hcs hb6 hM6 hM6' hA6 hb7 hD7 hB7 hS7 HDE
  simp only [exM, List.length_nil, List.length_singleton]
  go_wp2_with fail
  refine (HMY.out).mono ?_
  rintro e w8 ⟨rfl, hb8⟩
  have HM8 := Lib.hid ((hb8.block (w.heap.size + 1) (heap_lt HM7.out)).trans HM7.out)
  have hA8 := (hb8.block w3.heap.size (heap_lt HA7.out)).trans HA7.out
  have HA8 := Lib.hid hA8
  have HD8 := Lib.hid ((hb8.block w6.heap.size (heap_lt HD7.out)).trans HD7.out)
  have hB8 := HB7.out.trans (hb8.mono HB7.out.size)
  have HB8 := Lib.hid hB8
  have HS8 := Lib.hid (HS7.out.trans (hb8.mono HS7.out.size))
  have HVD8 := Lib.hid (HVD7.out.below hb8)
  have HMZ := Lib.hid (May_any (m := ⟨13, 2, 0, 7, 3, 0, 0, 0, 0, [], []⟩) (v := .agg #[.int .i64 13, .int .i64 2, .int .i64 0, .int .i64 7, .int .i64 3, .int .i64 0, .int .i64 0, .int .i64 0, .int .i64 0, .slice tA 0 tc, .slice oA 0 oc]) (HG.out.1.below hB8) ⟨tA, tc, oA, oc, rfl, HN0.out.1 _, HN0.out.2 _, fun o h => by cases h⟩)
  rw [← exA_eq, exA_may] at HMZ
  have a0 := cell_of hA8 0
  have a1 := cell_of hA8 1
  have a2 := cell_of hA8 2
  have a3 := cell_of hA8 3
  have a4 := cell_of hA8 4
  have a5 := cell_of hA8 5
  have a6 := cell_of hA8 6
  have a7 := cell_of hA8 7
  have a8 := cell_of hA8 8
  have a9 := cell_of hA8 9
  have a10 := cell_of hA8 10
  simp at a0 a1 a2 a3 a4 a5 a6 a7 a8 a9 a10
  clear hb8 hA8 hB8 HMY m0 m1 m2 m3 m4 m5 m6 m7 m8 m9 m10
  go_wp2_with fail
  refine (HMZ.out).mono ?_
  rintro e w9 ⟨rfl, hb9⟩
  have hM9 := (hb9.block (w.heap.size + 1) (heap_lt HM8.out)).trans HM8.out
  have hA9 := (hb9.block w3.heap.size (heap_lt HA8.out)).trans HA8.out
  have hD9 := (hb9.block w6.heap.size (heap_lt HD8.out)).trans HD8.out
  have HB9 := Lib.hid (HB8.out.trans (hb9.mono HB8.out.size))
  have HSA := Lib.hid (Same_any (HVD8.out.below hb9) (HMS.out _ (HS8.out.trans (hb9.mono HS8.out.size))))
  simp only [decide_true] at HSA
  clear a0 a1 a2 a3 a4 a5 a6 a7 a8 a9 a10
  have m0 := cell_of hM9 0
  have m1 := cell_of hM9 1
  have m2 := cell_of hM9 2
  have m3 := cell_of hM9 3
  have m4 := cell_of hM9 4
  have m5 := cell_of hM9 5
  have m6 := cell_of hM9 6
  have m7 := cell_of hM9 7
  have m8 := cell_of hM9 8
  have m9 := cell_of hM9 9
  have m10 := cell_of hM9 10
  simp at m0 m1 m2 m3 m4 m5 m6 m7 m8 m9 m10
  have a0 := cell_of hA9 0
  have a1 := cell_of hA9 1
  have a2 := cell_of hA9 2
  have a3 := cell_of hA9 3
  have a4 := cell_of hA9 4
  have a5 := cell_of hA9 5
  have a6 := cell_of hA9 6
  have a7 := cell_of hA9 7
  have a8 := cell_of hA9 8
  have a9 := cell_of hA9 9
  have a10 := cell_of hA9 10
  simp at a0 a1 a2 a3 a4 a5 a6 a7 a8 a9 a10
  have d0 := cell_of hD9 0
  have d1 := cell_of hD9 1
  have d2 := cell_of hD9 2
  have d3 := cell_of hD9 3
  have d4 := cell_of hD9 4
  have d5 := cell_of hD9 5
  have d6 := cell_of hD9 6
  have d7 := cell_of hD9 7
  have d8 := cell_of hD9 8
  have d9 := cell_of hD9 9
  have d10 := cell_of hD9 10
  simp at d0 d1 d2 d3 d4 d5 d6 d7 d8 d9 d10
  clear hb9 hM9 hA9 hD9 HMZ
  go_wp2_with fail
  refine (HSA.out).mono ?_
  rintro e wa ⟨rfl, hba⟩
  have HBA := Lib.hid (HB9.out.trans (hba.mono HB9.out.size))
  clear hba
  go_wp2_with fail
  go_ret
  exact ⟨rfl, HBA.out⟩
end Go.Proofs.YtfaaeacgmlklhaaGreatDoor
