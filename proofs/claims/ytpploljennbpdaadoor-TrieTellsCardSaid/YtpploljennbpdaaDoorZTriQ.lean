/- trie: Prefers. -/
import Derived.Test.YtpploljennbpdaaDoorZTriP
set_option linter.unusedSimpArgs false
set_option linter.unusedVariables false
set_option linter.unnecessarySimpa false
namespace Go.Proofs.YtpploljennbpdaaDoor
open Go.RowKit Go.Shelf

def inI (P : List Pth) (a : Int) : Bool := decide (0 ≤ a ∧ a < (P.length : Int))
def prefI (P : List Pth) (a b : Int) : Bool := inI P a && (inI P b && ((meetI P a b != a) && decide (idxI (natI (belowI P 0)) a < idxI (natI (belowI P 0)) b)))
set_option maxRecDepth 100000 in
set_option maxHeartbeats 4000000 in
theorem Prefers_any {w : World} {v : Value} {N : List Nd} {P : List Pth} (a b : Int) (h : TrAt w v N P) (hP : P.length ≤ 1000) :
    Calls Tryd.prog 22 #[.agg #[v], .int .i64 a, .int .i64 b] w fun e w' => e = .returned (.bool (prefI P a b)) ∧ Below w.heap.size w w' := by
  obtain ⟨g, cap, rfl, hc1, hc2, _⟩ := h.form
  have hT := h.tree
  obtain ⟨w1, hw1⟩ : ∃ w1, w1 = w.alloc (.cells #[.slice (some ⟨g, 0, none⟩) P.length cap] 27) := ⟨_, rfl⟩
  have hb1 : Below w.heap.size w w1 := by rw [hw1]; exact below_new _
  have hbt : w1.heap[w.heap.size]? = some (.cells #[.slice (some ⟨g, 0, none⟩) P.length cap] 27 (0, 0)) := by rw [hw1]; exact alloc_at w _
  have HBL := Lib.hid (Below_any 0 (h.below hb1) hP)
  have hl : (natI (belowI P 0)).length ≤ 1000 := by rw [natI_len]; exact Nat.le_trans (belowI_le hT 0) hP
  have HL := Lib.hid hl
  have HW1 := Lib.hid hw1
  have HV := Lib.hid h
  have HB1 := Lib.hid hb1
  have HBT := Lib.hid hbt
  have kt := cell_of hbt 0
  clear hw1 hb1 hbt hT h hl
  go_enter Tryd.func22, Tryd.ntmps22
  go_wp2_with fail
  rw [← HW1.out]
  refine (HBL.out).mono ?_
  rintro e w2 ⟨v2, rfl, hr2, _, hb2⟩
  have HB2 := Lib.hid (HB1.out.trans (hb2.mono HB1.out.size))
  have hbt2 := (hb2.block _ (heap_lt HBT.out)).trans HBT.out
  have HBT2 := Lib.hid hbt2
  have HR2 := Lib.hid hr2
  have kt2 := cell_of hbt2 0
  have HHA := Lib.hid (fun W => has_any (w := W) (A := some ⟨g, 0, none⟩) (n := P.length) (cap := cap) a hP)
  have HHB := Lib.hid (fun W => has_any (w := W) (A := some ⟨g, 0, none⟩) (n := P.length) (cap := cap) b hP)
  clear hr2 hb2 hbt2 kt
  go_wp2_with fail
  refine (HHA.out _).mono ?_
  rintro e w3 ⟨rfl, rfl⟩
  have hb3 := below_new (w := w2) (.cells #[.slice (some ⟨g, 0, none⟩) P.length cap] 27)
  have kt3 := (hb3.cell (p := ⟨w.heap.size, 0, none⟩) (heap_lt HBT2.out)).trans kt2
  have HB3 := Lib.hid (HB2.out.trans (hb3.mono HB2.out.size))
  have HR3 := Lib.hid (HR2.out.below hb3)
  generalize w2.alloc (.cells #[.slice (some ⟨g, 0, none⟩) P.length cap] 27) = W3 at *
  clear hb3 kt2
  obtain ⟨ba, hba⟩ : ∃ ba, inI P a = ba := ⟨_, rfl⟩
  rw [show decide (0 ≤ a ∧ a < (P.length : Int)) = ba from hba]
  have HPA : Hid (prefI P a b = (ba && (inI P b && ((meetI P a b != a) && decide (idxI (natI (belowI P 0)) a < idxI (natI (belowI P 0)) b))))) := Lib.hid (by unfold prefI; rw [hba])
  clear hba
  cases ba with
  | false =>
    have HE : Hid (prefI P a b = false) := Lib.hid (by rw [HPA.out]; rfl)
    go_wp2_with fail
    refine bodyPost_ret (v := .bool false) (by simp [results, Tryd.results22, go_sem]) rfl ⟨by rw [HE.out], HB3.out⟩
  | true =>
    go_wp2_with fail
    refine (HHB.out _).mono ?_
    rintro e w4 ⟨rfl, rfl⟩
    have hb4 := below_new (w := W3) (.cells #[.slice (some ⟨g, 0, none⟩) P.length cap] 27)
    have kt4 := (hb4.cell (p := ⟨w.heap.size, 0, none⟩) (heap_lt' kt3)).trans kt3
    have HB4 := Lib.hid (HB3.out.trans (hb4.mono HB3.out.size))
    have HR4 := Lib.hid (HR3.out.below hb4)
    generalize W3.alloc (.cells #[.slice (some ⟨g, 0, none⟩) P.length cap] 27) = W4 at *
    clear hb4 kt3
    obtain ⟨bb, hbb⟩ : ∃ bb, inI P b = bb := ⟨_, rfl⟩
    rw [show decide (0 ≤ b ∧ b < (P.length : Int)) = bb from hbb]
    have HPB : Hid (prefI P a b = (bb && ((meetI P a b != a) && decide (idxI (natI (belowI P 0)) a < idxI (natI (belowI P 0)) b)))) := Lib.hid (by rw [HPA.out, hbb]; rfl)
    clear hbb
    cases bb with
    | false =>
      have HE : Hid (prefI P a b = false) := Lib.hid (by rw [HPB.out]; rfl)
      go_wp2_with fail
      refine bodyPost_ret (v := .bool false) (by simp [results, Tryd.results22, go_sem]) rfl ⟨by rw [HE.out], HB4.out⟩
    | true =>
      have HM := Lib.hid (Meet_any a b (HV.out.below HB4.out) hP)
      go_wp2_with fail
      refine (HM.out).mono ?_
      rintro e w5 ⟨rfl, hb5⟩
      have HB5 := Lib.hid (HB4.out.trans (hb5.mono HB4.out.size))
      have HR5 := Lib.hid (HR4.out.below hb5)
      clear hb5
      obtain ⟨mm, hmm⟩ : ∃ mm, meetI P a b = mm := ⟨_, rfl⟩
      rw [hmm]
      obtain ⟨bm, hbm⟩ : ∃ bm, (mm != a) = bm := ⟨_, rfl⟩
      have HPM : Hid (prefI P a b = (bm && decide (idxI (natI (belowI P 0)) a < idxI (natI (belowI P 0)) b))) := Lib.hid (by rw [HPB.out, hmm, hbm]; rfl)
      clear hmm
      cases bm with
      | false =>
        have HE : Hid (prefI P a b = false) := Lib.hid (by rw [HPM.out]; rfl)
        have hbq : (mm == a) = true := by simpa using hbm
        go_wp2_with fail
        refine bodyPost_ret (v := .bool false) (by simp [results, Tryd.results22, go_sem]) rfl ⟨by rw [HE.out], HB5.out⟩
      | true =>
        have hbq : (mm == a) = false := by simpa using hbm
        have hr5 := HR5.out
        rw [← natI_len] at hr5
        have HI1 := Lib.hid (index_any (x := a) hr5 (by have := HL.out; omega))
        have HI2 := Lib.hid (index_any (x := b) hr5 (by have := HL.out; omega))
        obtain ⟨i1, hi1⟩ : ∃ i1, idxI (natI (belowI P 0)) a = i1 := ⟨_, rfl⟩
        obtain ⟨i2, hi2⟩ : ∃ i2, idxI (natI (belowI P 0)) b = i2 := ⟨_, rfl⟩
        rw [hi1] at HI1
        rw [hi2] at HI2
        obtain ⟨bz, hbz⟩ : ∃ bz, decide (i1 < i2) = bz := ⟨_, rfl⟩
        have HE : Hid (prefI P a b = bz) := Lib.hid (by rw [HPM.out, hi1, hi2, hbz]; rfl)
        clear hi1 hi2 hr5
        go_wp2_with fail
        refine (HI1.out).mono ?_
        rintro e w6 ⟨rfl, rfl⟩
        go_wp2_with fail
        refine (HI2.out).mono ?_
        rintro e w7 ⟨rfl, rfl⟩
        go_wp2_with fail
        refine bodyPost_ret (v := .bool bz) (by simp [results, Tryd.results22, go_sem, hbz]) rfl ⟨by rw [HE.out], HB5.out⟩
end Go.Proofs.YtpploljennbpdaaDoor
