/- TapeKeeps: the law's step: Sync, Trim, Drop. -/
import Derived.Test.YtkdcknkgfgkoaaaGreatDoorZLawE
set_option linter.unusedSimpArgs false
set_option linter.unusedVariables false
set_option linter.unnecessarySimpa false
namespace Go.Proofs.YtkdcknkgfgkoaaaGreatDoor
open Go.RowKit

/-- What the tape's call leaves, ahead of the reference's. -/
def TStep (w0 w : World) (t r : Nat) (R : RTp) (q : Pl) (ans : Int) (V : World) (e : Ending) (w' : World) : Prop := e = .returned (.int .i64 ans) ∧ Mid w0 t r R q w' ∧ (∀ k, w.heap.size ≤ k → k < V.heap.size → w'.heap[k]? = V.heap[k]?) ∧ V.heap.size ≤ w'.heap.size
theorem TR.tstep {w0 w V w' : World} {t r : Nat} {T : Tp} {R : RTp} (h : TR w0 w t r T R) (hV : Below w.heap.size w V) {q : Pl} {ans : Int} {e : Ending} (k : e = .returned (.int .i64 ans) ∧ TDoP V t T q w') : TStep w0 w t r R q ans V e w' :=
  ⟨k.1, (h.keep hV).tdo k.2, fun i hi hlt => by
    obtain ⟨T', _, _, h3, _⟩ := k.2
    exact h3.block i hlt (fun hk => by have := h.tape.lt i hk; omega), by
    obtain ⟨T', _, _, h3, _⟩ := k.2
    exact h3.size⟩
theorem TR.sync {w0 w : World} {t r : Nat} {T : Tp} {R : RTp} (h : TR w0 w t r T R) (seg n : Int) (b : List UInt8) : ∀ V, Below w.heap.size w V → Calls Tryz.prog 44 #[.pointer (some ⟨t, 0, none⟩), .int .i64 seg] V (TStep w0 w t r R (doP (plT T) 1 seg n b).2 (doP (plT T) 1 seg n b).1 V) := fun V hV => (tsync (h.keep hV).globW (h.tape.below hV) h.far seg n b).mono fun e w' k => h.tstep hV k
theorem TR.trim {w0 w : World} {t r : Nat} {T : Tp} {R : RTp} (h : TR w0 w t r T R) (seg n : Int) (b : List UInt8) : ∀ V, Below w.heap.size w V → Calls Tryz.prog 45 #[.pointer (some ⟨t, 0, none⟩), .int .i64 seg, .int .i64 n] V (TStep w0 w t r R (doP (plT T) 2 seg n b).2 (doP (plT T) 2 seg n b).1 V) := fun V hV => (ttrim (h.keep hV).globW (h.tape.below hV) h.far seg n b).mono fun e w' k => h.tstep hV k
theorem TR.drop {w0 w : World} {t r : Nat} {T : Tp} {R : RTp} (h : TR w0 w t r T R) (seg n : Int) (b : List UInt8) : ∀ V, Below w.heap.size w V → Calls Tryz.prog 46 #[.pointer (some ⟨t, 0, none⟩), .int .i64 seg] V (TStep w0 w t r R (doP (plT T) 3 seg n b).2 (doP (plT T) 3 seg n b).1 V) := fun V hV => (tdrop (h.keep hV).globW (h.tape.below hV) h.far seg n b).mono fun e w' k => h.tstep hV k

/-- What the reference's call leaves behind the tape's. -/
def RStep (w0 : World) (t r : Nat) (ans : Int) (V : World) (e : Ending) (w' : World) : Prop := e = .returned (.int .i64 ans) ∧ (∃ T R, TR w0 w' t r T R) ∧ ∀ k, k ≠ r → k < V.heap.size → w'.heap[k]? = V.heap[k]?
theorem TR.rstep {w0 w V w' : World} {t r : Nat} {T : Tp} {R : RTp} (h : TR w0 w t r T R) (kd : Nat) (seg n : Int) (b : List UInt8) (hm : Mid w0 t r R (doP (plT T) kd seg n b).2 V) {e : Ending} (k : e = .returned (.int .i64 (doP (plR R) kd seg n b).1) ∧ DoP V r R (doP (plR R) kd seg n b).2 w') : RStep w0 t r (doP (plT T) kd seg n b).1 V e w' := by
  obtain ⟨e1, e2⟩ := h.doEq kd seg n b
  refine ⟨by rw [e1]; exact k.1, hm.rdo e2 k.2, fun i hi hlt => ?_⟩
  obtain ⟨R', _, _, k3, _⟩ := k.2
  exact k3.block i hlt hi
theorem Mid.ref {w0 w : World} {t r : Nat} {R : RTp} {q : Pl} (h : Mid w0 t r R q w) : RefOk w r R := by
  obtain ⟨T, h1, h2, h3, _⟩ := h
  exact h3
theorem TR.rlt {w0 w : World} {t r : Nat} {T : Tp} {R : RTp} (h : TR w0 w t r T R) : r < w.heap.size := heap_lt h.ref.ref.head

set_option maxRecDepth 100000 in
set_option maxHeartbeats 4000000 in
theorem step2 {w0 w : World} {t r : Nat} {T : Tp} {R : RTp} (h : TR w0 w t r T R) {v : Value} {n a : Int} {b : List UInt8} {ks : List Int} (hv : OpIs w0 v 2 n a b ks) : Calls Tryz.prog 11 #[.pointer (some ⟨t, 0, none⟩), .pointer (some ⟨r, 0, none⟩), v] w (StepP w0) := by
  have HT := Lib.hid (h.sync n 0 [])
  have HR := Lib.hid (fun (V : World) (hm : Mid w0 t r R (doP (plT T) 1 n 0 []).2 V) => (rdo1 hm.ref n 0 [] (.slice none 0 0)).mono fun e w' k => h.rstep 1 n 0 [] hm k)
  have HRT := Lib.hid h.rlt
  generalize (doP (plT T) 1 n 0 []).1 = ans at *
  generalize (doP (plT T) 1 n 0 []).2 = q at *
  have HS := Lib.hid (fun W => small_any (w := W) hv)
  have HH := Lib.hid h
  obtain ⟨bv, kv, rfl, _, _⟩ := hv.form
  have HA0 := Lib.hid (alloc_at w (.cells #[.int .i64 2, .int .i64 n, .int .i64 a, bv, kv] 34))
  have HB0 := Lib.hid (below_new (w := w) (.cells #[.int .i64 2, .int .i64 n, .int .i64 a, bv, kv] 34))
  clear h hv
  go_enter Tryz.func11, Tryz.ntmps11
  go_wp2_with fail
  refine (HS.out _).mono ?_
  rintro e w1 ⟨v1, b1, ks1, rfl, hv1, hb40, hb1⟩
  obtain ⟨bv1, kv1, rfl, hB, hK⟩ := hv1.form
  have HOP := Lib.hid hv1
  have HOB := Lib.hid hB
  have HOK := Lib.hid hK
  obtain ⟨A1, d1, rfl, i1, i2, _⟩ := hB
  obtain ⟨A2, d2, rfl, j1, j2, _⟩ := hK
  have hsz : w.heap.size < (w.alloc (.cells #[.int .i64 2, .int .i64 n, .int .i64 a, bv, kv] 34)).heap.size := by rw [asz]; omega
  have bx := (hb1.block w.heap.size hsz).trans HA0.out
  have hs1 : w.heap.size < w1.heap.size := Nat.lt_of_lt_of_le hsz hb1.size
  have HBX := Lib.hid (box_put (HB0.out.trans (hb1.mono HB0.out.size)) hs1 bx (.int .i64 2) (.int .i64 n) (.int .i64 a) (.slice A1 b1.length d1) (.slice A2 ks1.length d2))
  have c0 := cell_of bx 0
  have c1 := cell_of bx 1
  have c2 := cell_of bx 2
  have c3 := cell_of bx 3
  have c4 := cell_of bx 4
  have f0 := free0 bx 0
  have f1 := free0 bx 1
  have f2 := free0 bx 2
  have f3 := free0 bx 3
  have f4 := free0 bx 4
  simp at c0 c1 c2 c3 c4
  clear hb1 bx hv1
  go_wp2_with fail
  obtain ⟨W1, hW1⟩ : ∃ W1, W1 = (((((w1.setCell ⟨w.heap.size, 0, none⟩ (.int .i64 2)).setCell ⟨w.heap.size, 1, none⟩ (.int .i64 n)).setCell ⟨w.heap.size, 2, none⟩ (.int .i64 a)).setCell ⟨w.heap.size, 3, none⟩ (.slice A1 b1.length d1)).setCell ⟨w.heap.size, 4, none⟩ (.slice A2 ks1.length d2)) := ⟨_, rfl⟩
  rw [← hW1]
  rw [← hW1] at HBX
  clear hW1 HA0 HB0 c0 c1 c2 c3 c4 f0 f1 f2 f3 f4 hs1 hsz HS
  have HC1 := Lib.hid (HBX.out.c 1 _ rfl)
  have HC2 := Lib.hid (HBX.out.c 2 _ rfl)
  have s1 := HC1.out
  have s2 := HC2.out
  go_region_held (fun W => W.cell? ⟨w.heap.size, 1, none⟩ = some (.int .i64 n) ∧ W.cell? ⟨w.heap.size, 2, none⟩ = some (.int .i64 a)) ((first | go_keep | assumption | exact ⟨HC1.out, HC2.out⟩)) (first | (go_at_call 44; refine (HT.out _ (by first | exact HBX.out.below | exact below_drew HBX.out.below)).mono ?_; rintro x w2 ⟨rfl, hm, hk, hz⟩; have HM := Lib.hid hm; have hcc : w2.cell? ⟨w.heap.size, 1, none⟩ = some (.int .i64 n) ∧ w2.cell? ⟨w.heap.size, 2, none⟩ = some (.int .i64 a) := ⟨(World.cell?_of_block (a := ⟨w.heap.size, 1, none⟩) (hk _ (Nat.le_refl _) HBX.out.lt)).trans HC1.out, (World.cell?_of_block (a := ⟨w.heap.size, 2, none⟩) (hk _ (Nat.le_refl _) HBX.out.lt)).trans HC2.out⟩; have HCC := Lib.hid hcc; have HZ := Lib.hid (Nat.lt_of_lt_of_le HBX.out.lt hz)) | (go_at_call 23; refine (HR.out _ HM.out).mono ?_; rintro x w3 ⟨rfl, hr, hk3⟩; have HRR := Lib.hid hr; have hcc3 : w3.cell? ⟨w.heap.size, 1, none⟩ = some (.int .i64 n) ∧ w3.cell? ⟨w.heap.size, 2, none⟩ = some (.int .i64 a) := ⟨(World.cell?_of_block (a := ⟨w.heap.size, 1, none⟩) (hk3 w.heap.size (by have := HRT.out; omega) HZ.out)).trans HCC.out.1, (World.cell?_of_block (a := ⟨w.heap.size, 2, none⟩) (hk3 w.heap.size (by have := HRT.out; omega) HZ.out)).trans HCC.out.2⟩))
  go_wp2_with fail
  go_ret3
  obtain ⟨T', R', hh⟩ := HRR.out
  exact ⟨t, r, T', R', rfl, hh⟩
end Go.Proofs.YtkdcknkgfgkoaaaGreatDoor
