/- TapeKeeps: the law's step: Fuse. TapeKeeps: the law's step: Read. TapeKeeps: the law's step: Crash. -/
import Derived.Test.YtkdcknkgfgkoaaaGreatDoorZLawI
set_option linter.unusedSimpArgs false
set_option linter.unusedVariables false
set_option linter.unnecessarySimpa false
namespace Go.Proofs.YtkdcknkgfgkoaaaGreatDoor
open Go.RowKit

set_option maxRecDepth 100000 in
set_option maxHeartbeats 4000000 in
theorem step6 {w0 w : World} {t r : Nat} {T : Tp} {R : RTp} (h : TR w0 w t r T R) {v : Value} {n a : Int} {b : List UInt8} {ks : List Int} (hv : OpIs w0 v 6 n a b ks) : Calls Tryz.prog 11 #[.pointer (some ⟨t, 0, none⟩), .pointer (some ⟨r, 0, none⟩), v] w (StepP w0) := by
  have HRT := Lib.hid h.rlt
  have hra := hv.ra
  have HRA := Lib.hid hra
  have HE := Lib.hid h.eq
  have hdd : T.down = R.down := h.eq.down
  have HFD := Lib.hid (fun (hd : T.down = true) (V : World) (hV : Below w.heap.size w V) => fuse_down (h.tape.below hV) hd a)
  have HFO := Lib.hid (fun (hd : T.down = false) (f : Int) (hf : f = if 0 ≤ a then a else -1) => h.fuseOk hd hra hf)
  have hd3 := cell_of h.ref.ref.head 3
  have HD3 := Lib.hid (fun (V : World) (hV : Below w.heap.size w V) => (hV.cell (p := ⟨r, 3, none⟩) h.rlt).trans hd3)
  have HDD := Lib.hid hdd
  clear hd3 hra hdd
  have HS := Lib.hid (fun W => small_any (w := W) hv)
  have HH := Lib.hid h
  obtain ⟨bv, kv, rfl, _, _⟩ := hv.form
  have HA0 := Lib.hid (alloc_at w (.cells #[.int .i64 6, .int .i64 n, .int .i64 a, bv, kv] 34))
  have HB0 := Lib.hid (below_new (w := w) (.cells #[.int .i64 6, .int .i64 n, .int .i64 a, bv, kv] 34))
  clear h hv
  go_enter Tryz.func11, Tryz.ntmps11
  go_wp2_with fail
  refine (HS.out _).mono ?_
  rintro e w1 ⟨v1, b1, ks1, rfl, hv1, hb40, hb1⟩
  obtain ⟨bv1, kv1, rfl, hB, hK⟩ := hv1.form
  have HOP := Lib.hid hv1
  have HOB := Lib.hid hB
  have HOK := Lib.hid hK
  obtain ⟨A1, d1, rfl, i1, i2, _⟩ := hB
  obtain ⟨A2, d2, rfl, j1, j2, _⟩ := hK
  have hsz : w.heap.size < (w.alloc (.cells #[.int .i64 6, .int .i64 n, .int .i64 a, bv, kv] 34)).heap.size := by rw [asz]; omega
  have bx := (hb1.block w.heap.size hsz).trans HA0.out
  have hs1 : w.heap.size < w1.heap.size := Nat.lt_of_lt_of_le hsz hb1.size
  have HBX := Lib.hid (box_put (HB0.out.trans (hb1.mono HB0.out.size)) hs1 bx (.int .i64 6) (.int .i64 n) (.int .i64 a) (.slice A1 b1.length d1) (.slice A2 ks1.length d2))
  have c0 := cell_of bx 0
  have c1 := cell_of bx 1
  have c2 := cell_of bx 2
  have c3 := cell_of bx 3
  have c4 := cell_of bx 4
  have f0 := free0 bx 0
  have f1 := free0 bx 1
  have f2 := free0 bx 2
  have f3 := free0 bx 3
  have f4 := free0 bx 4
  simp at c0 c1 c2 c3 c4
  clear hb1 bx hv1
  go_wp2_with fail
  obtain ⟨W1, hW1⟩ : ∃ W1, W1 = (((((w1.setCell ⟨w.heap.size, 0, none⟩ (.int .i64 6)).setCell ⟨w.heap.size, 1, none⟩ (.int .i64 n)).setCell ⟨w.heap.size, 2, none⟩ (.int .i64 a)).setCell ⟨w.heap.size, 3, none⟩ (.slice A1 b1.length d1)).setCell ⟨w.heap.size, 4, none⟩ (.slice A2 ks1.length d2)) := ⟨_, rfl⟩
  rw [← hW1]
  rw [← hW1] at HBX
  clear hW1 HA0 HB0 c0 c1 c2 c3 c4 f0 f1 f2 f3 f4 hs1 hsz HS
  have HC2 := Lib.hid (HBX.out.c 2 _ rfl)
  have s2 := HC2.out
  cases hdn : T.down with
  | true =>
    have hd3 := HD3.out _ HBX.out.below
    rw [← HDD.out, hdn] at hd3
    simp at hd3
    refine (HFD.out hdn _ HBX.out.below).mono ?_
    rintro x w2 ⟨rfl, rfl⟩
    go_wp2_with fail
    go_ret3
    exact ⟨t, r, T, R, rfl, HH.out.keep HBX.out.below⟩
  | false =>
    by_cases h0 : 0 ≤ a
    · have h1 : ¬ a < 0 := by omega
      refine (HFO.out hdn a (by rw [if_pos h0]) _ HBX.out.below).mono ?_
      rintro x w2 ⟨rfl, hm, hk, hz⟩
      have HM := Lib.hid hm
      have k2 := (World.cell?_of_block (a := ⟨w.heap.size, 2, none⟩) (hk w.heap.size (Nat.le_refl _) HBX.out.lt)).trans HC2.out
      have r0 := cell_of hm.ref.ref.head 0
      have r1 := cell_of hm.ref.ref.head 2
      have r3 := cell_of hm.ref.ref.head 3
      have g0 := free0 hm.ref.ref.head 0
      have g1 := free0 hm.ref.ref.head 2
      simp at r0 r1 r3
      have hne : w.heap.size ≠ r := by have := HRT.out; omega
      have hne2 : r ≠ w.heap.size := by have := HRT.out; omega
      clear hm hk hz
      rw [← HDD.out, hdn] at r3
      go_wp2_with fail
      go_ret3
      obtain ⟨T', R', hh⟩ := HM.out.rdo (q2 := { plR R with fuse := a }) ⟨HE.out.room, HE.out.A, rfl, HE.out.down⟩ (HM.out.ref.setFuse ⟨by omega, HRA.out.2⟩)
      exact ⟨t, r, T', R', rfl, hh⟩
    · have h1 : a < 0 := by omega
      refine (HFO.out hdn (-1) (by rw [if_neg h0]) _ HBX.out.below).mono ?_
      rintro x w2 ⟨rfl, hm, hk, hz⟩
      have HM := Lib.hid hm
      have k2 := (World.cell?_of_block (a := ⟨w.heap.size, 2, none⟩) (hk w.heap.size (Nat.le_refl _) HBX.out.lt)).trans HC2.out
      have r0 := cell_of hm.ref.ref.head 0
      have r1 := cell_of hm.ref.ref.head 2
      have r3 := cell_of hm.ref.ref.head 3
      have g0 := free0 hm.ref.ref.head 0
      have g1 := free0 hm.ref.ref.head 2
      simp at r0 r1 r3
      have hne : w.heap.size ≠ r := by have := HRT.out; omega
      have hne2 : r ≠ w.heap.size := by have := HRT.out; omega
      clear hm hk hz
      rw [← HDD.out, hdn] at r3
      go_wp2_with fail
      go_ret3
      obtain ⟨T', R', hh⟩ := HM.out.rdo (q2 := { plR R with fuse := -1 }) ⟨HE.out.room, HE.out.A, rfl, HE.out.down⟩ (HM.out.ref.setFuse2 a ⟨by omega, by omega⟩)
      exact ⟨t, r, T', R', rfl, hh⟩
end Go.Proofs.YtkdcknkgfgkoaaaGreatDoor

namespace Go.Proofs.YtkdcknkgfgkoaaaGreatDoor
open Go.RowKit

theorem TR.miss {w0 w : World} {t r : Nat} {T : Tp} {R : RTp} (h : TR w0 w t r T R) {n : Int} (hn : ∀ x ∈ R.L, x.n ≠ n) : ∀ e ∈ T.L, e.n ≠ n := fun e he => by
  have h1 : (e.n, e.b, e.s) ∈ abs T.L := List.mem_map.2 ⟨e, he, rfl⟩
  have h2 : (e.n, e.b, e.s) ∈ absR R.L := h.eq.A.mem_iff.1 h1
  exact absR_miss.1 hn _ h2

set_option maxRecDepth 100000 in
set_option maxHeartbeats 4000000 in
theorem step8 {w0 w : World} {t r : Nat} {T : Tp} {R : RTp} (h : TR w0 w t r T R) {v : Value} {n a : Int} {b : List UInt8} {ks : List Int} (hv : OpIs w0 v 8 n a b ks) : Calls Tryz.prog 11 #[.pointer (some ⟨t, 0, none⟩), .pointer (some ⟨r, 0, none⟩), v] w (StepP w0) := by
  have HRT := Lib.hid h.rlt
  have HK := Lib.hid (fun (V : World) (hV : Below w.heap.size w V) => h.keep hV)
  have HS := Lib.hid (fun W => small_any (w := W) hv)
  have HH := Lib.hid h
  obtain ⟨bv, kv, rfl, _, _⟩ := hv.form
  have HA0 := Lib.hid (alloc_at w (.cells #[.int .i64 8, .int .i64 n, .int .i64 a, bv, kv] 34))
  have HB0 := Lib.hid (below_new (w := w) (.cells #[.int .i64 8, .int .i64 n, .int .i64 a, bv, kv] 34))
  clear h hv
  go_enter Tryz.func11, Tryz.ntmps11
  go_wp2_with fail
  refine (HS.out _).mono ?_
  rintro e w1 ⟨v1, b1, ks1, rfl, hv1, hb40, hb1⟩
  obtain ⟨bv1, kv1, rfl, hB, hK⟩ := hv1.form
  have HOP := Lib.hid hv1
  have HOB := Lib.hid hB
  have HOK := Lib.hid hK
  obtain ⟨A1, d1, rfl, i1, i2, _⟩ := hB
  obtain ⟨A2, d2, rfl, j1, j2, _⟩ := hK
  have hsz : w.heap.size < (w.alloc (.cells #[.int .i64 8, .int .i64 n, .int .i64 a, bv, kv] 34)).heap.size := by rw [asz]; omega
  have bx := (hb1.block w.heap.size hsz).trans HA0.out
  have hs1 : w.heap.size < w1.heap.size := Nat.lt_of_lt_of_le hsz hb1.size
  have HBX := Lib.hid (box_put (HB0.out.trans (hb1.mono HB0.out.size)) hs1 bx (.int .i64 8) (.int .i64 n) (.int .i64 a) (.slice A1 b1.length d1) (.slice A2 ks1.length d2))
  have c0 := cell_of bx 0
  have c1 := cell_of bx 1
  have c2 := cell_of bx 2
  have c3 := cell_of bx 3
  have c4 := cell_of bx 4
  have f0 := free0 bx 0
  have f1 := free0 bx 1
  have f2 := free0 bx 2
  have f3 := free0 bx 3
  have f4 := free0 bx 4
  simp at c0 c1 c2 c3 c4
  clear hb1 bx hv1
  go_wp2_with fail
  obtain ⟨W1, hW1⟩ : ∃ W1, W1 = (((((w1.setCell ⟨w.heap.size, 0, none⟩ (.int .i64 8)).setCell ⟨w.heap.size, 1, none⟩ (.int .i64 n)).setCell ⟨w.heap.size, 2, none⟩ (.int .i64 a)).setCell ⟨w.heap.size, 3, none⟩ (.slice A1 b1.length d1)).setCell ⟨w.heap.size, 4, none⟩ (.slice A2 ks1.length d2)) := ⟨_, rfl⟩
  rw [← hW1]
  rw [← hW1] at HBX
  clear hW1 HA0 HB0 c0 c1 c2 c3 c4 f0 f1 f2 f3 f4 hs1 hsz HS
  have HC1 := Lib.hid (HBX.out.c 1 _ rfl)
  have s1 := HC1.out
  have HTV := Lib.hid (HK.out _ HBX.out.below)
  cases hnm : nameB n with
  | false =>
    refine (read_no HTV.out.globW t hnm).mono ?_
    rintro x w2 ⟨rfl, hb2⟩
    have hcc := (hb2.cell (p := ⟨w.heap.size, 1, none⟩) HBX.out.lt).trans HC1.out
    have HB2 := Lib.hid hb2
    clear hb2
    by_cases hlo : n < 0
    · go_wp2_with fail
      go_ret3
      exact ⟨t, r, T, R, rfl, HTV.out.keep HB2.out⟩
    · have hhi : 1048576 < n := by
        by_cases hh : 1048576 < n
        · exact hh
        · exact absurd (nameB_iff.2 ⟨(by omega : 0 ≤ n), (by omega : n ≤ 1048576)⟩) (by rw [hnm]; decide)
      go_wp2_with fail
      go_ret3
      exact ⟨t, r, T, R, rfl, HTV.out.keep HB2.out⟩
  | true =>
    have hr := nameB_iff.1 hnm
    have n1 : ¬ n < (0 : Int) := by omega
    have n2 : ¬ (1048576 : Int) < n := by omega
    by_cases hex : ∃ x ∈ R.L, x.n = n
    · obtain ⟨x, hx, rfl⟩ := hex
      obtain ⟨j, hj, hjx⟩ := List.getElem_of_mem hx
      have hjj : R.L[j]? = some x := by rw [List.getElem?_eq_getElem hj, hjx]
      have HJ := Lib.hid hjj
      have hj64 := HH.out.ref.few
      refine (sm_read HTV.out HJ.out _ (Below.refl _ _)).mono ?_
      rintro y w2 ⟨v8, rfl, _, hb2⟩
      have hcc := (hb2.cell (p := ⟨w.heap.size, 1, none⟩) HBX.out.lt).trans HC1.out
      have HB2 := Lib.hid hb2
      have HT2 := Lib.hid (HTV.out.keep hb2)
      clear hb2 hjj hjx hx hr
      go_wp2_with fail
      refine (rfind_hit HT2.out.ref HJ.out rfl).mono ?_
      rintro y w3 ⟨rfl, hb3⟩
      have HB3 := Lib.hid hb3
      have q0 : (0 : Int) ≤ (j : Int) := by omega
      clear hb3
      go_wp2_with fail
      go_ret3
      exact ⟨t, r, T, R, rfl, HT2.out.keep HB3.out⟩
    · have hno : ∀ x ∈ R.L, x.n ≠ n := fun x hx e => hex ⟨x, hx, e⟩
      have HNO := Lib.hid hno
      refine (read_miss HTV.out.globW HTV.out.tape hnm (HH.out.miss HNO.out)).mono ?_
      rintro y w2 ⟨rfl, hb2⟩
      have hcc := (hb2.cell (p := ⟨w.heap.size, 1, none⟩) HBX.out.lt).trans HC1.out
      have HT2 := Lib.hid (HTV.out.keep hb2)
      clear hb2 hr hno hex
      go_wp2_with fail
      refine (rfind_miss HT2.out.ref HNO.out).mono ?_
      rintro y w3 ⟨rfl, hb3⟩
      have HB3 := Lib.hid hb3
      clear hb3
      go_wp2_with fail
      go_ret3
      exact ⟨t, r, T, R, rfl, HT2.out.keep HB3.out⟩
end Go.Proofs.YtkdcknkgfgkoaaaGreatDoor

namespace Go.Proofs.YtkdcknkgfgkoaaaGreatDoor
open Go.RowKit

def CrT (V : World) (T : Tp) (ks : List Int) (c : Nat) (w' : World) : Prop := CrashP V T ks (.returned (.pointer (some ⟨c, 0, none⟩))) w'
theorem crT_any {w : World} {t : Nat} {T : Tp} (hT : TapeAt w t T) {kv : Value} {ks : List Int} (hks : IIs w kv ks) (hr : ∀ k ∈ ks, inR k) : Calls Tryz.prog 12 #[.pointer (some ⟨t, 0, none⟩), kv] w fun e w' => ∃ c, e = .returned (.pointer (some ⟨c, 0, none⟩)) ∧ CrT w T ks c w' ∧ Below w.heap.size w w' :=
  (crash_any hT hks hr).mono fun e w' k => by
    obtain ⟨c, TC, ns, rfl, k1, k2, k3, k4, k5, k6, k7, k8, k9, k10⟩ := k
    exact ⟨c, rfl, ⟨c, TC, ns, rfl, k1, k2, k3, k4, k5, k6, k7, k8, k9, k10⟩, k10⟩
theorem crR_any {w : World} {r : Nat} {R : RTp} (hR : RefOk w r R) {kv : Value} {ks : List Int} (hks : IIs w kv ks) (hr : ∀ k ∈ ks, inR k) : Calls Tryz.prog 47 #[.pointer (some ⟨r, 0, none⟩), kv] w fun e w' => e = .returned (.pointer (some ⟨w.heap.size, 0, none⟩)) ∧ RCrashP w R ks e w' ∧ Below w.heap.size w w' :=
  (rcrash_any hR hks hr).mono fun e w' k => by
    obtain ⟨C, rfl, k1, k2, k3, k4⟩ := k
    exact ⟨rfl, ⟨C, rfl, k1, k2, k3, k4⟩, k3⟩
theorem TR.crash {w0 w V w2 w3 : World} {t r c : Nat} {T : Tp} {R : RTp} {ks : List Int} {e : Ending} (h : TR w0 w t r T R) (hV : Below w.heap.size w V) (hc : CrT V T ks c w2) (hr : RCrashP w2 R ks e w3) : ∃ TC C, TR w0 w3 c w2.heap.size TC C := by
  obtain ⟨c', TC, ns, e1, k1, k2, k3, k4, k5, k6, k7, k8, k9, k10⟩ := hc
  obtain ⟨C, _, q1, q2, q3, q4⟩ := hr
  have hcc : c' = c := by
    injection e1 with e1
    injection e1 with e1
    injection e1 with e1
    injection e1 with e1
    exact e1.symm
  subst hcc
  obtain ⟨_, he⟩ := crash_eq (fun e he => (h.tape.segs e he).le) h.tape.nums h.eq.A h.ref.rises k6 k7 ks
  have hlen : (absR R.L).length = R.L.length := by unfold absR; rw [List.length_map]
  have h0 := h.below
  have hs : w.heap.size ≤ V.heap.size := hV.size
  have hs0 : w0.heap.size ≤ w.heap.size := h0.size
  refine ⟨TC, C, k1.below q3, q1, Pl.Eq.trans ?_ q2.symm, h.glob, ((h0.trans (hV.mono hs0)).trans (k10.mono (by omega))).trans (q3.mono (by have := k10.size; omega)), fun k hk => by have := k9 k hk; omega, fun k hk => by have := q4 k hk; have := k10.size; omega, fun k hk hR => ?_⟩
  · refine ⟨by show TC.room = _; rw [k2]; exact h.eq.room, ?_, by show fuseT TC = -1; unfold fuseT; rw [k3]; rfl, k5⟩
    show (abs TC.L).Perm _
    rw [k8, he]
    show (crI (absR R.L) ks (absR R.L).length).Perm _
    rw [hlen]
  · have := k1.lt k hk
    have := q4 k hR
    omega

set_option maxRecDepth 100000 in
set_option maxHeartbeats 4000000 in
theorem step7 {w0 w : World} {t r : Nat} {T : Tp} {R : RTp} (h : TR w0 w t r T R) {v : Value} {n a : Int} {b : List UInt8} {ks : List Int} (hv : OpIs w0 v 7 n a b ks) : Calls Tryz.prog 11 #[.pointer (some ⟨t, 0, none⟩), .pointer (some ⟨r, 0, none⟩), v] w (StepP w0) := by
  have HRT := Lib.hid h.rlt
  have HK := Lib.hid (fun (V : World) (hV : Below w.heap.size w V) => h.keep hV)
  have HS := Lib.hid (fun W => small_any (w := W) hv)
  have HH := Lib.hid h
  obtain ⟨bv, kv, rfl, _, _⟩ := hv.form
  have HA0 := Lib.hid (alloc_at w (.cells #[.int .i64 7, .int .i64 n, .int .i64 a, bv, kv] 34))
  have HB0 := Lib.hid (below_new (w := w) (.cells #[.int .i64 7, .int .i64 n, .int .i64 a, bv, kv] 34))
  clear h hv
  go_enter Tryz.func11, Tryz.ntmps11
  go_wp2_with fail
  refine (HS.out _).mono ?_
  rintro e w1 ⟨v1, b1, ks1, rfl, hv1, hb40, hb1⟩
  obtain ⟨bv1, kv1, rfl, hB, hK⟩ := hv1.form
  have HOP := Lib.hid hv1
  have HOB := Lib.hid hB
  have HOK := Lib.hid hK
  obtain ⟨A1, d1, rfl, i1, i2, _⟩ := hB
  obtain ⟨A2, d2, rfl, j1, j2, _⟩ := hK
  have hsz : w.heap.size < (w.alloc (.cells #[.int .i64 7, .int .i64 n, .int .i64 a, bv, kv] 34)).heap.size := by rw [asz]; omega
  have bx := (hb1.block w.heap.size hsz).trans HA0.out
  have hs1 : w.heap.size < w1.heap.size := Nat.lt_of_lt_of_le hsz hb1.size
  have HBX := Lib.hid (box_put (HB0.out.trans (hb1.mono HB0.out.size)) hs1 bx (.int .i64 7) (.int .i64 n) (.int .i64 a) (.slice A1 b1.length d1) (.slice A2 ks1.length d2))
  have c0 := cell_of bx 0
  have c1 := cell_of bx 1
  have c2 := cell_of bx 2
  have c3 := cell_of bx 3
  have c4 := cell_of bx 4
  have f0 := free0 bx 0
  have f1 := free0 bx 1
  have f2 := free0 bx 2
  have f3 := free0 bx 3
  have f4 := free0 bx 4
  simp at c0 c1 c2 c3 c4
  clear hb1 bx hv1
  go_wp2_with fail
  obtain ⟨W1, hW1⟩ : ∃ W1, W1 = (((((w1.setCell ⟨w.heap.size, 0, none⟩ (.int .i64 7)).setCell ⟨w.heap.size, 1, none⟩ (.int .i64 n)).setCell ⟨w.heap.size, 2, none⟩ (.int .i64 a)).setCell ⟨w.heap.size, 3, none⟩ (.slice A1 b1.length d1)).setCell ⟨w.heap.size, 4, none⟩ (.slice A2 ks1.length d2)) := ⟨_, rfl⟩
  rw [← hW1]
  rw [← hW1] at HBX
  clear hW1 HA0 HB0 c0 c1 c2 c3 c4 f0 f1 f2 f3 f4 hs1 hsz HS
  have HC4 := Lib.hid (HBX.out.c 4 _ rfl)
  have s4 := HC4.out
  have hb0 : Below w0.heap.size w0 W1 := (HK.out _ HBX.out.below).below
  have HKS := Lib.hid (fun (V : World) (hV : Below W1.heap.size W1 V) => HOK.out.below (hb0.trans (hV.mono hb0.size)))
  have HTC := Lib.hid (fun (V : World) (hV : Below W1.heap.size W1 V) => crT_any ((HK.out _ (HBX.out.below.trans (hV.mono HBX.out.below.size))).tape) (HKS.out V hV) HOP.out.rks)
  have HRC := Lib.hid (fun (V : World) (hV : Below W1.heap.size W1 V) => crR_any ((HK.out _ (HBX.out.below.trans (hV.mono HBX.out.below.size))).ref) (HKS.out V hV) HOP.out.rks)
  clear hb0
  have HD1 : Hid (Below W1.heap.size W1 W1.drew) := Lib.hid (below_drew (Below.refl _ _))
  have HD2 : Hid (Below w.heap.size w W1.drew) := Lib.hid (below_drew HBX.out.below)
  go_region_held (fun W => W.cell? ⟨w.heap.size, 4, none⟩ = some (.slice A2 ks1.length d2)) ((first | go_keep | assumption | exact HC4.out)) (first | (go_at_call 12; refine (HTC.out _ HD1.out).mono ?_; rintro x w2 ⟨c, rfl, hc, hb2⟩; have HCT := Lib.hid hc; have HB2 : Hid (Below W1.heap.size W1 w2) := Lib.hid (HD1.out.trans (hb2.mono HD1.out.size)); have hcc : w2.cell? ⟨w.heap.size, 4, none⟩ = some (.slice A2 ks1.length d2) := (HB2.out.cell (p := ⟨w.heap.size, 4, none⟩) HBX.out.lt).trans HC4.out) | (go_at_call 47; refine (HRC.out _ HB2.out).mono ?_; rintro x w3 ⟨rfl, hr3, hb3⟩; have HCR := Lib.hid hr3; have HB3 : Hid (Below W1.heap.size W1 w3) := Lib.hid (HB2.out.trans (hb3.mono HB2.out.size)); have hcc3 : w3.cell? ⟨w.heap.size, 4, none⟩ = some (.slice A2 ks1.length d2) := (hb3.cell (p := ⟨w.heap.size, 4, none⟩) (Nat.lt_of_lt_of_le HBX.out.lt HB2.out.size)).trans hcc))
  have HX : Hid (∃ TC C, TR w0 w3 c w2.heap.size TC C) := Lib.hid (HH.out.crash HD2.out HCT.out HCR.out)
  obtain ⟨TC, C, hX⟩ := HX.out
  have HXX := Lib.hid hX
  have HOLD := Lib.hid (HK.out _ (HBX.out.below.trans (HB3.out.mono HBX.out.below.size)))
  clear hX
  go_wp2_with fail
  refine (same_any HOLD.out).mono ?_
  rintro y w4 ⟨rfl, hb4⟩
  have HB4 := Lib.hid hb4
  clear hb4
  go_wp2_with fail
  go_ret3
  exact ⟨_, _, TC, C, rfl, HXX.out.keep HB4.out⟩
end Go.Proofs.YtkdcknkgfgkoaaaGreatDoor
