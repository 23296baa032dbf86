/- TapeKeeps: the law's step: Append. -/
import Derived.Test.YtkdcknkgfgkoaaaGreatDoorZLawM
import Derived.Test.YtkdcknkgfgkoaaaGreatDoorZLawI
set_option linter.unusedSimpArgs false
set_option linter.unusedVariables false
set_option linter.unnecessarySimpa false
namespace Go.Proofs.YtkdcknkgfgkoaaaGreatDoor
open Go.RowKit

theorem mine_pis {w w4 : World} {g4 c4 hf : Nat} {b1 : List UInt8} (hrow : BIs w4 (.slice (some ⟨g4, 0, none⟩) b1.length c4) b1) (hg : w.heap.size ≤ g4) (hg4 : g4 < w4.heap.size) (hh : hf ≤ b1.length) {s2 : Value} (hs2 : ∀ W, W.heap[g4]? = w4.heap[g4]? → w4.heap.size ≤ W.heap.size → BIs W s2 (b1.drop hf)) {ty : TypeId} (w' : World)
    (hs : (w4.alloc (.cells #[.slice (some ⟨g4, 0, none⟩) hf c4, s2] ty)).drew.heap.size ≤ w'.heap.size) (hk : ∀ k, w.heap.size ≤ k → k < (w4.alloc (.cells #[.slice (some ⟨g4, 0, none⟩) hf c4, s2] ty)).drew.heap.size → w'.heap[k]? = (w4.alloc (.cells #[.slice (some ⟨g4, 0, none⟩) hf c4, s2] ty)).drew.heap[k]?) : PIs w' (.slice (some ⟨w4.heap.size, 0, none⟩) 2 2) [b1.take hf, b1.drop hf] := by
  have e1 : (w4.alloc (.cells #[.slice (some ⟨g4, 0, none⟩) hf c4, s2] ty)).drew.heap.size = w4.heap.size + 1 := asz _ _
  rw [e1] at hs hk
  have hA : w'.heap[w4.heap.size]? = _ := (hk w4.heap.size (by omega) (by omega)).trans (alloc_at w4 (.cells #[.slice (some ⟨g4, 0, none⟩) hf c4, s2] ty))
  have hB : w'.heap[g4]? = w4.heap[g4]? := (hk g4 hg (by omega)).trans ((below_new (w := w4) _).block g4 hg4)
  exact pair_pis hA (bis_keep (bis_upto hrow hf hh) (by omega) hB) (hs2 w' hB (by omega))

set_option maxRecDepth 100000 in
set_option maxHeartbeats 4000000 in
theorem step0 {w0 w : World} {t r : Nat} {T : Tp} {R : RTp} (h : TR w0 w t r T R) {v : Value} {n a : Int} {b : List UInt8} {ks : List Int} (hv : OpIs w0 v 0 n a b ks) : Calls Tryz.prog 11 #[.pointer (some ⟨t, 0, none⟩), .pointer (some ⟨r, 0, none⟩), v] w (StepP w0) := by
  have HRT := Lib.hid h.rlt
  have HK := Lib.hid (fun (V : World) (hV : Below w.heap.size w V) => h.keep hV)
  have HS := Lib.hid (fun W => small_any (w := W) hv)
  have HH := Lib.hid h
  obtain ⟨bv, kv, rfl, _, _⟩ := hv.form
  have HA0 := Lib.hid (alloc_at w (.cells #[.int .i64 0, .int .i64 n, .int .i64 a, bv, kv] 34))
  have HB0 := Lib.hid (below_new (w := w) (.cells #[.int .i64 0, .int .i64 n, .int .i64 a, bv, kv] 34))
  clear h hv
  go_enter Tryz.func11, Tryz.ntmps11
  go_wp2_with fail
  refine (HS.out _).mono ?_
  rintro e w1 ⟨v1, b1, ks1, rfl, hv1, hb40, hb1⟩
  obtain ⟨bv1, kv1, rfl, hB, hK⟩ := hv1.form
  have HOP := Lib.hid hv1
  have HOB := Lib.hid hB
  have HOK := Lib.hid hK
  obtain ⟨A1, d1, rfl, i1, i2, _⟩ := hB
  obtain ⟨A2, d2, rfl, j1, j2, _⟩ := hK
  have hsz : w.heap.size < (w.alloc (.cells #[.int .i64 0, .int .i64 n, .int .i64 a, bv, kv] 34)).heap.size := by rw [asz]; omega
  have bx := (hb1.block w.heap.size hsz).trans HA0.out
  have hs1 : w.heap.size < w1.heap.size := Nat.lt_of_lt_of_le hsz hb1.size
  have HBX := Lib.hid (box_put (HB0.out.trans (hb1.mono HB0.out.size)) hs1 bx (.int .i64 0) (.int .i64 n) (.int .i64 a) (.slice A1 b1.length d1) (.slice A2 ks1.length d2))
  have c0 := cell_of bx 0
  have c1 := cell_of bx 1
  have c2 := cell_of bx 2
  have c3 := cell_of bx 3
  have c4 := cell_of bx 4
  have f0 := free0 bx 0
  have f1 := free0 bx 1
  have f2 := free0 bx 2
  have f3 := free0 bx 3
  have f4 := free0 bx 4
  simp at c0 c1 c2 c3 c4
  clear hb1 bx hv1
  go_upto_region 5 with fail
  obtain ⟨W1, hW1⟩ : ∃ W1, W1 = (((((w1.setCell ⟨w.heap.size, 0, none⟩ (.int .i64 0)).setCell ⟨w.heap.size, 1, none⟩ (.int .i64 n)).setCell ⟨w.heap.size, 2, none⟩ (.int .i64 a)).setCell ⟨w.heap.size, 3, none⟩ (.slice A1 b1.length d1)).setCell ⟨w.heap.size, 4, none⟩ (.slice A2 ks1.length d2)) := ⟨_, rfl⟩
  rw [← hW1]
  rw [← hW1] at HBX
  clear hW1 HA0 HB0 c0 c1 c2 c3 c4 f0 f1 f2 f3 f4 hs1 hsz HS
  have HC1 := Lib.hid (HBX.out.c 1 _ rfl)
  have HC3 := Lib.hid (HBX.out.c 3 _ rfl)
  have c3 := cell_old HC3.out HBX.out.lt (.cells #[] 5)
  have HWB := Lib.hid (below_new (w := W1) (.cells #[] 5))
  have HASZ := Lib.hid (asz W1 (.cells #[] 5))
  have HROW := Lib.hid (row_empty W1 5)
  have HBV := Lib.hid (fun (V : World) (hV : Below W1.heap.size W1 V) => HOB.out.below ((HK.out _ HBX.out.below).below.trans (hV.mono (HK.out _ HBX.out.below).below.size)))
  have HSRC := Lib.hid ((HBV.out _ HWB.out).src)
  have H40 := Lib.hid hb40
  go_wp2_with (at_builtin; refine wpList_append_row _ _ Tryz.underlying32 rinfo5 rfl (by decide) (by decide) _ rfl _ _ 32 rfl 0 b1.length [] (bc b1) _ _ rfl rfl HROW.out HSRC.out ?_ ?_)
  · have := H40.out; omega
  intro v4 w4 hrow4 hg4 hor4
  have hbl4 : ∃ g4, v4.ownBlock = some g4 ∧ W1.heap.size ≤ g4 := by
    rcases hor4 with e | e
    · exact ⟨W1.heap.size, e, by omega⟩
    · exact ⟨_, e, by first | omega | (rw [asz]; omega)⟩
  obtain ⟨g4, eg4, hg4l⟩ := hbl4
  obtain ⟨c4, rfl⟩ := row_some hrow4 eg4
  have HB4 := Lib.hid (HWB.out.grown hg4 HWB.out.size (fun k hk => by cases hk; exact Nat.le_refl _))
  have HROW4 : Hid (RowIs w4 1 (.slice (some ⟨g4, 0, none⟩) b1.length c4) b1.length (bc b1)) := hrow4
  have HG4 : Hid (W1.heap.size ≤ g4) := hg4l
  have HG4L : Hid (g4 < w4.heap.size) := HROW4.out.lt g4 rfl
  have s1 := (HB4.out.cell (p := ⟨w.heap.size, 1, none⟩) HBX.out.lt).trans HC1.out
  have s3 := (HB4.out.cell (p := ⟨w.heap.size, 3, none⟩) HBX.out.lt).trans HC3.out
  have HS1 := Lib.hid s1
  have HS3 := Lib.hid s3
  have HMB : Hid (BIs w4 (.slice (some ⟨g4, 0, none⟩) b1.length c4) b1) := row_bis HROW4.out
  obtain ⟨Aq, cq, eq5, i5, i6, _⟩ := HMB.out
  injection eq5 with eq6 _ eq7
  subst eq7
  clear eq6 c3 hg4 hor4 eg4 hg4l hrow4
  have hh2 : (b1.length : Int).tdiv 2 = ((b1.length / 2 : Nat) : Int) := by first | rfl | simp | omega
  have h2 : b1.length / 2 ≤ b1.length := Nat.div_le_self _ _
  have h3 : b1.length / 2 = b1.length → b1.length = 0 := by omega
  have hwr : IntKind.i64.wrap ((b1.length / 2 : Nat) : Int) = ((b1.length / 2 : Nat) : Int) := by
    have := H40.out
    rw [IntKind.wrap_i64]
    omega
  have HFL : Hid ([b1.take (b1.length / 2), b1.drop (b1.length / 2)].flatten = b1) := by show _ = _; simp
  have HT := Lib.hid (fun (V : World) (hV : Below w.heap.size w V ∧ g4 < V.heap.size) hP => HH.out.app (S := fun k => k = g4) (ls := [b1.take (b1.length / 2), b1.drop (b1.length / 2)]) (A := some ⟨w4.heap.size, 0, none⟩) (m := 2) (c := 2) n (by rw [HFL.out]; have := H40.out; omega) V hV.1 (fun k hk => by have := HG4.out; have := HBX.out.lt; exact ⟨by omega, by rw [hk]; exact hV.2⟩) hP)
  rw [HFL.out] at HT
  have HD := Lib.hid (fun (V : World) (hm : Mid w0 t r R (doP (plT T) 0 n 0 b1).2 V) => (rdo0 hm.ref n 0 (HOB.out.below hm.below) (fun hne A m c e => by
    obtain ⟨A', c', e', _, _, q⟩ := HOB.out
    obtain ⟨x, hx⟩ : ∃ x, b1[0]? = some x := by cases b1 with | nil => exact absurd rfl hne | cons x _ => exact ⟨x, rfl⟩
    obtain ⟨a', ea, hlt, _⟩ := q 0 x hx
    rw [ea] at e'
    rw [e'] at e
    injection e with e _ _
    injection e with e
    have := HH.out.newR r (.inl rfl)
    rw [← e]
    omega)).mono fun e w' k => HH.out.rstep 0 n 0 b1 hm k)
  generalize (doP (plT T) 0 n 0 b1).1 = ans at *
  generalize (doP (plT T) 0 n 0 b1).2 = q at *
  generalize hh : b1.length / 2 = hf at *
  have HHF := Lib.hid h2
  have q2 : (hf : Int) ≤ (b1.length : Int) := by omega
  have q3 : hf ≤ c4 := by omega
  have hmx := i6
  unfold maxLen at hmx
  go_wp2_with fail
  by_cases hc : c4 = hf
  · have hl0 : b1.length = 0 := by have := h3; omega
    have HL0 := Lib.hid hl0
    subst hc
    have HS2 := Lib.hid (fun (W : World) (e : W.heap[g4]? = w4.heap[g4]?) (hs : w4.heap.size ≤ W.heap.size) => (by have e1 : b1.drop c4 = [] := List.drop_eq_nil_of_le (by have := HL0.out; omega); have e2 : b1.length - c4 = 0 := (by have := HL0.out; omega); rw [e1]; exact bis_zero W _ (by unfold maxLen; omega) : BIs W (.slice (some ⟨g4, 0, none⟩) 0 0) (b1.drop c4)))
    have HV : Hid (Below w.heap.size w (w4.alloc (.cells #[.slice (some ⟨g4, 0, none⟩) c4 c4, .slice (some ⟨g4, 0, none⟩) 0 0] 32)).drew ∧ g4 < (w4.alloc (.cells #[.slice (some ⟨g4, 0, none⟩) c4 c4, .slice (some ⟨g4, 0, none⟩) 0 0] 32)).drew.heap.size) := Lib.hid ⟨below_drew ((HBX.out.below.trans (HB4.out.mono HBX.out.below.size)).trans ((below_new _).mono (HBX.out.below.trans (HB4.out.mono HBX.out.below.size)).size)), Nat.lt_of_lt_of_le HG4L.out (below_new _).size⟩
    have hsz4 : (w4.alloc (.cells #[.slice (some ⟨g4, 0, none⟩) c4 c4, .slice (some ⟨g4, 0, none⟩) 0 0] 32)).drew.heap.size = w4.heap.size + 1 := asz _ _
    have hw4' : w.heap.size < w4.heap.size := Nat.lt_of_lt_of_le HBX.out.lt HB4.out.size
    have HVL : Hid (w.heap.size < (w4.alloc (.cells #[.slice (some ⟨g4, 0, none⟩) c4 c4, .slice (some ⟨g4, 0, none⟩) 0 0] 32)).drew.heap.size) := by show _ < _; rw [hsz4]; omega
    have HVS : Hid (w4.heap.size ≤ (w4.alloc (.cells #[.slice (some ⟨g4, 0, none⟩) c4 c4, .slice (some ⟨g4, 0, none⟩) 0 0] 32)).drew.heap.size) := by show _ ≤ _; rw [hsz4]; omega
    have HVB : Hid (∀ k, k < w4.heap.size → (w4.alloc (.cells #[.slice (some ⟨g4, 0, none⟩) c4 c4, .slice (some ⟨g4, 0, none⟩) 0 0] 32)).drew.heap[k]? = w4.heap[k]?) := Lib.hid (fun k hk => (below_new (w := w4) _).block k hk)
    have HV1 : Hid ((w4.alloc (.cells #[.slice (some ⟨g4, 0, none⟩) c4 c4, .slice (some ⟨g4, 0, none⟩) 0 0] 32)).drew.cell? ⟨w.heap.size, 1, none⟩ = some (.int .i64 n)) := Lib.hid ((World.cell?_of_block (a := ⟨w.heap.size, 1, none⟩) (HVB.out _ hw4')).trans HS1.out)
    clear hsz4 hw4'
    clear hl0 h3
    go_region_held (fun W => W.cell? ⟨w.heap.size, 1, none⟩ = some (.int .i64 n)) ((first | go_keep | assumption)) (first | (go_at_call 22; refine (HT.out _ HV.out (fun w' hs hk => mine_pis HMB.out (by have := HG4.out; have := HBX.out.lt; omega) HG4L.out HHF.out (fun W e hs => HS2.out W e hs) w' hs hk)).mono ?_; rintro x w5 ⟨rfl, hm, hk5, hz5⟩; have HM := Lib.hid hm; have HK5 := Lib.hid hk5; have HZ5A := Lib.hid hz5; have hcc : w5.cell? ⟨w.heap.size, 1, none⟩ = some (.int .i64 n) := (World.cell?_of_block (a := ⟨w.heap.size, 1, none⟩) (hk5 w.heap.size (Nat.le_refl _) HVL.out)).trans HV1.out))
    have HR5 : Hid (RowIs w5 1 (.slice (some ⟨g4, 0, none⟩) b1.length c4) b1.length (bc b1)) := HROW4.out.keep (Nat.le_trans HVS.out HZ5A.out) (fun g hg => by cases hg; exact (HK5.out g4 (by have := HG4.out; have := HBX.out.lt; omega) (Nat.lt_of_lt_of_le HG4L.out HVS.out)).trans (HVB.out g4 HG4L.out))
    have hw4 : w.heap.size < w4.heap.size := Nat.lt_of_lt_of_le HBX.out.lt HB4.out.size
    have HC5 : Hid (w5.cell? ⟨w.heap.size, 1, none⟩ = some (.int .i64 n) ∧ w5.cell? ⟨w.heap.size, 3, none⟩ = some (.slice A1 b1.length d1)) := Lib.hid ⟨hcc, (World.cell?_of_block (a := ⟨w.heap.size, 3, none⟩) ((HK5.out w.heap.size (Nat.le_refl _) HVL.out).trans (HVB.out _ hw4))).trans HS3.out⟩
    have HZ5 : Hid (w.heap.size < w5.heap.size) := Lib.hid (Nat.lt_of_lt_of_le HVL.out HZ5A.out)
    have k1 := HC5.out.1
    have k3 := HC5.out.2
    clear hcc hw4 s1 s3
    go_wp2_with fail
    go_loopw [45] (fun i wx => ∃ (j : Nat) (vs : List Value), j ≤ b1.length ∧ i = .int .i64 j ∧ MidG w0 (fun k => k = g4) t r R q wx ∧ RowIs wx 1 (.slice (some ⟨g4, 0, none⟩) b1.length c4) b1.length vs ∧ (∀ (q : Nat) (v : Value), vs[q]? = some v → ∃ z : Int, v = .int .u8 z) ∧ wx.cell? ⟨w.heap.size, 1, none⟩ = some (.int .i64 n) ∧ wx.cell? ⟨w.heap.size, 3, none⟩ = some (.slice A1 b1.length d1) ∧ w.heap.size < wx.heap.size) (fun i _ => b1.length - (intOf i).toNat)
    case atStart => exact ⟨0, bc b1, by omega, rfl, HM.out, HR5.out, fun p v hv => by obtain ⟨b, _, rfl⟩ := bc_at hv; exact ⟨_, rfl⟩, HC5.out.1, HC5.out.2, HZ5.out⟩
    case round =>
      obtain ⟨j, vs, hj, rfl, hm, hr8, hvs, k1, k3, hz⟩ := hrel
      have HMM := Lib.hid hm
      have HR8 := Lib.hid hr8
      have HVS := Lib.hid hvs
      have HK1 := Lib.hid k1
      have HK3 := Lib.hid k3
      have HZZ := Lib.hid hz
      clear hm hr8 hvs hz
      by_cases hlt2 : j < b1.length
      · exact absurd hlt2 (by have := HL0.out; omega)
      · obtain rfl : j = b1.length := by omega
        go_wp2_with fail
        refine (HD.out _ HMM.out.mid).mono ?_
        rintro x w6 ⟨rfl, hr6, _⟩
        obtain ⟨T', R', hh6⟩ := hr6
        have HH6 := Lib.hid hh6
        clear hh6
        go_wp2_with fail
        go_ret3
        exact ⟨t, r, T', R', rfl, HH6.out⟩
  · have HS2 := Lib.hid (fun (W : World) (e : W.heap[g4]? = w4.heap[g4]?) (hs : w4.heap.size ≤ W.heap.size) => (by have := bis_from (bis_keep HMB.out hs e) hf HHF.out; rw [add0] at this; exact this : BIs W (.slice (some ⟨g4, hf, none⟩) (b1.length - hf) (c4 - hf)) (b1.drop hf)))
    have HV : Hid (Below w.heap.size w (w4.alloc (.cells #[.slice (some ⟨g4, 0, none⟩) hf c4, .slice (some ⟨g4, hf, none⟩) (b1.length - hf) (c4 - hf)] 32)).drew ∧ g4 < (w4.alloc (.cells #[.slice (some ⟨g4, 0, none⟩) hf c4, .slice (some ⟨g4, hf, none⟩) (b1.length - hf) (c4 - hf)] 32)).drew.heap.size) := Lib.hid ⟨below_drew ((HBX.out.below.trans (HB4.out.mono HBX.out.below.size)).trans ((below_new _).mono (HBX.out.below.trans (HB4.out.mono HBX.out.below.size)).size)), Nat.lt_of_lt_of_le HG4L.out (below_new _).size⟩
    have hsz4 : (w4.alloc (.cells #[.slice (some ⟨g4, 0, none⟩) hf c4, .slice (some ⟨g4, hf, none⟩) (b1.length - hf) (c4 - hf)] 32)).drew.heap.size = w4.heap.size + 1 := asz _ _
    have hw4' : w.heap.size < w4.heap.size := Nat.lt_of_lt_of_le HBX.out.lt HB4.out.size
    have HVL : Hid (w.heap.size < (w4.alloc (.cells #[.slice (some ⟨g4, 0, none⟩) hf c4, .slice (some ⟨g4, hf, none⟩) (b1.length - hf) (c4 - hf)] 32)).drew.heap.size) := by show _ < _; rw [hsz4]; omega
    have HVS : Hid (w4.heap.size ≤ (w4.alloc (.cells #[.slice (some ⟨g4, 0, none⟩) hf c4, .slice (some ⟨g4, hf, none⟩) (b1.length - hf) (c4 - hf)] 32)).drew.heap.size) := by show _ ≤ _; rw [hsz4]; omega
    have HVB : Hid (∀ k, k < w4.heap.size → (w4.alloc (.cells #[.slice (some ⟨g4, 0, none⟩) hf c4, .slice (some ⟨g4, hf, none⟩) (b1.length - hf) (c4 - hf)] 32)).drew.heap[k]? = w4.heap[k]?) := Lib.hid (fun k hk => (below_new (w := w4) _).block k hk)
    have HV1 : Hid ((w4.alloc (.cells #[.slice (some ⟨g4, 0, none⟩) hf c4, .slice (some ⟨g4, hf, none⟩) (b1.length - hf) (c4 - hf)] 32)).drew.cell? ⟨w.heap.size, 1, none⟩ = some (.int .i64 n)) := Lib.hid ((World.cell?_of_block (a := ⟨w.heap.size, 1, none⟩) (HVB.out _ hw4')).trans HS1.out)
    clear hsz4 hw4'
    go_region_held (fun W => W.cell? ⟨w.heap.size, 1, none⟩ = some (.int .i64 n)) ((first | go_keep | assumption)) (first | (go_at_call 22; refine (HT.out _ HV.out (fun w' hs hk => mine_pis HMB.out (by have := HG4.out; have := HBX.out.lt; omega) HG4L.out HHF.out (fun W e hs => HS2.out W e hs) w' hs hk)).mono ?_; rintro x w5 ⟨rfl, hm, hk5, hz5⟩; have HM := Lib.hid hm; have HK5 := Lib.hid hk5; have HZ5A := Lib.hid hz5; have hcc : w5.cell? ⟨w.heap.size, 1, none⟩ = some (.int .i64 n) := (World.cell?_of_block (a := ⟨w.heap.size, 1, none⟩) (hk5 w.heap.size (Nat.le_refl _) HVL.out)).trans HV1.out))
    have HR5 : Hid (RowIs w5 1 (.slice (some ⟨g4, 0, none⟩) b1.length c4) b1.length (bc b1)) := HROW4.out.keep (Nat.le_trans HVS.out HZ5A.out) (fun g hg => by cases hg; exact (HK5.out g4 (by have := HG4.out; have := HBX.out.lt; omega) (Nat.lt_of_lt_of_le HG4L.out HVS.out)).trans (HVB.out g4 HG4L.out))
    have hw4 : w.heap.size < w4.heap.size := Nat.lt_of_lt_of_le HBX.out.lt HB4.out.size
    have HC5 : Hid (w5.cell? ⟨w.heap.size, 1, none⟩ = some (.int .i64 n) ∧ w5.cell? ⟨w.heap.size, 3, none⟩ = some (.slice A1 b1.length d1)) := Lib.hid ⟨hcc, (World.cell?_of_block (a := ⟨w.heap.size, 3, none⟩) ((HK5.out w.heap.size (Nat.le_refl _) HVL.out).trans (HVB.out _ hw4))).trans HS3.out⟩
    have HZ5 : Hid (w.heap.size < w5.heap.size) := Lib.hid (Nat.lt_of_lt_of_le HVL.out HZ5A.out)
    have k1 := HC5.out.1
    have k3 := HC5.out.2
    clear hcc hw4 s1 s3
    go_wp2_with fail
    go_loopw [45] (fun i wx => ∃ (j : Nat) (vs : List Value), j ≤ b1.length ∧ i = .int .i64 j ∧ MidG w0 (fun k => k = g4) t r R q wx ∧ RowIs wx 1 (.slice (some ⟨g4, 0, none⟩) b1.length c4) b1.length vs ∧ (∀ (q : Nat) (v : Value), vs[q]? = some v → ∃ z : Int, v = .int .u8 z) ∧ wx.cell? ⟨w.heap.size, 1, none⟩ = some (.int .i64 n) ∧ wx.cell? ⟨w.heap.size, 3, none⟩ = some (.slice A1 b1.length d1) ∧ w.heap.size < wx.heap.size) (fun i _ => b1.length - (intOf i).toNat)
    case atStart => exact ⟨0, bc b1, by omega, rfl, HM.out, HR5.out, fun p v hv => by obtain ⟨b, _, rfl⟩ := bc_at hv; exact ⟨_, rfl⟩, HC5.out.1, HC5.out.2, HZ5.out⟩
    case round =>
      obtain ⟨j, vs, hj, rfl, hm, hr8, hvs, k1, k3, hz⟩ := hrel
      have HMM := Lib.hid hm
      have HR8 := Lib.hid hr8
      have HVS := Lib.hid hvs
      have HK1 := Lib.hid k1
      have HK3 := Lib.hid k3
      have HZZ := Lib.hid hz
      clear hm hr8 hvs hz
      by_cases hlt2 : j < b1.length
      · obtain ⟨g8, u8, e8, hg8, hf8, hv8, hc8⟩ := row_at HR8.out hlt2
        cases e8
        obtain ⟨z, rfl⟩ := HVS.out j u8 hv8
        have HJ := Lib.hid hlt2
        replace hlt2 : (j : Int) < (b1.length : Int) := by omega
        clear hv8 k1 k3
        go_wp2_with fail
        go_roundw
        case rel =>
          have hG4 := HG4.out
          have hW := HBX.out.lt
          refine ⟨j + 1, _, by have := HJ.out; omega, by go_num, HMM.out.touch ((Touch.refl (fun k => k = g4) _).setCell ⟨g4, j, none⟩ (fun _ => rfl) _), row_set HR8.out HJ.out _, fun p v hv => ?_, (World.cell?_setCell_other _ _ _ _ (by intro e; injection e with e _; omega)).trans HK1.out, (World.cell?_setCell_other _ _ _ _ (by intro e; injection e with e _; omega)).trans HK3.out, by rw [setCell_sz]; exact HZZ.out⟩
          rw [List.getElem?_set] at hv
          split at hv
          · split at hv
            · obtain rfl := Option.some.inj hv
              exact ⟨_, rfl⟩
            · cases hv
          · exact HVS.out p v hv
        case measure => simp [intOf]; omega
      · obtain rfl : j = b1.length := by omega
        go_wp2_with fail
        refine (HD.out _ HMM.out.mid).mono ?_
        rintro x w6 ⟨rfl, hr6, _⟩
        obtain ⟨T', R', hh6⟩ := hr6
        have HH6 := Lib.hid hh6
        clear hh6
        go_wp2_with fail
        go_ret3
        exact ⟨t, r, T', R', rfl, HH6.out⟩
end Go.Proofs.YtkdcknkgfgkoaaaGreatDoor
