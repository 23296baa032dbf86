/- slices.DeleteFunc, walked. -/
import Derived.Test.YtmaokoekbjjgfaaDoorZChbD
set_option linter.unusedSimpArgs false
set_option linter.unusedVariables false
set_option linter.unnecessarySimpa false
namespace Go.Proofs.YtmaokoekbjjgfaaDoor
open Go.RowKit Go.Shelf

theorem RowC.has {w : World} {g cap : Nat} {M : List Ver} {j : Nat} {u : Ver} (h : RowC w 5 g cap (verC M)) (hu : M[j]? = some u) : w.cell? ⟨g, j * 5, none⟩ = some (.int .i64 u.at_) ∧ w.cell? ⟨g, j * 5 + 1, none⟩ = some (.int .i64 u.n) ∧ w.cell? ⟨g, j * 5 + 2, none⟩ = some (.bool u.there) ∧ w.cell? ⟨g, j * 5 + 3, none⟩ = some (.int .i64 u.read) ∧ w.cell? ⟨g, j * 5 + 4, none⟩ = some (.bool u.opn) := by
  have hg := verC_get hu
  exact ⟨h.holds _ _ (hg 0 (by omega)), h.holds _ _ (hg 1 (by omega)), h.holds _ _ (hg 2 (by omega)), h.holds _ _ (hg 3 (by omega)), h.holds _ _ (hg 4 (by omega))⟩
set_option maxRecDepth 100000 in
set_option maxHeartbeats 1600000 in
theorem delete_func {w : World} {L : List Ver} {g cap b : Nat} {last : Int} (h : RowC w 5 g cap (verC L)) (hn : L.length ≤ cap) (hl : L.length ≤ 1000000) (hb : w.cell? ⟨b, 0, none⟩ = some (.int .i64 last)) (hbg : b ≠ g) :
    Calls Tryd.prog 34 #[.slice (some ⟨g, 0, none⟩) L.length cap, .func (.func 35) #[] #[.pointer (some ⟨b, 0, none⟩)]] w fun e w' => e = .returned (.slice (some ⟨g, 0, none⟩) (keepV last L).length cap) ∧ RowC w' 5 g cap (verC (keepV last L)) ∧ Touch (fun k => k = g) w w' := by
  have hlI : (L.length : Int) ≤ 1000000 := by omega
  have hnI : (L.length : Int) ≤ (cap : Int) := by omega
  have hbl : b < w.heap.size := World.block_lt_of_cell? _ _ hb
  have hrow : RowIs w 5 (.slice (some ⟨g, 0, none⟩) L.length cap) L.length (verC L) := .inr ⟨g, cap, rfl, verC_len L, hn, h⟩
  have HI := Lib.hid (index_any (b := b) (last := last) hrow hl hb)
  have HR := Lib.hid h
  have HBC := Lib.hid hb
  have HBL := Lib.hid hbl
  have HN := Lib.hid hn
  clear h hb hbl hrow
  go_enter Tryd.func34, Tryd.ntmps34
  go_wp2_with fail
  refine (HI.out).mono ?_
  rintro e w1 ⟨r, rfl, hb1, (⟨rfl, hall⟩ | ⟨k, hk, rfl, hk1, hk2⟩)⟩
  · have HB1 := Lib.hid hb1
    have HA : Hid (keepV last L = L) := Lib.hid (by
      unfold keepV
      exact List.filter_eq_self.2 (fun v hv => by rw [hall v hv]; rfl))
    clear hb1 hall HI
    go_wp2_with fail
    go_ret
    rw [HA.out]
    exact ⟨rfl, HR.out.keep HB1.out.size (HB1.out.block g HR.out.lt), .of_below HB1.out⟩
  · have HS := Lib.hid (DelP.start hk hk1 hk2)
    have HB1 := Lib.hid hb1
    have hkI : (k : Int) < (L.length : Int) := by omega
    have q0 : ((k : Int) == -1) = false := by simp
    clear hk1 hk2 hb1 HI
    go_wp2_with fail
    go_loopw [5, 6] (fun iv jv wr => ∃ (i j : Nat) (M : List Ver), iv = .int .i64 i ∧ jv = .int .i64 j ∧ DelP last L M i j ∧ RowC wr 5 g cap (verC M) ∧ Touch (fun k => k = g) w wr) (fun _ jv _ => L.length - (intOf jv).toNat)
    case atStart => exact ⟨k, k + 1, L, rfl, by go_num, HS.out, HR.out.keep HB1.out.size (HB1.out.block g HR.out.lt), .of_below HB1.out⟩
    case round =>
      obtain ⟨i, j, M, rfl, rfl, hD, hrw, hT⟩ := hrel
      have HD := Lib.hid hD
      have HRW := Lib.hid hrw
      have HT := Lib.hid hT
      have hij := hD.lt
      have hjl := hD.le
      have hijI : (i : Int) < (j : Int) := by omega
      by_cases hlt : j < L.length
      · have hx : L[j]? = some L[j] := List.getElem?_eq_getElem hlt
        generalize L[j] = y at hx
        have hxM : M[j]? = some y := (hD.back j (Nat.le_refl _)).trans hx
        obtain ⟨c0, c1, c2, c3, c4⟩ := hrw.has hxM
        have hjI : (j : Int) < (L.length : Int) := by omega
        have hbw : wr.cell? ⟨b, 0, none⟩ = some (.int .i64 last) := (World.cell?_of_block (a := ⟨b, 0, none⟩) (hT.block b HBL.out hbg)).trans HBC.out
        have hbn := below_new (w := wr) (.cells #[.int .i64 y.at_, .int .i64 y.n, .bool y.there, .int .i64 y.read, .bool y.opn] 47)
        have hbl2 : b < wr.heap.size := World.block_lt_of_cell? _ _ hbw
        have HG := Lib.hid (gone_any y ((hbn.cell (p := ⟨b, 0, none⟩) hbl2).trans hbw))
        have HBN := Lib.hid hbn
        have HX := Lib.hid hx
        have HLT := Lib.hid hlt
        have HIJ := Lib.hid hij
        clear hx hxM hD hrw hT hbw hbn hbl2 hlt hij hjl
        cases hgn : goneV last y with
        | true =>
          rw [hgn] at HG
          have HGN := Lib.hid hgn
          clear hgn
          go_wp2_with fail
          refine (HG.out).mono ?_
          rintro e w2 ⟨rfl, hb2⟩
          have HB2 := Lib.hid (HBN.out.trans (hb2.mono HBN.out.size))
          clear hb2 HG
          go_wp2_with fail
          go_roundw
          case rel => exact ⟨i, j + 1, M, rfl, by go_num, HD.out.skip HX.out HGN.out, HRW.out.keep HB2.out.size (HB2.out.block g HRW.out.lt), HT.out.after HB2.out⟩
          case measure => have := HLT.out; simp [intOf]; omega
        | false =>
          rw [hgn] at HG
          have HGN := Lib.hid hgn
          clear hgn
          go_wp2_with fail
          refine (HG.out).mono ?_
          rintro e w2 ⟨rfl, hb2⟩
          have hz := (hb2.block wr.heap.size (by rw [asz]; omega)).trans (alloc_at wr (.cells #[.int .i64 y.at_, .int .i64 y.n, .bool y.there, .int .i64 y.read, .bool y.opn] 47))
          have z0 : w2.cell? ⟨wr.heap.size, 0, none⟩ = some (.int .i64 y.at_) := cell_of hz 0
          have z1 : w2.cell? ⟨wr.heap.size, 1, none⟩ = some (.int .i64 y.n) := cell_of hz 1
          have z2 : w2.cell? ⟨wr.heap.size, 2, none⟩ = some (.bool y.there) := cell_of hz 2
          have z3 : w2.cell? ⟨wr.heap.size, 3, none⟩ = some (.int .i64 y.read) := cell_of hz 3
          have z4 : w2.cell? ⟨wr.heap.size, 4, none⟩ = some (.bool y.opn) := cell_of hz 4
          have hb3 := HBN.out.trans (hb2.mono HBN.out.size)
          have hrw2 := HRW.out.keep hb3.size (hb3.block g HRW.out.lt)
          have hiM : i < M.length := by have := HD.out.len; have := HIJ.out; have := HLT.out; omega
          have hxi : M[i]? = some (M[i]'hiM) := List.getElem?_eq_getElem hiM
          generalize M[i]'hiM = yi at hxi
          obtain ⟨d0, d1, d2, d3, d4⟩ := hrw2.has hxi
          have hth : ∀ n, n < 5 → w2.frozen? ⟨g, i * 5 + n, none⟩ = false := fun n hn5 => (hrw2.there _ (by have := hrw2.le; rw [verC_len] at this; omega)).2
          have f0 := hth 0 (by omega)
          have f1 := hth 1 (by omega)
          have f2 := hth 2 (by omega)
          have f3 := hth 3 (by omega)
          have f4 := hth 4 (by omega)
          rw [Nat.add_zero] at f0
          have hiI : (i : Int) < (L.length : Int) := by omega
          have HR3 : Hid (RowC (put5 w2 g (i * 5) (.int .i64 y.at_) (.int .i64 y.n) (.bool y.there) (.int .i64 y.read) (.bool y.opn)) 5 g cap (verC (M.set i y))) := Lib.hid (hrw2.setV5 hiM)
          have HT3 : Hid (Touch (fun k => k = g) w (put5 w2 g (i * 5) (.int .i64 y.at_) (.int .i64 y.n) (.bool y.there) (.int .i64 y.read) (.bool y.opn))) := Lib.hid ((HT.out.after hb3).trans (put5_own w2 g (i * 5) _ _ _ _ _) (fun _ _ e => e))
          clear hb2 HG hz hb3 hrw2 hiM hth hxi
          go_wp2_with fail
          go_roundw
          case rel => exact ⟨i + 1, j + 1, M.set i y, by go_num, by go_num, HD.out.take HX.out HGN.out, HR3.out, HT3.out⟩
          case measure => have := HLT.out; simp [intOf]; omega
      · obtain rfl : j = L.length := by omega
        obtain ⟨hm1, hm2⟩ := hD.done
        have hle := hrw.le
        rw [verC_len, hD.len] at hle
        obtain ⟨zs, hzl, hclr⟩ := clear_many (W := wr) (g := g) (p := i * 5) (c := cap - i) (n := L.length - i) 0 (by omega) (fun n hn5 => hrw.there _ (by omega))
        have hfin := hrw.cut (i := i) (by rw [hD.len]; omega) zs (by rw [hD.len]; exact hzl)
        rw [hm1] at hfin
        have hk1 := World.keptBut_setCells g (may := fun p => p.block = g) zs (i * 5) wr (fun _ _ => rfl)
        have HF := Lib.hid (And.intro hfin (hT.trans (T := fun k => k = g) ⟨hk1.1, (setCells_tape _ _ _ wr).1, hk1.2.1, Nat.le_of_eq (setCells_tape _ _ _ wr).2.symm, fun k hk hne => hk1.block hk (fun p hp e => hne (by rw [← e, hp]))⟩ (fun _ _ e => e)))
        have HM2 := Lib.hid hm2
        have hiI : (i : Int) ≤ (L.length : Int) := by omega
        have hcI : (cap = i) = False := eq_false (by omega)
        have hciI : (i : Int) ≤ (cap : Int) := by omega
        clear hD hrw hT hlt hm1 hm2 hle hzl hfin hk1 hij hjl HD HRW HT
        go_wp2_with fail
        go_ret
        rw [← HM2.out]
        exact ⟨rfl, HF.out.1, HF.out.2⟩
end Go.Proofs.YtmaokoekbjjgfaaDoor
