/- The tape: what reads it; New and Room; calls of a tape that is not there. -/
import Derived.Test.YtojmfjmnfpnmmaaDoorTapJ
set_option linter.unusedSimpArgs false
set_option linter.unusedVariables false
set_option linter.unnecessarySimpa false
namespace Go.Proofs.YtojmfjmnfpnmmaaDoor
open Go.RowKit

theorem RowIs.bis {w : World} {v : Value} {l : List UInt8} (h : RowIs w 1 v l.length (bc l)) : BIs w v l := by
  obtain ⟨A, cap, rfl, h1, h2, h3, h4, h5⟩ := h.form
  refine ⟨A, cap, rfl, h1, h2, fun i b hi => ?_⟩
  obtain ⟨g, rfl, hc⟩ := h5 i _ (bc_some hi)
  obtain ⟨g', e, hg'⟩ := h4 _ rfl
  cases e
  exact ⟨_, rfl, h.lt _ hg', by rw [add0]; exact hc⟩

set_option maxRecDepth 100000 in
theorem len_nil {w : World} (seg : Int) : Calls Tryd.prog 20 #[.pointer none, .int .i64 seg] w fun e w' => e = .returned (.int .i64 0) ∧ Below w.heap.size w w' := by
  have HL := Lib.hid (look_nil' (w := w) seg)
  skip
  go_enter Tryd.func20, Tryd.ntmps20
  go_wp2_with fail
  refine (HL.out).mono ?_
  rintro e w1 ⟨v1, rfl, h1⟩
  have HB := Lib.hid h1.below
  obtain ⟨tt, uu, rfl⟩ := h1.form (by decide)
  clear h1
  go_wp2
  go_ret
  exact ⟨rfl, HB.out⟩
set_option maxRecDepth 100000 in
theorem len_no {w : World} (t : Nat) {seg : Int} (hn : nameB seg = false) : Calls Tryd.prog 20 #[.pointer (some ⟨t, 0, none⟩), .int .i64 seg] w fun e w' => e = .returned (.int .i64 0) ∧ Below w.heap.size w w' := by
  have HL := Lib.hid (look_no (w := w) t hn)
  clear hn
  go_enter Tryd.func20, Tryd.ntmps20
  go_wp2_with fail
  refine (HL.out).mono ?_
  rintro e w1 ⟨v1, rfl, h1⟩
  have HB := Lib.hid h1.below
  obtain ⟨tt, uu, rfl⟩ := h1.form (by decide)
  clear h1
  go_wp2
  go_ret
  exact ⟨rfl, HB.out⟩
set_option maxRecDepth 100000 in
theorem len_miss {w : World} {t : Nat} {T : Tp} (hT : TapeAt w t T) {seg : Int} (hn : nameB seg = true) (hL : ∀ e ∈ T.L, e.n ≠ seg) : Calls Tryd.prog 20 #[.pointer (some ⟨t, 0, none⟩), .int .i64 seg] w fun e w' => e = .returned (.int .i64 0) ∧ Below w.heap.size w w' := by
  have HL := Lib.hid (look_miss hT hn hL)
  clear hn hL hT
  go_enter Tryd.func20, Tryd.ntmps20
  go_wp2_with fail
  refine (HL.out).mono ?_
  rintro e w1 ⟨v1, rfl, h1⟩
  have HB := Lib.hid h1.below
  obtain ⟨tt, uu, rfl⟩ := h1.form (by decide)
  clear h1
  go_wp2
  go_ret
  exact ⟨rfl, HB.out⟩
set_option maxRecDepth 100000 in
theorem len_hit {w : World} {t : Nat} {T : Tp} (hT : TapeAt w t T) {seg : Int} (hn : nameB seg = true) {j : Nat} {e : Ent} (hj : T.L[j]? = some e) (he : e.n = seg) : Calls Tryd.prog 20 #[.pointer (some ⟨t, 0, none⟩), .int .i64 seg] w fun x w' => x = .returned (.int .i64 (e.b.length : Nat)) ∧ w = w' := by
  have HL := Lib.hid (look_hit hT hn hj he)
  have hs := hT.segs e (List.mem_of_getElem? hj)
  obtain ⟨A, cap, ev, _⟩ := hs.row.form
  have hc := cell_of hs.head 0
  replace hc : w.cell? ⟨e.sb, 0, none⟩ = some (.slice A e.b.length cap) := by rw [hc]; first | rfl | (rw [ev]; rfl)
  clear hT hn hj he hs ev
  go_enter Tryd.func20, Tryd.ntmps20
  go_wp2_with fail
  refine (HL.out).mono ?_
  rintro x w1 ⟨rfl, rfl⟩
  go_wp2
  go_ret
  exact ⟨rfl, rfl⟩
set_option maxRecDepth 100000 in
theorem synced_nil {w : World} (seg : Int) : Calls Tryd.prog 21 #[.pointer none, .int .i64 seg] w fun e w' => e = .returned (.int .i64 0) ∧ Below w.heap.size w w' := by
  have HL := Lib.hid (look_nil' (w := w) seg)
  skip
  go_enter Tryd.func21, Tryd.ntmps21
  go_wp2_with fail
  refine (HL.out).mono ?_
  rintro e w1 ⟨v1, rfl, h1⟩
  have HB := Lib.hid h1.below
  obtain ⟨tt, uu, rfl⟩ := h1.form (by decide)
  clear h1
  go_wp2
  go_ret
  exact ⟨rfl, HB.out⟩
set_option maxRecDepth 100000 in
theorem synced_no {w : World} (t : Nat) {seg : Int} (hn : nameB seg = false) : Calls Tryd.prog 21 #[.pointer (some ⟨t, 0, none⟩), .int .i64 seg] w fun e w' => e = .returned (.int .i64 0) ∧ Below w.heap.size w w' := by
  have HL := Lib.hid (look_no (w := w) t hn)
  clear hn
  go_enter Tryd.func21, Tryd.ntmps21
  go_wp2_with fail
  refine (HL.out).mono ?_
  rintro e w1 ⟨v1, rfl, h1⟩
  have HB := Lib.hid h1.below
  obtain ⟨tt, uu, rfl⟩ := h1.form (by decide)
  clear h1
  go_wp2
  go_ret
  exact ⟨rfl, HB.out⟩
set_option maxRecDepth 100000 in
theorem synced_miss {w : World} {t : Nat} {T : Tp} (hT : TapeAt w t T) {seg : Int} (hn : nameB seg = true) (hL : ∀ e ∈ T.L, e.n ≠ seg) : Calls Tryd.prog 21 #[.pointer (some ⟨t, 0, none⟩), .int .i64 seg] w fun e w' => e = .returned (.int .i64 0) ∧ Below w.heap.size w w' := by
  have HL := Lib.hid (look_miss hT hn hL)
  clear hn hL hT
  go_enter Tryd.func21, Tryd.ntmps21
  go_wp2_with fail
  refine (HL.out).mono ?_
  rintro e w1 ⟨v1, rfl, h1⟩
  have HB := Lib.hid h1.below
  obtain ⟨tt, uu, rfl⟩ := h1.form (by decide)
  clear h1
  go_wp2
  go_ret
  exact ⟨rfl, HB.out⟩
set_option maxRecDepth 100000 in
theorem synced_hit {w : World} {t : Nat} {T : Tp} (hT : TapeAt w t T) {seg : Int} (hn : nameB seg = true) {j : Nat} {e : Ent} (hj : T.L[j]? = some e) (he : e.n = seg) : Calls Tryd.prog 21 #[.pointer (some ⟨t, 0, none⟩), .int .i64 seg] w fun x w' => x = .returned (.int .i64 (e.s : Nat)) ∧ w = w' := by
  have HL := Lib.hid (look_hit hT hn hj he)
  have hs := hT.segs e (List.mem_of_getElem? hj)
  obtain ⟨A, cap, ev, _⟩ := hs.row.form
  have hc := cell_of hs.head 1
  replace hc : w.cell? ⟨e.sb, 1, none⟩ = some (.int .i64 (e.s : Int)) := by rw [hc]; first | rfl | (rw [ev]; rfl)
  clear hT hn hj he hs ev
  go_enter Tryd.func21, Tryd.ntmps21
  go_wp2_with fail
  refine (HL.out).mono ?_
  rintro x w1 ⟨rfl, rfl⟩
  go_wp2
  go_ret
  exact ⟨rfl, rfl⟩
set_option maxRecDepth 100000 in
theorem read_nil {w : World} (hG : Glob w) (seg : Int) : Calls Tryd.prog 16 #[.pointer none, .int .i64 seg] w fun e w' => e = .returned (.tuple #[.slice none 0 0, .int .i64 1]) ∧ Below w.heap.size w w' := by
  have HL := Lib.hid (look_nil' (w := w) seg)
  have HG := Lib.hid hG
  clear hG 
  go_enter Tryd.func16, Tryd.ntmps16
  go_wp2_with fail
  refine (HL.out).mono ?_
  rintro e w1 ⟨v1, rfl, h1⟩
  have HB := Lib.hid h1.below
  have HC := Lib.hid (code_of HG.out h1 (Below.refl _ _))
  obtain ⟨tt, uu, rfl⟩ := h1.form (by decide)
  clear h1
  go_wp2_with fail
  refine (HC.out).mono ?_
  rintro e w2 ⟨rfl, hb2⟩
  have HB2 := Lib.hid (HB.out.trans (hb2.mono HB.out.size))
  clear hb2
  go_wp2
  go_ret2
  exact ⟨rfl, HB2.out⟩
set_option maxRecDepth 100000 in
theorem read_no {w : World} (hG : Glob w) (t : Nat) {seg : Int} (hn : nameB seg = false) : Calls Tryd.prog 16 #[.pointer (some ⟨t, 0, none⟩), .int .i64 seg] w fun e w' => e = .returned (.tuple #[.slice none 0 0, .int .i64 2]) ∧ Below w.heap.size w w' := by
  have HL := Lib.hid (look_no (w := w) t hn)
  have HG := Lib.hid hG
  clear hG hn
  go_enter Tryd.func16, Tryd.ntmps16
  go_wp2_with fail
  refine (HL.out).mono ?_
  rintro e w1 ⟨v1, rfl, h1⟩
  have HB := Lib.hid h1.below
  have HC := Lib.hid (code_of HG.out h1 (Below.refl _ _))
  obtain ⟨tt, uu, rfl⟩ := h1.form (by decide)
  clear h1
  go_wp2_with fail
  refine (HC.out).mono ?_
  rintro e w2 ⟨rfl, hb2⟩
  have HB2 := Lib.hid (HB.out.trans (hb2.mono HB.out.size))
  clear hb2
  go_wp2
  go_ret2
  exact ⟨rfl, HB2.out⟩
set_option maxRecDepth 100000 in
theorem read_miss {w : World} (hG : Glob w) {t : Nat} {T : Tp} (hT : TapeAt w t T) {seg : Int} (hn : nameB seg = true) (hL : ∀ e ∈ T.L, e.n ≠ seg) : Calls Tryd.prog 16 #[.pointer (some ⟨t, 0, none⟩), .int .i64 seg] w fun e w' => e = .returned (.tuple #[.slice none 0 0, .int .i64 3]) ∧ Below w.heap.size w w' := by
  have HL := Lib.hid (look_miss hT hn hL)
  have HG := Lib.hid hG
  clear hG hn hL hT
  go_enter Tryd.func16, Tryd.ntmps16
  go_wp2_with fail
  refine (HL.out).mono ?_
  rintro e w1 ⟨v1, rfl, h1⟩
  have HB := Lib.hid h1.below
  have HC := Lib.hid (code_of HG.out h1 (Below.refl _ _))
  obtain ⟨tt, uu, rfl⟩ := h1.form (by decide)
  clear h1
  go_wp2_with fail
  refine (HC.out).mono ?_
  rintro e w2 ⟨rfl, hb2⟩
  have HB2 := Lib.hid (HB.out.trans (hb2.mono HB.out.size))
  clear hb2
  go_wp2
  go_ret2
  exact ⟨rfl, HB2.out⟩
set_option maxRecDepth 100000 in
theorem read_hit {w : World} {t : Nat} {T : Tp} (hT : TapeAt w t T) {seg : Int} (hn : nameB seg = true) {j : Nat} {e : Ent} (hj : T.L[j]? = some e) (he : e.n = seg) : Calls Tryd.prog 16 #[.pointer (some ⟨t, 0, none⟩), .int .i64 seg] w fun x w' => ∃ v, x = .returned (.tuple #[v, .int .i64 0]) ∧ OwnBy w' w.heap.size v e.b ∧ Below w.heap.size w w' := by
  have HL := Lib.hid (look_hit hT hn hj he)
  have hin := List.mem_of_getElem? hj
  have hs := hT.segs e hin
  have hu := used_mem hin
  have hu2 := hT.used
  have HC := Lib.hid (clone_any hs.row.bis (by omega))
  obtain ⟨A, cap, ev, _⟩ := hs.row.form
  have hc := cell_of hs.head 0
  replace hc : w.cell? ⟨e.sb, 0, none⟩ = some (.slice A e.b.length cap) := by rw [hc, ← ev]; rfl
  rw [ev] at HC
  clear hT hn hj he hs ev hin hu hu2
  go_enter Tryd.func16, Tryd.ntmps16
  go_wp2_with fail
  refine (HL.out).mono ?_
  rintro x w1 ⟨rfl, rfl⟩
  go_wp2_with fail
  refine (HC.out).mono ?_
  rintro x w2 ⟨v2, rfl, ho, hb⟩
  have H := Lib.hid (And.intro ho hb)
  obtain ⟨A2, c2, rfl, _⟩ := ho.bis
  clear ho hb
  go_wp2
  go_ret2
  exact ⟨_, rfl, H.out.1, H.out.2⟩
set_option maxRecDepth 100000 in
theorem used_nil {w : World} : Calls Tryd.prog 22 #[.pointer none] w fun e w' => e = .returned (.int .i64 0) ∧ w = w' := by
  go_enter Tryd.func22, Tryd.ntmps22
  go_wp2_with fail
  go_ret
  exact ⟨rfl, rfl⟩
set_option maxRecDepth 100000 in
theorem free_nil {w : World} : Calls Tryd.prog 23 #[.pointer none] w fun e w' => e = .returned (.int .i64 0) ∧ w = w' := by
  go_enter Tryd.func23, Tryd.ntmps23
  go_wp2_with fail
  go_ret
  exact ⟨rfl, rfl⟩
set_option maxRecDepth 100000 in
theorem down_nil {w : World} : Calls Tryd.prog 24 #[.pointer none] w fun e w' => e = .returned (.bool false) ∧ w = w' := by
  go_enter Tryd.func24, Tryd.ntmps24
  go_wp2_with fail
  go_ret
  exact ⟨rfl, rfl⟩
set_option maxRecDepth 100000 in
theorem segs_nil {w : World} : Calls Tryd.prog 13 #[.pointer none] w fun e w' => e = .returned (.slice none 0 0) ∧ w = w' := by
  go_enter Tryd.func13, Tryd.ntmps13
  go_wp2_with fail
  go_ret
  exact ⟨rfl, rfl⟩
set_option maxRecDepth 100000 in
theorem fuse_nil {w : World} (n : Int) : Calls Tryd.prog 15 #[.pointer none, .int .i64 n] w fun e w' => e = .returned (.tuple #[]) ∧ w = w' := by
  go_enter Tryd.func15, Tryd.ntmps15
  go_wp2_with fail
  first | go_end0 | (refine bodyPost_ret (v := .tuple #[]) (by simp [results, Tryd.results15, go_sem]) rfl ?_)
  exact ⟨rfl, rfl⟩
set_option maxRecDepth 100000 in
theorem crash_nil {w : World} (v : Value) : Calls Tryd.prog 25 #[.pointer none, v] w fun e w' => e = .returned (.pointer none) ∧ w = w' := by
  go_enter Tryd.func25, Tryd.ntmps25
  go_wp2_with fail
  go_ret
  exact ⟨rfl, rfl⟩
set_option maxRecDepth 100000 in
theorem room_nil {w : World} (n : Int) : Calls Tryd.prog 19 #[.pointer none, .int .i64 n] w fun e w' => e = .returned (.int .i64 1) ∧ w = w' := by
  go_enter Tryd.func19, Tryd.ntmps19
  go_wp2_with fail
  go_ret
  exact ⟨rfl, rfl⟩
set_option maxRecDepth 100000 in
theorem room_ok {w : World} {t : Nat} {T : Tp} (hT : TapeAt w t T) {n : Nat} (hn : n ≤ 1048576) : Calls Tryd.prog 19 #[.pointer (some ⟨t, 0, none⟩), .int .i64 (n : Int)] w fun e w' => e = .returned (.int .i64 0) ∧ w.setCell ⟨t, 1, none⟩ (.int .i64 (n : Int)) = w' := by
  have HU := Lib.hid (upto_ok (w := w) (most := 1048576) (n := (n : Int)) (by omega) (by omega))
  have hc : w.cell? ⟨t, 1, none⟩ = some (.int .i64 (T.room : Int)) := cell_of hT.head 1
  have hf : w.frozen? ⟨t, 1, none⟩ = false := free0 hT.head 1
  clear hT hn
  go_enter Tryd.func19, Tryd.ntmps19
  go_wp2_with fail
  refine (HU.out).mono ?_
  rintro e w1 ⟨rfl, rfl⟩
  go_wp2
  go_ret
  exact ⟨rfl, rfl⟩
/-- A tape without segments. -/
def newT (n : Nat) : Tp := ⟨none, [], 0, n, false, 0, false⟩
theorem newT_at (w : World) {n : Nat} (hn : n ≤ 1048576) : TapeAt (w.alloc (.cells #[.map none, .int .i64 (n : Int), .bool false, .int .i64 0, .bool false] 56)) w.heap.size (newT n) :=
  ⟨alloc_at w _, rfl, (fun e he => by cases he), .nil _, Nat.zero_le 64, Nat.zero_le _, hn, Nat.zero_le _⟩
set_option maxRecDepth 100000 in
theorem new_ok {w : World} {n : Nat} (hn : n ≤ 1048576) : Calls Tryd.prog 10 #[.int .i64 (n : Int)] w fun e w' => e = .returned (.tuple #[.pointer (some ⟨w.heap.size, 0, none⟩), .int .i64 0]) ∧ TapeAt w' w.heap.size (newT n) ∧ Below w.heap.size w w' := by
  have h0 := newT_at w (n := 0) (by omega)
  have HR := Lib.hid (room_ok h0 hn)
  have HN := Lib.hid hn
  clear h0 hn
  go_enter Tryd.func10, Tryd.ntmps10
  go_wp2_with fail
  refine (HR.out).mono ?_
  rintro e w1 ⟨rfl, rfl⟩
  go_wp2
  go_ret2
  exact ⟨rfl, newT_at w HN.out, below_new _⟩
end Go.Proofs.YtojmfjmnfpnmmaaDoor
