/- The tape: what reads it; New and Room; calls of a tape that is not there. The tape: Sync, Trim and Drop. The tape: Drop. The tape: what is wrong with Sync and Trim; a spent fuse; Fuse. The tape: Fuse. -/
import Derived.Test.YtnegnokielmgkaaGreatDoorZTapI
set_option linter.unusedSimpArgs false
set_option linter.unusedVariables false
set_option linter.unnecessarySimpa false
namespace Go.Proofs.YtnegnokielmgkaaGreatDoor
open Go.RowKit

theorem RowIs.bis {w : World} {v : Value} {l : List UInt8} (h : RowIs w 1 v l.length (bc l)) : BIs w v l := by
  obtain ⟨A, cap, rfl, h1, h2, h3, h4, h5⟩ := h.form
  refine ⟨A, cap, rfl, h1, h2, fun i b hi => ?_⟩
  obtain ⟨g, rfl, hc⟩ := h5 i _ (bc_some hi)
  obtain ⟨g', e, hg'⟩ := h4 _ rfl
  cases e
  exact ⟨_, rfl, h.lt _ hg', by rw [add0]; exact hc⟩

set_option maxRecDepth 100000 in
theorem len_nil {w : World} (seg : Int) : Calls Tryz.prog 14 #[.pointer none, .int .i64 seg] w fun e w' => e = .returned (.int .i64 0) ∧ Below w.heap.size w w' := by
  have HL := Lib.hid (look_nil' (w := w) seg)
  skip
  go_enter Tryz.func14, Tryz.ntmps14
  go_wp2_with fail
  refine (HL.out).mono ?_
  rintro e w1 ⟨v1, rfl, h1⟩
  have HB := Lib.hid h1.below
  obtain ⟨tt, uu, rfl⟩ := h1.form (by decide)
  clear h1
  go_wp2
  go_ret
  exact ⟨rfl, HB.out⟩
set_option maxRecDepth 100000 in
theorem len_no {w : World} (t : Nat) {seg : Int} (hn : nameB seg = false) : Calls Tryz.prog 14 #[.pointer (some ⟨t, 0, none⟩), .int .i64 seg] w fun e w' => e = .returned (.int .i64 0) ∧ Below w.heap.size w w' := by
  have HL := Lib.hid (look_no (w := w) t hn)
  clear hn
  go_enter Tryz.func14, Tryz.ntmps14
  go_wp2_with fail
  refine (HL.out).mono ?_
  rintro e w1 ⟨v1, rfl, h1⟩
  have HB := Lib.hid h1.below
  obtain ⟨tt, uu, rfl⟩ := h1.form (by decide)
  clear h1
  go_wp2
  go_ret
  exact ⟨rfl, HB.out⟩
set_option maxRecDepth 100000 in
theorem len_miss {w : World} {t : Nat} {T : Tp} (hT : TapeAt w t T) {seg : Int} (hn : nameB seg = true) (hL : ∀ e ∈ T.L, e.n ≠ seg) : Calls Tryz.prog 14 #[.pointer (some ⟨t, 0, none⟩), .int .i64 seg] w fun e w' => e = .returned (.int .i64 0) ∧ Below w.heap.size w w' := by
  have HL := Lib.hid (look_miss hT hn hL)
  clear hn hL hT
  go_enter Tryz.func14, Tryz.ntmps14
  go_wp2_with fail
  refine (HL.out).mono ?_
  rintro e w1 ⟨v1, rfl, h1⟩
  have HB := Lib.hid h1.below
  obtain ⟨tt, uu, rfl⟩ := h1.form (by decide)
  clear h1
  go_wp2
  go_ret
  exact ⟨rfl, HB.out⟩
set_option maxRecDepth 100000 in
theorem len_hit {w : World} {t : Nat} {T : Tp} (hT : TapeAt w t T) {seg : Int} (hn : nameB seg = true) {j : Nat} {e : Ent} (hj : T.L[j]? = some e) (he : e.n = seg) : Calls Tryz.prog 14 #[.pointer (some ⟨t, 0, none⟩), .int .i64 seg] w fun x w' => x = .returned (.int .i64 (e.b.length : Nat)) ∧ w = w' := by
  have HL := Lib.hid (look_hit hT hn hj he)
  have hs := hT.segs e (List.mem_of_getElem? hj)
  obtain ⟨A, cap, ev, _⟩ := hs.row.form
  have hc := cell_of hs.head 0
  replace hc : w.cell? ⟨e.sb, 0, none⟩ = some (.slice A e.b.length cap) := by rw [hc]; first | rfl | (rw [ev]; rfl)
  clear hT hn hj he hs ev
  go_enter Tryz.func14, Tryz.ntmps14
  go_wp2_with fail
  refine (HL.out).mono ?_
  rintro x w1 ⟨rfl, rfl⟩
  go_wp2
  go_ret
  exact ⟨rfl, rfl⟩
set_option maxRecDepth 100000 in
theorem synced_nil {w : World} (seg : Int) : Calls Tryz.prog 16 #[.pointer none, .int .i64 seg] w fun e w' => e = .returned (.int .i64 0) ∧ Below w.heap.size w w' := by
  have HL := Lib.hid (look_nil' (w := w) seg)
  skip
  go_enter Tryz.func16, Tryz.ntmps16
  go_wp2_with fail
  refine (HL.out).mono ?_
  rintro e w1 ⟨v1, rfl, h1⟩
  have HB := Lib.hid h1.below
  obtain ⟨tt, uu, rfl⟩ := h1.form (by decide)
  clear h1
  go_wp2
  go_ret
  exact ⟨rfl, HB.out⟩
set_option maxRecDepth 100000 in
theorem synced_no {w : World} (t : Nat) {seg : Int} (hn : nameB seg = false) : Calls Tryz.prog 16 #[.pointer (some ⟨t, 0, none⟩), .int .i64 seg] w fun e w' => e = .returned (.int .i64 0) ∧ Below w.heap.size w w' := by
  have HL := Lib.hid (look_no (w := w) t hn)
  clear hn
  go_enter Tryz.func16, Tryz.ntmps16
  go_wp2_with fail
  refine (HL.out).mono ?_
  rintro e w1 ⟨v1, rfl, h1⟩
  have HB := Lib.hid h1.below
  obtain ⟨tt, uu, rfl⟩ := h1.form (by decide)
  clear h1
  go_wp2
  go_ret
  exact ⟨rfl, HB.out⟩
set_option maxRecDepth 100000 in
theorem synced_miss {w : World} {t : Nat} {T : Tp} (hT : TapeAt w t T) {seg : Int} (hn : nameB seg = true) (hL : ∀ e ∈ T.L, e.n ≠ seg) : Calls Tryz.prog 16 #[.pointer (some ⟨t, 0, none⟩), .int .i64 seg] w fun e w' => e = .returned (.int .i64 0) ∧ Below w.heap.size w w' := by
  have HL := Lib.hid (look_miss hT hn hL)
  clear hn hL hT
  go_enter Tryz.func16, Tryz.ntmps16
  go_wp2_with fail
  refine (HL.out).mono ?_
  rintro e w1 ⟨v1, rfl, h1⟩
  have HB := Lib.hid h1.below
  obtain ⟨tt, uu, rfl⟩ := h1.form (by decide)
  clear h1
  go_wp2
  go_ret
  exact ⟨rfl, HB.out⟩
set_option maxRecDepth 100000 in
theorem synced_hit {w : World} {t : Nat} {T : Tp} (hT : TapeAt w t T) {seg : Int} (hn : nameB seg = true) {j : Nat} {e : Ent} (hj : T.L[j]? = some e) (he : e.n = seg) : Calls Tryz.prog 16 #[.pointer (some ⟨t, 0, none⟩), .int .i64 seg] w fun x w' => x = .returned (.int .i64 (e.s : Nat)) ∧ w = w' := by
  have HL := Lib.hid (look_hit hT hn hj he)
  have hs := hT.segs e (List.mem_of_getElem? hj)
  obtain ⟨A, cap, ev, _⟩ := hs.row.form
  have hc := cell_of hs.head 1
  replace hc : w.cell? ⟨e.sb, 1, none⟩ = some (.int .i64 (e.s : Int)) := by rw [hc]; first | rfl | (rw [ev]; rfl)
  clear hT hn hj he hs ev
  go_enter Tryz.func16, Tryz.ntmps16
  go_wp2_with fail
  refine (HL.out).mono ?_
  rintro x w1 ⟨rfl, rfl⟩
  go_wp2
  go_ret
  exact ⟨rfl, rfl⟩
set_option maxRecDepth 100000 in
theorem read_nil {w : World} (hG : Glob w) (seg : Int) : Calls Tryz.prog 15 #[.pointer none, .int .i64 seg] w fun e w' => e = .returned (.tuple #[.slice none 0 0, .int .i64 1]) ∧ Below w.heap.size w w' := by
  have HL := Lib.hid (look_nil' (w := w) seg)
  have HG := Lib.hid hG
  clear hG 
  go_enter Tryz.func15, Tryz.ntmps15
  go_wp2_with fail
  refine (HL.out).mono ?_
  rintro e w1 ⟨v1, rfl, h1⟩
  have HB := Lib.hid h1.below
  have HC := Lib.hid (code_of HG.out h1 (Below.refl _ _))
  obtain ⟨tt, uu, rfl⟩ := h1.form (by decide)
  clear h1
  go_wp2_with fail
  refine (HC.out).mono ?_
  rintro e w2 ⟨rfl, hb2⟩
  have HB2 := Lib.hid (HB.out.trans (hb2.mono HB.out.size))
  clear hb2
  go_wp2
  go_ret2
  exact ⟨rfl, HB2.out⟩
set_option maxRecDepth 100000 in
theorem read_no {w : World} (hG : Glob w) (t : Nat) {seg : Int} (hn : nameB seg = false) : Calls Tryz.prog 15 #[.pointer (some ⟨t, 0, none⟩), .int .i64 seg] w fun e w' => e = .returned (.tuple #[.slice none 0 0, .int .i64 2]) ∧ Below w.heap.size w w' := by
  have HL := Lib.hid (look_no (w := w) t hn)
  have HG := Lib.hid hG
  clear hG hn
  go_enter Tryz.func15, Tryz.ntmps15
  go_wp2_with fail
  refine (HL.out).mono ?_
  rintro e w1 ⟨v1, rfl, h1⟩
  have HB := Lib.hid h1.below
  have HC := Lib.hid (code_of HG.out h1 (Below.refl _ _))
  obtain ⟨tt, uu, rfl⟩ := h1.form (by decide)
  clear h1
  go_wp2_with fail
  refine (HC.out).mono ?_
  rintro e w2 ⟨rfl, hb2⟩
  have HB2 := Lib.hid (HB.out.trans (hb2.mono HB.out.size))
  clear hb2
  go_wp2
  go_ret2
  exact ⟨rfl, HB2.out⟩
set_option maxRecDepth 100000 in
theorem read_miss {w : World} (hG : Glob w) {t : Nat} {T : Tp} (hT : TapeAt w t T) {seg : Int} (hn : nameB seg = true) (hL : ∀ e ∈ T.L, e.n ≠ seg) : Calls Tryz.prog 15 #[.pointer (some ⟨t, 0, none⟩), .int .i64 seg] w fun e w' => e = .returned (.tuple #[.slice none 0 0, .int .i64 3]) ∧ Below w.heap.size w w' := by
  have HL := Lib.hid (look_miss hT hn hL)
  have HG := Lib.hid hG
  clear hG hn hL hT
  go_enter Tryz.func15, Tryz.ntmps15
  go_wp2_with fail
  refine (HL.out).mono ?_
  rintro e w1 ⟨v1, rfl, h1⟩
  have HB := Lib.hid h1.below
  have HC := Lib.hid (code_of HG.out h1 (Below.refl _ _))
  obtain ⟨tt, uu, rfl⟩ := h1.form (by decide)
  clear h1
  go_wp2_with fail
  refine (HC.out).mono ?_
  rintro e w2 ⟨rfl, hb2⟩
  have HB2 := Lib.hid (HB.out.trans (hb2.mono HB.out.size))
  clear hb2
  go_wp2
  go_ret2
  exact ⟨rfl, HB2.out⟩
set_option maxRecDepth 100000 in
theorem read_hit {w : World} {t : Nat} {T : Tp} (hT : TapeAt w t T) {seg : Int} (hn : nameB seg = true) {j : Nat} {e : Ent} (hj : T.L[j]? = some e) (he : e.n = seg) : Calls Tryz.prog 15 #[.pointer (some ⟨t, 0, none⟩), .int .i64 seg] w fun x w' => ∃ v, x = .returned (.tuple #[v, .int .i64 0]) ∧ OwnBy w' w.heap.size v e.b ∧ Below w.heap.size w w' := by
  have HL := Lib.hid (look_hit hT hn hj he)
  have hin := List.mem_of_getElem? hj
  have hs := hT.segs e hin
  have hu := used_mem hin
  have hu2 := hT.used
  have HC := Lib.hid (clone_any hs.row.bis (by omega))
  obtain ⟨A, cap, ev, _⟩ := hs.row.form
  have hc := cell_of hs.head 0
  replace hc : w.cell? ⟨e.sb, 0, none⟩ = some (.slice A e.b.length cap) := by rw [hc, ← ev]; rfl
  rw [ev] at HC
  clear hT hn hj he hs ev hin hu hu2
  go_enter Tryz.func15, Tryz.ntmps15
  go_wp2_with fail
  refine (HL.out).mono ?_
  rintro x w1 ⟨rfl, rfl⟩
  go_wp2_with fail
  refine (HC.out).mono ?_
  rintro x w2 ⟨v2, rfl, ho, hb⟩
  have H := Lib.hid (And.intro ho hb)
  obtain ⟨A2, c2, rfl, _⟩ := ho.bis
  clear ho hb
  go_wp2
  go_ret2
  exact ⟨_, rfl, H.out.1, H.out.2⟩
set_option maxRecDepth 100000 in
theorem used_nil {w : World} : Calls Tryz.prog 38 #[.pointer none] w fun e w' => e = .returned (.int .i64 0) ∧ w = w' := by
  go_enter Tryz.func38, Tryz.ntmps38
  go_wp2_with fail
  go_ret
  exact ⟨rfl, rfl⟩
set_option maxRecDepth 100000 in
theorem free_nil {w : World} : Calls Tryz.prog 79 #[.pointer none] w fun e w' => e = .returned (.int .i64 0) ∧ w = w' := by
  go_enter Tryz.func79, Tryz.ntmps79
  go_wp2_with fail
  go_ret
  exact ⟨rfl, rfl⟩
set_option maxRecDepth 100000 in
theorem down_nil {w : World} : Calls Tryz.prog 17 #[.pointer none] w fun e w' => e = .returned (.bool false) ∧ w = w' := by
  go_enter Tryz.func17, Tryz.ntmps17
  go_wp2_with fail
  go_ret
  exact ⟨rfl, rfl⟩
set_option maxRecDepth 100000 in
theorem segs_nil {w : World} : Calls Tryz.prog 13 #[.pointer none] w fun e w' => e = .returned (.slice none 0 0) ∧ w = w' := by
  go_enter Tryz.func13, Tryz.ntmps13
  go_wp2_with fail
  go_ret
  exact ⟨rfl, rfl⟩
set_option maxRecDepth 100000 in
theorem fuse_nil {w : World} (n : Int) : Calls Tryz.prog 30 #[.pointer none, .int .i64 n] w fun e w' => e = .returned (.tuple #[]) ∧ w = w' := by
  go_enter Tryz.func30, Tryz.ntmps30
  go_wp2_with fail
  first | go_end0 | (refine bodyPost_ret (v := .tuple #[]) (by simp [results, Tryz.results30, go_sem]) rfl ?_)
  exact ⟨rfl, rfl⟩
set_option maxRecDepth 100000 in
theorem crash_nil {w : World} (v : Value) : Calls Tryz.prog 12 #[.pointer none, v] w fun e w' => e = .returned (.pointer none) ∧ w = w' := by
  go_enter Tryz.func12, Tryz.ntmps12
  go_wp2_with fail
  go_ret
  exact ⟨rfl, rfl⟩
set_option maxRecDepth 100000 in
theorem room_nil {w : World} (n : Int) : Calls Tryz.prog 42 #[.pointer none, .int .i64 n] w fun e w' => e = .returned (.int .i64 1) ∧ w = w' := by
  go_enter Tryz.func42, Tryz.ntmps42
  go_wp2_with fail
  go_ret
  exact ⟨rfl, rfl⟩
set_option maxRecDepth 100000 in
theorem room_ok {w : World} {t : Nat} {T : Tp} (hT : TapeAt w t T) {n : Nat} (hn : n ≤ 1048576) : Calls Tryz.prog 42 #[.pointer (some ⟨t, 0, none⟩), .int .i64 (n : Int)] w fun e w' => e = .returned (.int .i64 0) ∧ w.setCell ⟨t, 1, none⟩ (.int .i64 (n : Int)) = w' := by
  have HU := Lib.hid (upto_ok (w := w) (most := 1048576) (n := (n : Int)) (by omega) (by omega))
  have hc : w.cell? ⟨t, 1, none⟩ = some (.int .i64 (T.room : Int)) := cell_of hT.head 1
  have hf : w.frozen? ⟨t, 1, none⟩ = false := free0 hT.head 1
  clear hT hn
  go_enter Tryz.func42, Tryz.ntmps42
  go_wp2_with fail
  refine (HU.out).mono ?_
  rintro e w1 ⟨rfl, rfl⟩
  go_wp2
  go_ret
  exact ⟨rfl, rfl⟩
/-- A tape without segments. -/
def newT (n : Nat) : Tp := ⟨none, [], 0, n, false, 0, false⟩
theorem newT_at (w : World) {n : Nat} (hn : n ≤ 1048576) : TapeAt (w.alloc (.cells #[.map none, .int .i64 (n : Int), .bool false, .int .i64 0, .bool false] 77)) w.heap.size (newT n) :=
  ⟨alloc_at w _, rfl, (fun e he => by cases he), .nil _, Nat.zero_le 64, Nat.zero_le _, hn, Nat.zero_le _⟩
set_option maxRecDepth 100000 in
theorem new_ok {w : World} {n : Nat} (hn : n ≤ 1048576) : Calls Tryz.prog 9 #[.int .i64 (n : Int)] w fun e w' => e = .returned (.tuple #[.pointer (some ⟨w.heap.size, 0, none⟩), .int .i64 0]) ∧ TapeAt w' w.heap.size (newT n) ∧ Below w.heap.size w w' := by
  have h0 := newT_at w (n := 0) (by omega)
  have HR := Lib.hid (room_ok h0 hn)
  have HN := Lib.hid hn
  clear h0 hn
  go_enter Tryz.func9, Tryz.ntmps9
  go_wp2_with fail
  refine (HR.out).mono ?_
  rintro e w1 ⟨rfl, rfl⟩
  go_wp2
  go_ret2
  exact ⟨rfl, newT_at w HN.out, below_new _⟩
end Go.Proofs.YtnegnokielmgkaaGreatDoor

namespace Go.Proofs.YtnegnokielmgkaaGreatDoor
open Go.RowKit

set_option maxRecDepth 100000 in
set_option maxHeartbeats 1000000 in
theorem sync_nil {w : World} (hG : Glob w) (seg : Int) : Calls Tryz.prog 44 #[.pointer none, .int .i64 seg] w fun e w' => e = .returned (.int .i64 1) ∧ Below w.heap.size w w' := by
  have HO := Lib.hid (open_nil (w := w) seg)
  have HG := Lib.hid hG
  have hmf : ∀ (fn : Fn) (first cap : Array Value) (w : World), (Instr.makeFunc fn first cap).run Tryz.prog w = .ok (.func fn first cap) w := fun _ _ _ _ => rfl
  clear hG
  go_enter Tryz.func44, Tryz.ntmps44
  go_wp2_with fail
  refine (HO.out).mono ?_
  rintro e w1 ⟨v1, rfl, h1⟩
  have HB1 := Lib.hid h1.below
  have HA := Lib.hid (below_new (w := w1) (.cells #[.pointer none] 86))
  have HIN := Lib.hid (in_err ⟨#[115, 121, 110, 99]⟩ h1 HA.out)
  clear h1
  go_wp2_with fail
  refine (HIN.out).mono ?_
  rintro e w2 ⟨v2, rfl, hq, hb2⟩
  have HB2 := Lib.hid ((HB1.out.trans (HA.out.mono HB1.out.size)).trans (hb2.mono (by rw [asz]; have := HB1.out.size; omega)))
  have HC := Lib.hid (fun f => change_err (f := f) (p := .pointer none) HG.out hq (by decide) (Below.refl _ _))
  obtain ⟨tt, uu, rfl⟩ := hq.form (by decide)
  clear hq hb2
  go_wp2_with fail
  refine (HC.out _).mono ?_
  rintro e w3 ⟨rfl, hb3⟩
  have HB3 := Lib.hid (HB2.out.trans (hb3.mono HB2.out.size))
  clear hb3
  go_wp2
  go_ret
  exact ⟨rfl, HB3.out⟩
set_option maxRecDepth 100000 in
set_option maxHeartbeats 1000000 in
theorem trim_nil {w : World} (hG : Glob w) (seg n : Int) : Calls Tryz.prog 45 #[.pointer none, .int .i64 seg, .int .i64 n] w fun e w' => e = .returned (.int .i64 1) ∧ Below w.heap.size w w' := by
  have HA0 := Lib.hid (below_new (w := w) (.cells #[.int .i64 n] 3))
  have HO := Lib.hid (open_nil (w := w.alloc (.cells #[.int .i64 n] 3)) seg)
  have HG := Lib.hid (hG.below HA0.out)
  have hmf : ∀ (fn : Fn) (first cap : Array Value) (w : World), (Instr.makeFunc fn first cap).run Tryz.prog w = .ok (.func fn first cap) w := fun _ _ _ _ => rfl
  clear hG
  go_enter Tryz.func45, Tryz.ntmps45
  go_wp2_with fail
  refine (HO.out).mono ?_
  rintro e w1 ⟨v1, rfl, h1⟩
  have HB1 := Lib.hid (HA0.out.trans (h1.below.mono HA0.out.size))
  have HA := Lib.hid (below_new (w := w1) (.cells #[.pointer none] 86))
  have HIN := Lib.hid (in_err ⟨#[116, 114, 105, 109]⟩ h1 HA.out)
  obtain ⟨t0, u0, rfl⟩ := h1.form (by decide)
  clear h1
  go_wp2_with fail
  refine (HIN.out).mono ?_
  rintro e w2 ⟨v2, rfl, hq, hb2⟩
  have HB2 := Lib.hid ((HB1.out.trans (HA.out.mono HB1.out.size)).trans (hb2.mono (by rw [asz]; have := HB1.out.size; omega)))
  have HC := Lib.hid (fun f => change_err (f := f) (p := .pointer none) HG.out hq (by decide) (Below.refl _ _))
  obtain ⟨tt, uu, rfl⟩ := hq.form (by decide)
  clear hq hb2
  go_wp2_with fail
  refine (HC.out _).mono ?_
  rintro e w3 ⟨rfl, hb3⟩
  have HB3 := Lib.hid (HB2.out.trans (hb3.mono HB2.out.size))
  clear hb3
  go_wp2
  go_ret
  exact ⟨rfl, HB3.out⟩
/-- The world when Drop's arguments have their boxes. -/
def dropW (w : World) (p : Option Addr) (seg : Int) : World := (w.alloc (.cells #[.pointer p] 24)).alloc (.cells #[.int .i64 seg] 3)
theorem dropW_size (w : World) (p : Option Addr) (seg : Int) : (dropW w p seg).heap.size = w.heap.size + 1 + 1 := by unfold dropW; rw [asz, asz]
theorem dropW_below (w : World) (p : Option Addr) (seg : Int) : Below w.heap.size w (dropW w p seg) := by
  unfold dropW
  exact ((Below.refl _ _).alloc (Nat.le_refl _) _).alloc (by rw [asz]; omega) _
theorem dropW_cells (w : World) (p : Option Addr) (seg : Int) : (dropW w p seg).cell? ⟨w.heap.size, 0, none⟩ = some (.pointer p) ∧ (dropW w p seg).cell? ⟨w.heap.size + 1, 0, none⟩ = some (.int .i64 seg) := by
  unfold dropW
  refine ⟨cell_of ((Below.heap_alloc _ _ _ (by rw [asz]; omega)).trans (alloc_at w _)) 0, ?_⟩
  have := alloc_at (w.alloc (.cells #[.pointer p] 24)) (.cells #[.int .i64 seg] 3)
  rw [asz] at this
  exact cell_of this 0
set_option maxRecDepth 100000 in
set_option maxHeartbeats 2000000 in
theorem drop_err {w : World} {p : Option Addr} {seg : Int} {E : Int} (hG : Glob w) (hE : E ≠ 0)
    (hR : Calls Tryz.prog 75 #[.pointer p, .int .i64 seg] (dropW w p seg) fun e w' => ∃ v, e = .returned (.tuple #[.pointer none, v]) ∧ ErrP E (dropW w p seg) v w') :
    Calls Tryz.prog 46 #[.pointer p, .int .i64 seg] w fun e w' => e = .returned (.int .i64 E) ∧ Below w.heap.size w w' := by
  have HR := Lib.hid hR
  have HG := Lib.hid (hG.below (dropW_below w p seg))
  have HB0 := Lib.hid (dropW_below w p seg)
  obtain ⟨k0, k1⟩ := dropW_cells w p seg
  have HCL := Lib.hid (fun W (hW : Below (dropW w p seg).heap.size (dropW w p seg) W) => (hW.cell (p := ⟨w.heap.size, 0, none⟩) (by rw [dropW_size]; simp only; omega)).trans k0)
  have HE := Lib.hid hE
  have hmf : ∀ (fn : Fn) (first cap : Array Value) (w : World), (Instr.makeFunc fn first cap).run Tryz.prog w = .ok (.func fn first cap) w := fun _ _ _ _ => rfl
  clear hR hG k0 k1 hE
  go_enter Tryz.func46, Tryz.ntmps46
  go_wp2_with fail
  refine (HR.out).mono ?_
  rintro e w4 ⟨v4, rfl, h4⟩
  have hb4 := h4.below
  have HC4 : Hid (∀ W, Below w4.heap.size w4 W → W.cell? ⟨w.heap.size, 0, none⟩ = some (.pointer p)) := fun W hW => HCL.out W (hb4.trans (hW.mono hb4.size))
  have HB4 := Lib.hid (HB0.out.trans (hb4.mono HB0.out.size))
  have HIN := Lib.hid (fun W (hW : Below w4.heap.size w4 W) => (in_err ⟨#[100, 114, 111, 112]⟩ h4 hW).mono fun e w' (h : ∃ v', e = .returned v' ∧ ErrQ E (dropW w p seg) v' w' ∧ Below W.heap.size W w') => (h.elim fun v' h => ⟨v', h.1, h.2.1, hW.trans (h.2.2.mono hW.size)⟩ : ∃ v', e = .returned v' ∧ ErrQ E (dropW w p seg) v' w' ∧ Below w4.heap.size w4 w'))
  have HCH : Hid (∀ v' Wq f W, ErrQ E (dropW w p seg) v' Wq → Below Wq.heap.size Wq W → Below w4.heap.size w4 Wq → Calls Tryz.prog 59 #[.pointer p, v', f] W fun e w' => e = .returned (.int .i64 E) ∧ Below w4.heap.size w4 w') := fun v' Wq f W hq hW hb => (change_err HG.out hq HE.out hW).mono fun e w' ⟨h1, h2⟩ => ⟨h1, hb.trans ((hW.trans (h2.mono hW.size)).mono hb.size)⟩
  have hc4 := HC4.out _ (Below.refl _ _)
  obtain ⟨tt, uu, rfl⟩ := h4.form HE.out
  clear h4 hb4
  go_wp2_with fail
  go_region_held3 (fun W => W.cell? ⟨w.heap.size, 0, none⟩ = some (.pointer p)) ((first | go_keep | exact HC4.out _ (by assumption))) (first | (go_at_call 60; refine (HIN.out _ (by first | assumption | exact below_drew (Below.refl _ _))).mono ?_; rintro e w5 ⟨v5, rfl, hq5, hb5⟩) | (go_at_call 59; refine (HCH.out _ _ _ _ (by assumption) (Below.refl _ _) (by assumption)).mono ?_; rintro e w6 ⟨rfl, hb6⟩))
  all_goals
    go_wp2
    go_ret
    exact ⟨rfl, HB4.out.trans (Below.mono (by assumption) HB4.out.size)⟩
set_option maxRecDepth 100000 in
theorem sync_do {w : World} {b sb : Nat} {A : Option Addr} {n cap : Nat} {s : Value} (hb : w.cell? ⟨b, 0, none⟩ = some (.pointer (some ⟨sb, 0, none⟩))) (h0 : w.cell? ⟨sb, 0, none⟩ = some (.slice A n cap)) (h1 : w.cell? ⟨sb, 1, none⟩ = some s) (hf : w.frozen? ⟨sb, 1, none⟩ = false) :
    Calls Tryz.prog 76 #[.pointer (some ⟨b, 0, none⟩)] w fun e w' => e = .returned (.tuple #[]) ∧ w' = (w.setCell ⟨sb, 1, none⟩ (.int .i64 (n : Int))).drew := by
  go_enter Tryz.func76, Tryz.ntmps76
  go_wp2_with fail
  go_region
  all_goals
    go_wp2
    go_end0
    exact ⟨rfl, rfl⟩
/-- What a sync leaves. -/
def syncT (T : Tp) (j : Nat) (e : Ent) : Tp := { burnt T with L := T.L.set j { e with s := e.b.length } }
set_option maxRecDepth 100000 in
set_option maxHeartbeats 2000000 in
theorem sync_ok {w : World} {t : Nat} {T : Tp} (hG : Glob w) (hT : TapeAt w t T) {seg : Int} (hE : readyE T seg = 0) {j : Nat} {e : Ent} (hj : T.L[j]? = some e) (he : e.n = seg) (hs : spent T = false) (hg : 0 ∉ T.blocks t) :
    Calls Tryz.prog 44 #[.pointer (some ⟨t, 0, none⟩), .int .i64 seg] w fun x w' => x = .returned (.int .i64 0) ∧ TapeAt w' t (syncT T j e) ∧ Touch (fun k => k ∈ T.blocks t) w w' := by
  have HO := Lib.hid (open_hit hT hE hj he)
  have hmf : ∀ (fn : Fn) (first cap : Array Value) (w : World), (Instr.makeFunc fn first cap).run Tryz.prog w = .ok (.func fn first cap) w := fun _ _ _ _ => rfl
  have HCH : Hid (∀ W b, Below w.heap.size w W → w.heap.size ≤ b → b < W.heap.size → W.cell? ⟨b, 0, none⟩ = some (.pointer (some ⟨e.sb, 0, none⟩)) →
      Calls Tryz.prog 59 #[.pointer (some ⟨t, 0, none⟩), .nilIface, .func (.func 76) #[] #[.pointer (some ⟨b, 0, none⟩)]] W fun x w' => x = .returned (.int .i64 0) ∧ TapeAt w' t (syncT T j e) ∧ Touch (fun k => k ∈ T.blocks t) w w') := fun W b hW hb1 hb2 kb => by
    obtain ⟨b1, b2, b3⟩ := burntW_at (hT.below hW)
    have hTW : Touch (fun k => k ∈ T.blocks t) w (burntW W t T) := Touch.ahead hW (b2.mono fun i _ hi => mem_blocks.2 (.inl hi))
    have hbt : b ≠ t := fun h => by have := hT.ltT; omega
    have hgw : ∀ w', Touch (fun k => k ∈ T.blocks t) w w' → Glob w' := fun w' h => (World.cell?_of_block (a := ⟨0, 0, none⟩) (h.block _ hG.lt hg)).trans hG
    refine change_sync (hG.below hW) (hT.below hW) hs (fun e => hg (mem_blocks.2 (.inl e))) (fun w' => TapeAt w' t (syncT T j e) ∧ Touch (fun k => k ∈ T.blocks t) w w') (fun W1 W2 h hb => ⟨h.1.below hb, h.2.after hb⟩) (fun W1 h => hgw _ h.2) ?_
    have hj' : (burnt T).L[j]? = some e := by rw [burnt_L]; exact hj
    have hsg := b1.segs e (List.mem_of_getElem? hj')
    obtain ⟨A, cap, ev, _⟩ := hsg.row.form
    have h0 := cell_of hsg.head 0
    replace h0 : (burntW W t T).cell? ⟨e.sb, 0, none⟩ = some (.slice A e.b.length cap) := by rw [h0, ← ev]; rfl
    refine (sync_do (s := .int .i64 (e.s : Int)) ((World.cell?_of_block (a := ⟨b, 0, none⟩) (b2.block b hb2 hbt)).trans kb) h0 (cell_of hsg.head 1) (free0 hsg.head 1)).mono ?_
    rintro x w' ⟨rfl, rfl⟩
    refine ⟨rfl, ?_, ?_⟩
    · have h9 : TapeAt ((burntW W t T).setCell ⟨e.sb, 1, none⟩ (.int .i64 ((e.b.length : Nat) : Int))) t _ := b1.seg hj' (v := e.v) (b := e.b) (s := e.b.length) (Nat.le_of_eq (setCell_size _ _ _).symm) (fun k _ h1 _ => Below.heap_setCell _ _ _ _ h1) (set_at hsg.head 1 _)
        (hsg.row.keep (Nat.le_of_eq (setCell_size _ _ _).symm) (fun g hg' => Below.heap_setCell _ _ _ _ (fun h => b1.sep.own e (List.mem_of_getElem? hj') (by rw [hg', h])))) (.inl rfl) (Nat.le_refl _) (by have := b1.used; omega)
      rw [burnt_L] at h9
      exact h9.below (Below.refl _ _).drew
    · exact (hTW.setCell ⟨e.sb, 1, none⟩ (fun _ => mem_blocks.2 (.inr (.inr ⟨e, List.mem_of_getElem? hj, List.mem_cons_self ..⟩))) _).drew
  clear hG hT hE hj he hs hg
  go_enter Tryz.func44, Tryz.ntmps44
  go_wp2_with fail
  refine (HO.out).mono ?_
  rintro x w1 ⟨rfl, hb1⟩
  have HB1 := Lib.hid hb1
  clear hb1
  have HIN := Lib.hid (in_nil ⟨#[115, 121, 110, 99]⟩ (w1.alloc (.cells #[.pointer (some ⟨e.sb, 0, none⟩)] 86)))
  have hA := below_new (w := w1) (.cells #[.pointer (some ⟨e.sb, 0, none⟩)] 86)
  have HC := Lib.hid (HCH.out _ w1.heap.size (HB1.out.trans (hA.mono HB1.out.size)) HB1.out.size (by rw [asz]; omega) (cell_of (alloc_at w1 _) 0))
  clear hA
  go_wp2_with fail
  refine (HIN.out).mono ?_
  rintro x w2 ⟨rfl, rfl⟩
  go_wp2_with fail
  refine (HC.out).mono ?_
  rintro x w3 ⟨rfl, h3⟩
  have H3 := Lib.hid h3
  clear h3
  go_wp2
  go_ret
  exact ⟨rfl, H3.out⟩
end Go.Proofs.YtnegnokielmgkaaGreatDoor

namespace Go.Proofs.YtnegnokielmgkaaGreatDoor
open Go.RowKit

/-- A segment is taken out of the map. -/
theorem TapeAt.cut {w w' : World} {t : Nat} {T : Tp} (h : TapeAt w t T) {m : Nat} (hm : T.m = some m) {j : Nat} {e : Ent} (hj : T.L[j]? = some e) (hs : w.heap.size ≤ w'.heap.size) (hk : ∀ k, k < w.heap.size → k ≠ m → w'.heap[k]? = w.heap[k]?)
    (hM : MapIs Tryz.prog 3 w' m ((T.L.map Ent.me).eraseIdx j) T.clock) : TapeAt w' t { T with L := T.L.eraseIdx j } := by
  have hmt : t ≠ m := fun e => h.sep.tm (by rw [hm, e])
  have hsub := List.eraseIdx_sublist T.L j
  refine ⟨(hk t h.ltT hmt).trans h.head, ?_, fun x hx => (h.segs x (hsub.subset hx)).keep hs fun k hkx => hk k (h.ltE x (hsub.subset hx) k hkx) (fun e1 => (h.sep.te x (hsub.subset hx) k hkx).2 (by rw [hm, e1])), h.sep.erase j, Nat.le_trans hsub.length_le h.few, ?_, h.room, h.left⟩
  · show MapPart w' T.m (T.L.eraseIdx j) T.clock
    rw [hm]
    show MapIs _ _ w' m ((T.L.eraseIdx j).map Ent.me) T.clock
    have : (T.L.eraseIdx j).map Ent.me = (T.L.map Ent.me).eraseIdx j := by
      refine List.ext_getElem? fun i => ?_
      simp only [List.getElem?_map, List.getElem?_eraseIdx]
      split <;> simp
    rw [this]
    exact hM
  · have := used_erase hj
    have := h.used
    show Go.Proofs.YtnegnokielmgkaaGreatDoor.used (T.L.eraseIdx j) ≤ _
    omega
set_option maxRecDepth 100000 in
theorem drop_do {w : World} {ba bs t m : Nat} {seg : Int} {o : Obj} (h0 : w.cell? ⟨ba, 0, none⟩ = some (.pointer (some ⟨t, 0, none⟩))) (h1 : w.cell? ⟨bs, 0, none⟩ = some (.int .i64 seg)) (h2 : w.cell? ⟨t, 0, none⟩ = some (.map (some m)))
    (hd : ∀ ty, (Builtin.delete_ #[75, 3] ty #[.map (some m), .int .i64 seg]).run Tryz.prog w.drew = .ok (.tuple #[]) { w.drew with heap := w.drew.heap.setIfInBounds m o }) :
    Calls Tryz.prog 78 #[.pointer (some ⟨ba, 0, none⟩), .pointer (some ⟨bs, 0, none⟩)] w fun e w' => e = .returned (.tuple #[]) ∧ w' = { w.drew with heap := w.drew.heap.setIfInBounds m o } := by
  go_enter Tryz.func78, Tryz.ntmps78
  go_wp2_with fail
  go_region
  all_goals
    go_wp2
    go_end0
    exact ⟨rfl, rfl⟩
/-- What a drop leaves. -/
def dropT (T : Tp) (j : Nat) : Tp := { burnt T with L := T.L.eraseIdx j }
set_option maxRecDepth 100000 in
set_option maxHeartbeats 2000000 in
theorem drop_ok {w : World} {t : Nat} {T : Tp} (hG : Glob w) (hT : TapeAt w t T) {seg : Int} (hE : readyE T seg = 0) {j : Nat} {e : Ent} (hj : T.L[j]? = some e) (he : e.n = seg) (hs : spent T = false) (hg : 0 ∉ T.blocks t) :
    Calls Tryz.prog 46 #[.pointer (some ⟨t, 0, none⟩), .int .i64 seg] w fun x w' => x = .returned (.int .i64 0) ∧ TapeAt w' t (dropT T j) ∧ Touch (fun k => k ∈ T.blocks t) w w' := by
  have hlt := hT.lt
  obtain ⟨m, hm⟩ : ∃ m, T.m = some m := by
    have := hT.map
    cases h : T.m with
    | none => rw [h] at this; rw [show T.L = [] from this] at hj; cases hj
    | some m => exact ⟨m, rfl⟩
  have HO := Lib.hid (open_hit (hT.below (dropW_below w (some ⟨t, 0, none⟩) seg)) hE hj he)
  have HB0 := Lib.hid (dropW_below w (some ⟨t, 0, none⟩) seg)
  obtain ⟨k0, k1⟩ := dropW_cells w (some ⟨t, 0, none⟩) seg
  have HCL := Lib.hid (fun W (hW : Below (dropW w (some ⟨t, 0, none⟩) seg).heap.size (dropW w (some ⟨t, 0, none⟩) seg) W) => And.intro ((hW.cell (p := ⟨w.heap.size, 0, none⟩) (by rw [dropW_size]; simp only; omega)).trans k0) ((hW.cell (p := ⟨w.heap.size + 1, 0, none⟩) (by rw [dropW_size]; simp only; omega)).trans k1))
  have hmf : ∀ (fn : Fn) (first cap : Array Value) (w : World), (Instr.makeFunc fn first cap).run Tryz.prog w = .ok (.func fn first cap) w := fun _ _ _ _ => rfl
  have hn := (readyE_zero hE).1
  have HCH : Hid (∀ W, Below w.heap.size w W → w.heap.size + 1 < W.heap.size → W.cell? ⟨w.heap.size, 0, none⟩ = some (.pointer (some ⟨t, 0, none⟩)) → W.cell? ⟨w.heap.size + 1, 0, none⟩ = some (.int .i64 seg) →
      Calls Tryz.prog 59 #[.pointer (some ⟨t, 0, none⟩), .nilIface, .func (.func 78) #[] #[.pointer (some ⟨w.heap.size, 0, none⟩), .pointer (some ⟨w.heap.size + 1, 0, none⟩)]] W fun x w' => x = .returned (.int .i64 0) ∧ (TapeAt w' t (dropT T j) ∧ Touch (fun k => k ∈ T.blocks t) w w') ∧ w.heap.size < w'.heap.size ∧ w'.cell? ⟨w.heap.size, 0, none⟩ = some (.pointer (some ⟨t, 0, none⟩))) := fun W hW hsz k0 k1 => by
    obtain ⟨b1, b2, b3⟩ := burntW_at (hT.below hW)
    have hTW : Touch (fun k => k ∈ T.blocks t) w (burntW W t T) := Touch.ahead hW (b2.mono fun i _ hi => mem_blocks.2 (.inl hi))
    have hgw : ∀ w', Touch (fun k => k ∈ T.blocks t) w w' → Glob w' := fun w' h => (World.cell?_of_block (a := ⟨0, 0, none⟩) (h.block _ hG.lt hg)).trans hG
    have hltT := hT.ltT
    have hltM := hT.ltM m hm
    have hbox : ∀ k, w.heap.size ≤ k → k < W.heap.size → (burntW W t T).cell? ⟨k, 0, none⟩ = W.cell? ⟨k, 0, none⟩ := fun k hk hkW => World.cell?_of_block (a := ⟨k, 0, none⟩) (b2.block k hkW (by omega))
    refine change_drop (hG.below hW) (hT.below hW) hs (fun e => hg (mem_blocks.2 (.inl e))) (fun w' => (TapeAt w' t (dropT T j) ∧ Touch (fun k => k ∈ T.blocks t) w w') ∧ w.heap.size < w'.heap.size ∧ w'.cell? ⟨w.heap.size, 0, none⟩ = some (.pointer (some ⟨t, 0, none⟩))) (fun W1 W2 h hb => ⟨⟨h.1.1.below hb, h.1.2.after hb⟩, Nat.lt_of_lt_of_le h.2.1 hb.size, (hb.cell (p := ⟨w.heap.size, 0, none⟩) h.2.1).trans h.2.2⟩) (fun W1 h => hgw _ h.1.2) ?_
    have hj' : (burnt T).L[j]? = some e := by rw [burnt_L]; exact hj
    have hm' : (burnt T).m = some m := by rw [← hm]; unfold burnt; split <;> rfl
    have hM : MapIs Tryz.prog 3 (burntW W t T).drew m ((burnt T).L.map Ent.me) (burnt T).clock := by
      have := b1.map
      rw [hm'] at this
      exact MapIs.keep this rfl
    have hdel := fun ty => hM.del_hit keyed Tryz.underlying75 ty (key_int hn) (me_at hj') (by rw [← he]; rfl)
    have hc0 : (burntW W t T).cell? ⟨t, 0, none⟩ = some (.map (some m)) := by
      have := cell_of b1.head 0
      rw [hm'] at this
      exact this
    refine (drop_do ((hbox _ (Nat.le_refl _) (by omega)).trans k0) ((hbox _ (by omega) hsz).trans k1) hc0 (fun ty => (hdel ty).1)).mono ?_
    rintro x w' ⟨rfl, rfl⟩
    have hmb : m ∈ T.blocks t := mem_blocks.2 (.inr (.inl hm))
    refine ⟨rfl, ⟨?_, hTW.drew.set m _ (fun _ => hmb)⟩, by rw [set_size]; show w.heap.size < (burntW W t T).heap.size; rw [b3]; omega, ?_⟩
    · have h9 := b1.cut hm' hj' (w' := { (burntW W t T).drew with heap := (burntW W t T).drew.heap.setIfInBounds m (.map (((burnt T).L.map Ent.me).eraseIdx j).toArray (burnt T).clock) }) (by rw [set_size]; exact Nat.le_refl _) (fun k _ hk => by rw [set_other (Ne.symm hk)]; rfl) (hdel 0).2
      rw [burnt_L] at h9
      unfold dropT
      rw [burnt_L]
      exact h9
    · refine (World.cell?_of_block (a := ⟨w.heap.size, 0, none⟩) ?_).trans ((hbox _ (Nat.le_refl _) (by omega)).trans k0)
      exact set_other (w := (burntW W t T).drew) (k := w.heap.size) (by omega)
  clear hG hT hE hj he hs hg k0 k1 hlt hn hm
  go_enter Tryz.func46, Tryz.ntmps46
  go_wp2_with fail
  refine (HO.out).mono ?_
  rintro x w4 ⟨rfl, hb4⟩
  have HB4 := Lib.hid (HB0.out.trans (hb4.mono HB0.out.size))
  have HC4 : Hid (∀ W, Below w4.heap.size w4 W → W.cell? ⟨w.heap.size, 0, none⟩ = some (.pointer (some ⟨t, 0, none⟩)) ∧ W.cell? ⟨w.heap.size + 1, 0, none⟩ = some (.int .i64 seg)) := fun W hW => HCL.out W (hb4.trans (hW.mono hb4.size))
  have hsz4 : w.heap.size + 1 < w4.heap.size := by
    have h1 := dropW_size w (some ⟨t, 0, none⟩) seg
    have h2 := hb4.size
    omega
  have HSZ := Lib.hid hsz4
  have hc4 := (HC4.out _ (Below.refl _ _)).1
  clear hb4 hsz4
  go_wp2_with fail
  go_region_held3 (fun W => W.cell? ⟨w.heap.size, 0, none⟩ = some (.pointer (some ⟨t, 0, none⟩))) ((first | go_keep | assumption)) (first | (go_at_call 60; refine (in_nil _ _).mono ?_; rintro e w5 ⟨rfl, rfl⟩) | (go_at_call 59; refine (HCH.out _ (below_drew HB4.out) HSZ.out (HC4.out _ (below_drew (Below.refl _ _))).1 (HC4.out _ (below_drew (Below.refl _ _))).2).mono ?_; rintro e w6 ⟨rfl, hd6, hd7, hd8⟩))
  all_goals
    go_wp2
    go_ret
    exact ⟨rfl, by assumption⟩
end Go.Proofs.YtnegnokielmgkaaGreatDoor

namespace Go.Proofs.YtnegnokielmgkaaGreatDoor
open Go.RowKit

set_option maxRecDepth 100000 in
set_option maxHeartbeats 1000000 in
theorem sync_err {w : World} {p : Option Addr} {seg E : Int} (hG : Glob w) (hE : E ≠ 0) (hR : Calls Tryz.prog 75 #[.pointer p, .int .i64 seg] w fun e w' => ∃ v, e = .returned (.tuple #[.pointer none, v]) ∧ ErrP E w v w') : Calls Tryz.prog 44 #[.pointer p, .int .i64 seg] w fun e w' => e = .returned (.int .i64 E) ∧ Below w.heap.size w w' := by
  have HO := Lib.hid hR
  have HE := Lib.hid hE
  have HG := Lib.hid hG
  have hmf : ∀ (fn : Fn) (first cap : Array Value) (w : World), (Instr.makeFunc fn first cap).run Tryz.prog w = .ok (.func fn first cap) w := fun _ _ _ _ => rfl
  clear hG hR hE
  go_enter Tryz.func44, Tryz.ntmps44
  go_wp2_with fail
  refine (HO.out).mono ?_
  rintro e w1 ⟨v1, rfl, h1⟩
  have HB1 := Lib.hid h1.below
  have HA := Lib.hid (below_new (w := w1) (.cells #[.pointer none] 86))
  have HIN := Lib.hid (in_err ⟨#[115, 121, 110, 99]⟩ h1 HA.out)
  clear h1
  go_wp2_with fail
  refine (HIN.out).mono ?_
  rintro e w2 ⟨v2, rfl, hq, hb2⟩
  have HB2 := Lib.hid ((HB1.out.trans (HA.out.mono HB1.out.size)).trans (hb2.mono (by rw [asz]; have := HB1.out.size; omega)))
  have HC := Lib.hid (fun f => change_err (f := f) (p := .pointer p) HG.out hq HE.out (Below.refl _ _))
  obtain ⟨tt, uu, rfl⟩ := hq.form HE.out
  clear hq hb2
  go_wp2_with fail
  refine (HC.out _).mono ?_
  rintro e w3 ⟨rfl, hb3⟩
  have HB3 := Lib.hid (HB2.out.trans (hb3.mono HB2.out.size))
  clear hb3
  go_wp2
  go_ret
  exact ⟨rfl, HB3.out⟩
set_option maxRecDepth 100000 in
set_option maxHeartbeats 1000000 in
theorem trim_err {w : World} {p : Option Addr} {seg n E : Int} (hG : Glob w) (hE : E ≠ 0) (hR : Calls Tryz.prog 75 #[.pointer p, .int .i64 seg] (w.alloc (.cells #[.int .i64 n] 3)) fun e w' => ∃ v, e = .returned (.tuple #[.pointer none, v]) ∧ ErrP E (w.alloc (.cells #[.int .i64 n] 3)) v w') : Calls Tryz.prog 45 #[.pointer p, .int .i64 seg, .int .i64 n] w fun e w' => e = .returned (.int .i64 E) ∧ Below w.heap.size w w' := by
  have HA0 := Lib.hid (below_new (w := w) (.cells #[.int .i64 n] 3))
  have HO := Lib.hid hR
  have HE := Lib.hid hE
  have HG := Lib.hid (hG.below HA0.out)
  have hmf : ∀ (fn : Fn) (first cap : Array Value) (w : World), (Instr.makeFunc fn first cap).run Tryz.prog w = .ok (.func fn first cap) w := fun _ _ _ _ => rfl
  clear hG hR hE
  go_enter Tryz.func45, Tryz.ntmps45
  go_wp2_with fail
  refine (HO.out).mono ?_
  rintro e w1 ⟨v1, rfl, h1⟩
  have HB1 := Lib.hid (HA0.out.trans (h1.below.mono HA0.out.size))
  have HA := Lib.hid (below_new (w := w1) (.cells #[.pointer none] 86))
  have HIN := Lib.hid (in_err ⟨#[116, 114, 105, 109]⟩ h1 HA.out)
  obtain ⟨t0, u0, rfl⟩ := h1.form HE.out
  clear h1
  go_wp2_with fail
  refine (HIN.out).mono ?_
  rintro e w2 ⟨v2, rfl, hq, hb2⟩
  have HB2 := Lib.hid ((HB1.out.trans (HA.out.mono HB1.out.size)).trans (hb2.mono (by rw [asz]; have := HB1.out.size; omega)))
  have HC := Lib.hid (fun f => change_err (f := f) (p := .pointer p) HG.out hq HE.out (Below.refl _ _))
  obtain ⟨tt, uu, rfl⟩ := hq.form HE.out
  clear hq hb2
  go_wp2_with fail
  refine (HC.out _).mono ?_
  rintro e w3 ⟨rfl, hb3⟩
  have HB3 := Lib.hid (HB2.out.trans (hb3.mono HB2.out.size))
  clear hb3
  go_wp2
  go_ret
  exact ⟨rfl, HB3.out⟩
set_option maxRecDepth 100000 in
set_option maxHeartbeats 1000000 in
theorem sync_dead {w : World} {t : Nat} {T : Tp} (hG : Glob w) (hT : TapeAt w t T) {seg : Int} (hE : readyE T seg = 0) {j : Nat} {e : Ent} (hj : T.L[j]? = some e) (he : e.n = seg) (hs : spent T = true) (hg : 0 ∉ T.blocks t) :
    Calls Tryz.prog 44 #[.pointer (some ⟨t, 0, none⟩), .int .i64 seg] w fun x w' => x = .returned (.int .i64 8) ∧ TapeAt w' t { T with down := true } ∧ Touch (· = t) w w' := by
  have HO := Lib.hid (open_hit hT hE hj he)
  have hmf : ∀ (fn : Fn) (first cap : Array Value) (w : World), (Instr.makeFunc fn first cap).run Tryz.prog w = .ok (.func fn first cap) w := fun _ _ _ _ => rfl
  have HCH : Hid (∀ W f, Below w.heap.size w W → Calls Tryz.prog 59 #[.pointer (some ⟨t, 0, none⟩), .nilIface, f] W fun x w' => x = .returned (.int .i64 8) ∧ TapeAt w' t { T with down := true } ∧ Touch (· = t) w w') := fun W f hW =>
    (change_dead (hG.below hW) (hT.below hW) hs (fun e => hg (mem_blocks.2 (.inl e)))).mono fun x w' ⟨h1, h2, h3⟩ => ⟨h1, h2, Touch.ahead hW h3⟩
  clear hG hT hE hj he hs hg
  go_enter Tryz.func44, Tryz.ntmps44
  go_wp2_with fail
  refine (HO.out).mono ?_
  rintro x w1 ⟨rfl, hb1⟩
  have HB1 := Lib.hid hb1
  clear hb1
  have HIN := Lib.hid (in_nil ⟨#[115, 121, 110, 99]⟩ (w1.alloc (.cells #[.pointer (some ⟨e.sb, 0, none⟩)] 86)))
  have hA := below_new (w := w1) (.cells #[.pointer (some ⟨e.sb, 0, none⟩)] 86)
  have HC := Lib.hid (fun f => HCH.out _ f (HB1.out.trans (hA.mono HB1.out.size)))
  clear hA
  go_wp2_with fail
  refine (HIN.out).mono ?_
  rintro x w2 ⟨rfl, rfl⟩
  go_wp2_with fail
  refine (HC.out _).mono ?_
  rintro x w3 ⟨rfl, h3⟩
  have H3 := Lib.hid h3
  clear h3
  go_wp2
  go_ret
  exact ⟨rfl, H3.out⟩
set_option maxRecDepth 100000 in
set_option maxHeartbeats 1000000 in
theorem room_no {w : World} (t : Nat) {n : Int} (hG : Glob w) (hn : n < 0 ∨ 1048576 < n) : Calls Tryz.prog 42 #[.pointer (some ⟨t, 0, none⟩), .int .i64 n] w fun e w' => e = .returned (.int .i64 2) ∧ Below w.heap.size w w' := by
  have HU := Lib.hid (upto_no (w := w) hn)
  have HG := Lib.hid hG
  clear hn hG
  go_enter Tryz.func42, Tryz.ntmps42
  go_wp2_with fail
  refine (HU.out).mono ?_
  rintro e w1 ⟨v1, rfl, h1, hb1⟩
  have hp : ErrP 2 w v1 w1 := .of _ h1 hb1 rfl (by simp) (by decide) (.cons rfl (numOk_one (by decide))) (by simp)
  have HC := Lib.hid (code_of HG.out hp (Below.refl _ _))
  have HB1 := Lib.hid hb1
  obtain ⟨tt, uu, rfl⟩ := hp.form (by decide)
  clear h1 hb1 hp
  go_wp2_with fail
  refine (HC.out).mono ?_
  rintro e w2 ⟨rfl, hb2⟩
  have HB2 := Lib.hid (HB1.out.trans (hb2.mono HB1.out.size))
  clear hb2
  go_wp2
  go_ret
  exact ⟨rfl, HB2.out⟩
end Go.Proofs.YtnegnokielmgkaaGreatDoor

namespace Go.Proofs.YtnegnokielmgkaaGreatDoor
open Go.RowKit

set_option maxRecDepth 100000 in
set_option maxHeartbeats 1000000 in
theorem fuse_down {w : World} {t : Nat} {T : Tp} (hT : TapeAt w t T) (hd : T.down = true) (n : Int) : Calls Tryz.prog 30 #[.pointer (some ⟨t, 0, none⟩), .int .i64 n] w fun e w' => e = .returned (.tuple #[]) ∧ w = w' := by
  have hc := cell_of hT.head 4
  replace hc : w.cell? ⟨t, 4, none⟩ = some (.bool true) := by rw [hc, ← hd]; rfl
  clear hT hd
  go_enter Tryz.func30, Tryz.ntmps30
  go_wp2_with fail
  first | go_end0 | (refine bodyPost_ret (v := .tuple #[]) (by simp [results, Tryz.results30, go_sem]) rfl ?_)
  exact ⟨rfl, rfl⟩
/-- What a fuse leaves. -/
def fuseW (w : World) (t : Nat) (n : Int) : World := (w.setCell ⟨t, 2, none⟩ (.bool (decide (0 ≤ n)))).setCell ⟨t, 3, none⟩ (.int .i64 (n.toNat : Int))
theorem fuseW_at {w : World} {t : Nat} {T : Tp} (hT : TapeAt w t T) {n : Int} (hn : n ≤ 9223372036854775807) : TapeAt (fuseW w t n) t { T with fused := decide (0 ≤ n), left := n.toNat } ∧ Touch (· = t) w (fuseW w t n) := by
  have h1 := set_at hT.head 2 (.bool (decide (0 ≤ n)))
  have h2 := set_at h1 3 (.int .i64 (n.toNat : Int))
  have ht : Touch (· = t) w (fuseW w t n) := (((Touch.refl (· = t) w).setCell ⟨t, 2, none⟩ (fun _ => rfl) (.bool (decide (0 ≤ n)))).setCell ⟨t, 3, none⟩ (fun _ => rfl) (.int .i64 (n.toNat : Int)))
  exact ⟨hT.turn (room := T.room) (down := T.down) ht.size (fun k hk hkt => ht.block k hk hkt) h2 hT.room (by omega), ht⟩
set_option maxRecDepth 100000 in
set_option maxHeartbeats 1000000 in
theorem fuse_ok {w : World} {t : Nat} {T : Tp} (hT : TapeAt w t T) (hd : T.down = false) {n : Int} (hn : n ≤ 9223372036854775807) : Calls Tryz.prog 30 #[.pointer (some ⟨t, 0, none⟩), .int .i64 n] w fun e w' => e = .returned (.tuple #[]) ∧ TapeAt w' t { T with fused := decide (0 ≤ n), left := n.toNat } ∧ Touch (· = t) w w' := by
  have hc := cell_of hT.head 4
  replace hc : w.cell? ⟨t, 4, none⟩ = some (.bool false) := by rw [hc, ← hd]; rfl
  have hc2 : w.cell? ⟨t, 2, none⟩ = some (.bool T.fused) := cell_of hT.head 2
  have hc3 : w.cell? ⟨t, 3, none⟩ = some (.int .i64 (T.left : Int)) := cell_of hT.head 3
  have hf2 : w.frozen? ⟨t, 2, none⟩ = false := free0 hT.head 2
  have hf3 : w.frozen? ⟨t, 3, none⟩ = false := free0 hT.head 3
  have H := Lib.hid (fuseW_at hT hn)
  have HD : Hid (∀ W, W = fuseW w t n → TapeAt W.drew t { T with fused := decide (0 ≤ n), left := n.toNat } ∧ Touch (· = t) w W.drew) := fun W e => by subst e; exact ⟨H.out.1.below (below_drew (Below.refl _ _)), H.out.2.drew⟩
  clear hT hd
  by_cases h0 : n < 0
  · have e1 : (n.toNat : Int) = 0 := by omega
    have e2 : decide (0 ≤ n) = false := decide_eq_false (by omega)
    have q1 : ¬ (0 : Int) ≤ n := by omega
    have HW : Hid (fuseW w t n = (w.setCell ⟨t, 2, none⟩ (.bool false)).setCell ⟨t, 3, none⟩ (.int .i64 0)) := by show _ = _; unfold fuseW; rw [e1, e2]
    clear e1 e2
    go_enter Tryz.func30, Tryz.ntmps30
    go_wp2_with fail
    go_end0
    first
    | exact ⟨rfl, by rw [← HW.out]; exact H.out⟩
    | exact ⟨rfl, HD.out _ HW.out.symm⟩
  · obtain ⟨m, rfl⟩ : ∃ m : Nat, n = (m : Int) := ⟨n.toNat, by omega⟩
    have e2 : decide (0 ≤ (m : Int)) = true := decide_eq_true (by omega)
    have q1 : (0 : Int) ≤ (m : Int) := by omega
    have HW : Hid (fuseW w t (m : Int) = (w.setCell ⟨t, 2, none⟩ (.bool true)).setCell ⟨t, 3, none⟩ (.int .i64 (m : Int))) := by show _ = _; unfold fuseW; rw [e2]; rfl
    clear e2 h0
    go_enter Tryz.func30, Tryz.ntmps30
    go_wp2_with fail
    go_end0
    first
    | exact ⟨rfl, by rw [← HW.out]; exact H.out⟩
    | exact ⟨rfl, HD.out _ HW.out.symm⟩
end Go.Proofs.YtnegnokielmgkaaGreatDoor
