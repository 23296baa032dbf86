/- The journal's laws: what they begin with. A journal on a new tape, in plain words: one append, a sync, a checkpoint. JournalLongs: the law's walk. -/
import Derived.Test.YtnegnokielmgkaaGreatDoorZJouS
import Derived.Test.YtnegnokielmgkaaGreatDoorZRefA
import Derived.Test.YtnegnokielmgkaaGreatDoorZCrcI
import Derived.Test.YtnegnokielmgkaaGreatDoorZCrcE
import Derived.Deep.CutBlock
set_option linter.unusedSimpArgs false
set_option linter.unusedVariables false
set_option linter.unnecessarySimpa false
namespace Go.Proofs.YtnegnokielmgkaaGreatDoor
open Go.RowKit

set_option maxRecDepth 100000 in
set_option maxHeartbeats 4000000 in
theorem ropen_new {w : World} {r : Nat} {n seg : Int} (h : RefAt w r (newR n)) (h1 : 16 ≤ seg) (h2 : seg ≤ 1048576) : Calls Tryz.prog 25 #[.pointer (some ⟨r, 0, none⟩), .int .i64 seg] w fun e w' => ∃ q, e = .returned (.tuple #[.pointer (some ⟨q, 0, none⟩), .int .i64 0]) ∧ w.heap.size ≤ q ∧ q < w'.heap.size ∧ w'.cell? ⟨q, 1, none⟩ = some (.int .i64 seg) ∧ Below w.heap.size w w' := by
  have hc := cell_of h.head 1
  replace hc : w.cell? ⟨r, 1, none⟩ = some (.slice none 0 0) := hc
  have hr : r < w.heap.size := heap_lt h.head
  have hne : r ≠ w.heap.size := by omega
  have hb := below_new (w := w) (.cells #[.pointer (some ⟨r, 0, none⟩), .int .i64 seg, .int .i64 (-1), .slice none 0 0, .slice none 0 0] 66)
  have hat := alloc_at w (.cells #[.pointer (some ⟨r, 0, none⟩), .int .i64 seg, .int .i64 (-1), .slice none 0 0, .slice none 0 0] 66)
  have hsz : (w.alloc (.cells #[.pointer (some ⟨r, 0, none⟩), .int .i64 seg, .int .i64 (-1), .slice none 0 0, .slice none 0 0] 66)).heap.size = w.heap.size + 1 := asz _ _
  have q1 : ¬ seg < 16 := by omega
  have q2 : ¬ 1048576 < seg := by omega
  have HB := Lib.hid hb
  have HAT := Lib.hid hat
  have HSZ := Lib.hid hsz
  clear h hb hat hsz
  go_enter Tryz.func25, Tryz.ntmps25
  go_wp2_with fail
  refine wp_loop_rounds 1 ?_
  rw [rounds_succ]
  go_wp2_with fail
  refine wp_loop_rounds 1 ?_
  rw [rounds_succ]
  go_wp2_with fail
  refine wp_loop_rounds 1 ?_
  rw [rounds_succ]
  go_wp2_with fail
  refine wp_loop_rounds 1 ?_
  rw [rounds_succ]
  go_wp2_with fail
  go_ret2
  exact ⟨w.heap.size, rfl, Nat.le_refl _, by rw [HSZ.out]; omega, cell_of HAT.out 1, HB.out⟩
/-- What a law begins with. -/
def BegP (w : World) (room seg : Nat) (e : Ending) (w' : World) : Prop := ∃ t j q N, e = .returned (.tuple #[.pointer (some ⟨t, 0, none⟩), .pointer (some ⟨j, 0, none⟩), .pointer (some ⟨q, 0, none⟩)]) ∧ JAwk w w' N j t ⟨⟨room, [], -1, false⟩, seg, [], []⟩ ∧ N ≤ q ∧ q < w'.heap.size ∧ w'.cell? ⟨q, 1, none⟩ = some (.int .i64 (seg : Int))
theorem load_new (room seg : Nat) : loadP ⟨room, [], -1, false⟩ seg = (0, ⟨⟨room, [], -1, false⟩, seg, [], []⟩) := loadP_none rfl
set_option maxRecDepth 100000 in
set_option maxHeartbeats 4000000 in
theorem begun_any {w : World} (hG : Glob w) (hM : Mov w) {room seg : Nat} (hr : room ≤ 1000000) (h1 : 16 ≤ seg) (h2 : seg ≤ 1048576) : Calls Tryz.prog 28 #[.int .i64 (room : Int), .int .i64 (seg : Int)] w (BegP w room seg) := by
  have HN := Lib.hid (tp_new room (by omega) w)
  have HG := Lib.hid hG
  have HM := Lib.hid hM
  have HRN := Lib.hid (fun (V : World) => rnew_any (w := V) (room : Int))
  clear hG hM
  go_enter Tryz.func28, Tryz.ntmps28
  go_wp2_with fail
  refine (HN.out).mono ?_
  rintro e w1 ⟨t, T0, rfl, htp, hnew, hb1⟩
  have hglob : 0 ∉ T0.blocks t := fun hc => by have := hnew _ hc; have := HG.out.lt; omega
  have hmov : 1 ∉ T0.blocks t := fun hc => by have := hnew _ hc; have := HM.out.lt; omega
  have HOP := Lib.hid (jopen (seg := seg) htp (HG.out.below hb1) (HM.out.below hb1) hglob hmov h1 h2 (by show sizeS [] ≤ _; simp [sizeS]))
  rw [load_new] at HOP
  have HB1 := Lib.hid hb1
  have HNW := Lib.hid hnew
  clear htp hnew hb1 hglob hmov
  go_wp2_with fail
  refine (HOP.out).mono ?_
  intro e w2 hop
  obtain ⟨j, rfl, k2, _⟩ := awk_open HG.out HM.out HB1.out HNW.out hop rfl
  have K2 := Lib.hid k2
  clear hop k2
  go_wp2_with fail
  refine (HRN.out _).mono ?_
  rintro e w3 ⟨rfl, hr3, hb3⟩
  have HB3 := Lib.hid hb3
  have HRO := Lib.hid (ropen_new hr3 (seg := (seg : Int)) (by omega) (by omega))
  clear hr3 hb3
  go_wp2_with fail
  refine (HRO.out).mono ?_
  rintro e w4 ⟨q, rfl, hq1, hq2, hq3, hb4⟩
  have HQ1 := Lib.hid hq1
  have HQ2 := Lib.hid hq2
  have HQ3 := Lib.hid hq3
  have HB4 := Lib.hid hb4
  clear hq1 hq2 hq3 hb4
  go_wp2_with fail
  go_ret3
  exact ⟨t, j, q, w2.heap.size, rfl, (K2.out.keep HB3.out).keep HB4.out, Nat.le_trans HB3.out.size HQ1.out, HQ2.out, HQ3.out⟩
end Go.Proofs.YtnegnokielmgkaaGreatDoor

namespace Go.Proofs.YtnegnokielmgkaaGreatDoor

def newJ (room seg : Nat) : Js := ⟨⟨room, [], -1, false⟩, seg, [], []⟩
section
variable {room seg : Nat} {b : List UInt8}
theorem app_new (h : b.length ≤ room) : doS ⟨room, [], -1, false⟩ 0 0 0 b = (0, ⟨room, [(0, b, 0)], -1, false⟩) := by
  have hF : Fine ⟨room, [], -1, false⟩ 0 0 0 b := ⟨by decide, rfl, fun c => absurd rfl c, fun _ => ⟨by show b.length ≤ room - sizeS []; simpa [sizeS] using h, fun _ => by show (0 : Nat) < 64; omega⟩, fun c => by cases c⟩
  unfold doS
  rw [doP_app hF (by show (-1 : Int) ≠ 0; omega) (y := ([], 0)) rfl]
  rfl
theorem sync_new {s : Nat} : doS ⟨room, [(0, b, s)], -1, false⟩ 1 0 0 [] = (0, ⟨room, [(0, b, b.length)], -1, false⟩) := by
  have hl : lookS [((0 : Int), b, s)] 0 = some (b, s) := rfl
  have hF : Fine ⟨room, [(0, b, s)], -1, false⟩ 1 0 0 [] := ⟨by decide, rfl, fun _ => by show lookS [((0 : Int), b, s)] 0 ≠ none; rw [hl]; simp, (fun c => by cases c), (fun c => by cases c)⟩
  unfold doS
  rw [doP_sync hF (by show (-1 : Int) ≠ 0; omega) (y := (b, s)) hl]
  rfl
theorem settle_one {s : Nat} : settleP ⟨room, [(0, b, s)], -1, false⟩ = (1, 0, ⟨room, [(0, b, b.length)], -1, false⟩) := by
  have hc : curP ⟨room, [(0, b, s)], -1, false⟩ = some 0 := rfl
  unfold settleP
  rw [hc]
  show ((0 : Int) + 1, doS _ 1 0 0 []) = _
  rw [sync_new]
  rfl
theorem settle_new : settleP ⟨room, [], -1, false⟩ = (0, 0, ⟨room, [], -1, false⟩) := rfl
theorem place_new {S : Nat} : placeP ⟨room, [], -1, false⟩ S seg = (0, 0, ⟨room, [], -1, false⟩) := rfl
theorem add_new {recs : List (List UInt8)} (h0 : ¬ recs = []) (hs : ¬ ∃ l ∈ recs, 16383 < l.length) (hr : (framesB 0 recs).flatten.length ≤ room) : addP (newJ room seg) recs = (0, ⟨⟨room, [(0, (framesB 0 recs).flatten, 0)], -1, false⟩, seg, [], recs⟩) := by
  rw [addP_ok (J := newJ room seg) h0 hs rfl rfl (p2 := ⟨room, [], -1, false⟩) (seg := 0) place_new (app_new hr)]
  rfl
theorem write_new {recs : List (List UInt8)} (h0 : ¬ recs = []) (hs : ¬ ∃ l ∈ recs, 16383 < l.length) (hr : (framesB 0 recs).flatten.length ≤ room) : writeP (newJ room seg) recs = (0, ⟨⟨room, [(0, (framesB 0 recs).flatten, (framesB 0 recs).flatten.length)], -1, false⟩, seg, [], recs⟩) := by
  unfold writeP
  rw [add_new h0 hs hr, if_neg (by simp)]
  unfold syncP
  show ((settleP ⟨room, [(0, (framesB 0 recs).flatten, 0)], -1, false⟩).2.1, _) = _
  rw [settle_one]
theorem add_long {J : Js} {recs : List (List UInt8)} (hs : ∃ l ∈ recs, 16383 < l.length) : addP J recs = (7, J) := by
  unfold addP
  rw [if_neg (fun e => by rw [e] at hs; obtain ⟨l, h, _⟩ := hs; cases h), if_pos hs]
theorem write_long {J : Js} {recs : List (List UInt8)} (hs : ∃ l ∈ recs, 16383 < l.length) : writeP J recs = (7, J) := by
  unfold writeP
  rw [add_long hs]
  rfl
theorem save_long {J : Js} {st : List UInt8} (hs : 16383 < st.length) : saveP J st = (7, J) := if_pos hs
theorem save_new {st : List UInt8} (hs : ¬ 16383 < st.length) (hr : (frameB (1 :: st)).length ≤ room) : saveP (newJ room seg) st = (0, ⟨⟨room, [(0, frameB (1 :: st), (frameB (1 :: st)).length)], -1, false⟩, seg, st, []⟩) := by
  have hst : startP ⟨room, [], -1, false⟩ 0 (frameB (1 :: st)) = (0, ⟨room, [(0, frameB (1 :: st), (frameB (1 :: st)).length)], -1, false⟩) := by
    unfold startP
    rw [app_new hr, if_pos rfl]
    exact sync_new
  exact saveP_ok (J := newJ room seg) hs settle_new hst rfl
end
end Go.Proofs.YtnegnokielmgkaaGreatDoor

namespace Go.Proofs.YtnegnokielmgkaaGreatDoor
open Go.RowKit

/-- The tape behind a law's own journal. -/
theorem JAwk.used {w0 w : World} {N j t : Nat} {J : Js} (h : JAwk w0 w N j t J) : Calls Tryz.prog 38 #[.pointer (some ⟨t, 0, none⟩)] w fun e w' => e = .returned (.int .i64 (sizeS J.p.A : Nat)) ∧ Below w.heap.size w w' := by
  obtain ⟨_, _, _, _, T, sv, rv, xs, h5, _⟩ := h
  rw [← h5.tp.used]
  exact used_any h5.tp.tape
theorem over_cases (o : Int) : ∃ n : Nat, 16383 + o.tmod 20 = (n : Int) ∧ 16364 ≤ n ∧ n ≤ 16402 := by
  obtain ⟨m, hm, h⟩ := tmod_cases o 20 (by omega)
  have e : ((20 : Nat) : Int) = 20 := rfl
  rw [e] at h
  rcases h with h | ⟨_, h⟩
  · exact ⟨16383 + m, by rw [h]; omega, by omega, by omega⟩
  · exact ⟨16383 - m, by rw [h]; omega, by omega, by omega⟩
theorem new_vis (w : World) (xs : List Value) (hl : xs.length ≤ 1000) : VIs (w.alloc (.cells xs.toArray 32)) (fun k => w.heap.size ≤ k) (.slice (some ⟨w.heap.size, 0, none⟩) xs.length xs.length) xs := by
  refine ⟨_, xs.length, rfl, Nat.le_refl _, by unfold maxLen; omega, fun a e => ?_, fun i x hx => ⟨_, rfl, ?_⟩⟩
  · injection e with e
    subst e
    exact ⟨Nat.le_refl _, by rw [asz]; show w.heap.size < _; omega⟩
  · rw [add0, cell_of (alloc_at w _)]
    simpa using hx
def longB (n : Nat) : List UInt8 := List.replicate n 0
theorem longB_len (n : Nat) : (longB n).length = n := List.length_replicate
theorem own_lt {w : World} {base g n c : Nat} {l : List UInt8} (h : OwnBy w base (.slice (some ⟨g, 0, none⟩) n c) l) : g < w.heap.size := by
  rcases h with ⟨e, _⟩ | ⟨g', c', e, hC⟩
  · cases e
  · injection e with e _ _
    injection e with e
    injection e with e _ _
    rw [e]
    exact hC.lt
section
variable (n : Nat)
theorem fr_two : (framesB 0 [[120], longB n]).flatten.length = n + 17 := by
  simp [framesB, frameB_len, longB_len]
  omega
theorem fr_one : (framesB 0 [longB n]).flatten.length = n + 8 := by simp [framesB, frameB_len, longB_len]
def bigJ (recs : List (List UInt8)) (b : List UInt8) (s : Nat) (st : List UInt8) : Js := ⟨⟨60000, [(0, b, s)], -1, false⟩, 16, st, recs⟩
theorem size_big (recs : List (List UInt8)) (b : List UInt8) (s : Nat) (st : List UInt8) : sizeS (bigJ recs b s st).p.A = b.length := by simp [bigJ, sizeS]
theorem add_long_1 (h : 16383 < n) : addP (newJ 60000 16) [[120], longB n] = (7, newJ 60000 16) := add_long ⟨longB n, by simp, by rw [longB_len]; exact h⟩
theorem write_long_1 (h : 16383 < n) : writeP (newJ 60000 16) [longB n] = (7, newJ 60000 16) := write_long ⟨longB n, by simp, by rw [longB_len]; exact h⟩
theorem save_long_1 (h : 16383 < n) : saveP (newJ 60000 16) (longB n) = (7, newJ 60000 16) := save_long (by rw [longB_len]; exact h)
theorem add_ok_1 (h : n ≤ 16383) : addP (newJ 60000 16) [[120], longB n] = (0, bigJ [[120], longB n] (framesB 0 [[120], longB n]).flatten 0 []) := add_new (by simp) (fun ⟨l, hl, hx⟩ => by
  simp at hl
  rcases hl with rfl | rfl
  · simp at hx
  · rw [longB_len] at hx; omega) (by rw [fr_two]; omega)
theorem write_ok_1 (h : n ≤ 16383) : writeP (newJ 60000 16) [longB n] = (0, bigJ [longB n] (framesB 0 [longB n]).flatten (framesB 0 [longB n]).flatten.length []) := write_new (by simp) (fun ⟨l, hl, hx⟩ => by
  rw [List.mem_singleton.1 hl, longB_len] at hx
  omega) (by rw [fr_one]; omega)
theorem save_ok_1 (h : n ≤ 16383) : saveP (newJ 60000 16) (longB n) = (0, bigJ [] (frameB (1 :: longB n)) (frameB (1 :: longB n)).length (longB n)) := save_new (by rw [longB_len]; omega) (by rw [frameB_len, List.length_cons, longB_len]; omega)
end
def LongsP (w : World) (e : Ending) (w' : World) : Prop := e = .returned (.bool true) ∧ Below w.heap.size w w'
set_option maxRecDepth 100000 in
set_option maxHeartbeats 4000000 in
theorem law_longs {w : World} (hG : Glob w) (hM : Mov w) (over kind : Int) (ho : -9223372036854775808 ≤ over ∧ over ≤ 9223372036854775807) : Calls Tryz.prog 6 #[.int .i64 over, .int .i64 kind] w (LongsP w) := by
  have HBG := Lib.hid (begun_any hG hM (room := 60000) (seg := 16) (by omega) (by omega) (by omega))
  have HG := Lib.hid hG
  have HM := Lib.hid hM
  obtain ⟨n, hn, hn1, hn2⟩ := over_cases over
  have HN := Lib.hid hn
  have hw : IntKind.i64.wrap (16383 + over.tmod 20) = (n : Int) := by rw [hn]; exact IntWalk.i64_in _ (by omega)
  clear hG hM hn ho
  go_enter Tryz.func6, Tryz.ntmps6
  go_wp2_with fail
  refine (HBG.out).mono ?_
  rintro e w1 ⟨t, j, q, N, rfl, k1, _, _, _⟩
  replace k1 : JAwk w w1 N j t (newJ 60000 16) := k1
  have K1 := Lib.hid k1
  clear k1
  have hn64 : (n : Int) ≤ 16402 := by omega
  have hn16 : (16364 : Int) ≤ (n : Int) := by omega
  go_wp2_with (at_make; refine wpList_make_by _ rfl _ _ rfl w1.heap.size n n _ _ rfl rfl ?_ ?_ ?_ ?_ ?_ ?_)
  · rfl
  · rfl
  · exact Nat.le_refl _
  · omega
  · exact Nat.le_refl _
  intro w2 hown hb2
  have HOB := Lib.hid hown
  have K2 := Lib.hid (K1.out.keep hb2)
  have HB2 := Lib.hid hb2
  have HNN := Lib.hid K1.out.2.2.2.1
  clear hown hb2
  by_cases hlg : 16383 < n
  · have hl1 : (16383 : Int) < (n : Int) := by omega
    have HLG := Lib.hid hlg
    clear hlg
    go_upto_block 0 with fail
    go_cut [11] from 28 to 44 (fun ev wx => ∃ (J : Js) (N' : Nat), ev = .int .i64 7 ∧ JAwk w wx N' j t J ∧ sizeS J.p.A = 0)
    case first =>
      by_cases hk0 : kind.tmod 3 = 0
      · have c0 : (kind.tmod 3 == 0) = true := by rw [hk0]; rfl
        have hcv := Lib.run_convert_bytes_const (P := Tryz.prog) w2 32 5 #[.int .u8 120] 1 1 Tryz.underlying32 Tryz.underlying5
        have hL := new_lit w2 [120] #[.int .u8 120] (1, 2) rfl (by simp)
        have hA1 := below_new (w := w2) (.cells #[.int .u8 120] 5 (1, 2))
        have hz1 : (w2.alloc (.cells #[.int .u8 120] 5 (1, 2))).heap.size = w2.heap.size + 1 := asz _ _
        have hV := new_vis (w2.alloc (.cells #[.int .u8 120] 5 (1, 2))) [.slice (some ⟨w2.heap.size, 0, none⟩) 1 1, .slice (some ⟨w1.heap.size, 0, none⟩) n n] (by simp)
        rw [hz1] at hV
        have hA2 := below_new (w := w2.alloc (.cells #[.int .u8 120] 5 (1, 2))) (.cells #[.slice (some ⟨w2.heap.size, 0, none⟩) 1 1, .slice (some ⟨w1.heap.size, 0, none⟩) n n] 32)
        have hNw : N ≤ w2.heap.size := Nat.le_trans HNN.out HB2.out.size
        have hBF : BFs (w2.alloc (.cells #[.int .u8 120] 5 (1, 2))) (fun k => N ≤ k) [.slice (some ⟨w2.heap.size, 0, none⟩) 1 1, .slice (some ⟨w1.heap.size, 0, none⟩) n n] [[120], longB n] := by
          have x1 : BF (w2.alloc (.cells #[.int .u8 120] 5 (1, 2))) (fun k => N ≤ k) (.slice (some ⟨w2.heap.size, 0, none⟩) 1 1) [120] := ⟨hL, fun a m c e => by
            injection e with e _ _
            injection e with e
            subst e
            exact ⟨hNw, by rw [hz1]; show w2.heap.size < _; omega⟩⟩
          have x2 := (HOB.out.bf.mono (G := fun k => N ≤ k) (fun k _ hk => Nat.le_trans HNN.out hk)).below hA1
          exact (BFs.one x1).append (BFs.one x2)
        have hC : Calls Tryz.prog 31 #[.pointer (some ⟨j, 0, none⟩), .slice (some ⟨w2.heap.size + 1, 0, none⟩) 2 2] _ _ := jaw_append (recs := [[120], longB n]) (A := some ⟨w2.heap.size + 1, 0, none⟩) (c := 2) ((K2.out.keep hA1).keep hA2) (fun w' hs hk => pis_of ((hV.mono (G := fun k => N ≤ k) (fun k _ hf => by have hf : w2.heap.size + 1 ≤ k := hf; omega)).keep hs (fun k hk1 hf => hk k hk1 (.inr hf))) ((hBF.below hA2).keep hs (fun k hk1 hf => hk k hk1 (.inr hf)))) (by simp) (Nat.zero_le 900000)
        rw [add_long_1 n HLG.out] at hC
        have HC := Lib.hid hC
        clear hL hA1 hz1 hV hA2 hNw hBF hC hk0
        go_wp2_with fail
        refine (HC.out).mono ?_
        rintro e w3 ⟨rfl, k3, _⟩
        have K3 := Lib.hid k3
        clear k3 hcv
        go_wp2_with fail
        go_meet
        exact ⟨_, _, rfl, K3.out, rfl⟩
      · have c0 : (kind.tmod 3 == 0) = false := by rw [beq_eq_false_iff_ne]; exact hk0
        by_cases hk1 : kind.tmod 3 = 1
        · have c1 : (kind.tmod 3 == 1) = true := by rw [hk1]; rfl
          have hV := new_vis w2 [.slice (some ⟨w1.heap.size, 0, none⟩) n n] (by simp)
          have hA2 := below_new (w := w2) (.cells #[.slice (some ⟨w1.heap.size, 0, none⟩) n n] 32)
          have hNw : N ≤ w2.heap.size := Nat.le_trans HNN.out HB2.out.size
          have hBF : BFs w2 (fun k => N ≤ k) [.slice (some ⟨w1.heap.size, 0, none⟩) n n] [longB n] := BFs.one (HOB.out.bf.mono (G := fun k => N ≤ k) (fun k _ hk => Nat.le_trans HNN.out hk))
          have hC : Calls Tryz.prog 32 #[.pointer (some ⟨j, 0, none⟩), .slice (some ⟨w2.heap.size, 0, none⟩) 1 1] _ _ := jaw_write (recs := [longB n]) (A := some ⟨w2.heap.size, 0, none⟩) (c := 1) (K2.out.keep hA2) (fun w' hs hk => pis_of ((hV.mono (G := fun k => N ≤ k) (fun k _ hf => by have hf : w2.heap.size ≤ k := hf; omega)).keep hs (fun k hk1 hf => hk k hk1 (.inr hf))) ((hBF.below hA2).keep hs (fun k hk1 hf => hk k hk1 (.inr hf)))) (by simp) (Nat.zero_le 900000)
          rw [write_long_1 n HLG.out] at hC
          have HC := Lib.hid hC
          clear hV hA2 hNw hBF hC hk0 hk1
          go_wp2_with fail
          refine (HC.out).mono ?_
          rintro e w3 ⟨rfl, k3, _⟩
          have K3 := Lib.hid k3
          clear k3
          go_wp2_with fail
          go_meet
          exact ⟨_, _, rfl, K3.out, rfl⟩
        · have c1 : (kind.tmod 3 == 1) = false := by rw [beq_eq_false_iff_ne]; exact hk1
          have hC : Calls Tryz.prog 34 #[.pointer (some ⟨j, 0, none⟩), .slice (some ⟨w1.heap.size, 0, none⟩) (longB n).length n] _ _ := jaw_save (st := longB n) (A := some ⟨w1.heap.size, 0, none⟩) (c := n) K2.out (fun w' hs hk => by
            have h1 := HOB.out.bis
            have h2 : (longB n).length = n := List.length_replicate
            rw [h2]
            exact bis_keep' h1 hs (hk w1.heap.size (by have := K1.out.2.2.2.1; have h3 := HOB.out; exact own_lt HOB.out) (.inr HNN.out))) (by rw [show (longB n).length = n from List.length_replicate]; omega)
          rw [show (longB n).length = n from List.length_replicate, save_long_1 n HLG.out] at hC
          have HC := Lib.hid hC
          clear hC hk0 hk1
          go_wp2_with fail
          refine (HC.out).mono ?_
          rintro e w3 ⟨rfl, k3, _⟩
          have K3 := Lib.hid k3
          clear k3
          go_wp2_with fail
          go_meet
          exact ⟨_, _, rfl, K3.out, rfl⟩
    case rest =>
      obtain ⟨J, N', rfl, k3, hsz⟩ := hcut
      have K3 := Lib.hid k3
      have HU := Lib.hid k3.used
      rw [hsz] at HU
      clear k3 hsz
      go_wp2_with fail
      refine (HU.out).mono ?_
      rintro e w4 ⟨rfl, hb4⟩
      have K4 := Lib.hid (K3.out.keep hb4)
      have HAW := Lib.hid (awake5 (HG.out.below K4.out.below) (HM.out.below K4.out.below))
      clear hb4
      go_wp2_with fail
      refine (HAW.out).mono ?_
      rintro e w5 ⟨rfl, hb5⟩
      have HB5 := Lib.hid (K4.out.below.trans (hb5.mono K4.out.below.size))
      clear hb5
      go_wp2_with fail
      go_ret
      exact ⟨rfl, HB5.out⟩
  · have hl1 : ¬ (16383 : Int) < (n : Int) := by omega
    have HLG : Hid (n ≤ 16383) := Lib.hid (by omega)
    clear hlg
    go_upto_block 0 with fail
    go_cut [11] from 28 to 44 (fun ev wx => ∃ (J : Js) (N' : Nat), ev = .int .i64 0 ∧ JAwk w wx N' j t J ∧ 0 < sizeS J.p.A)
    case first =>
      by_cases hk0 : kind.tmod 3 = 0
      · have c0 : (kind.tmod 3 == 0) = true := by rw [hk0]; rfl
        have hcv := Lib.run_convert_bytes_const (P := Tryz.prog) w2 32 5 #[.int .u8 120] 1 1 Tryz.underlying32 Tryz.underlying5
        have hL := new_lit w2 [120] #[.int .u8 120] (1, 2) rfl (by simp)
        have hA1 := below_new (w := w2) (.cells #[.int .u8 120] 5 (1, 2))
        have hz1 : (w2.alloc (.cells #[.int .u8 120] 5 (1, 2))).heap.size = w2.heap.size + 1 := asz _ _
        have hV := new_vis (w2.alloc (.cells #[.int .u8 120] 5 (1, 2))) [.slice (some ⟨w2.heap.size, 0, none⟩) 1 1, .slice (some ⟨w1.heap.size, 0, none⟩) n n] (by simp)
        rw [hz1] at hV
        have hA2 := below_new (w := w2.alloc (.cells #[.int .u8 120] 5 (1, 2))) (.cells #[.slice (some ⟨w2.heap.size, 0, none⟩) 1 1, .slice (some ⟨w1.heap.size, 0, none⟩) n n] 32)
        have hNw : N ≤ w2.heap.size := Nat.le_trans HNN.out HB2.out.size
        have hBF : BFs (w2.alloc (.cells #[.int .u8 120] 5 (1, 2))) (fun k => N ≤ k) [.slice (some ⟨w2.heap.size, 0, none⟩) 1 1, .slice (some ⟨w1.heap.size, 0, none⟩) n n] [[120], longB n] := by
          have x1 : BF (w2.alloc (.cells #[.int .u8 120] 5 (1, 2))) (fun k => N ≤ k) (.slice (some ⟨w2.heap.size, 0, none⟩) 1 1) [120] := ⟨hL, fun a m c e => by
            injection e with e _ _
            injection e with e
            subst e
            exact ⟨hNw, by rw [hz1]; show w2.heap.size < _; omega⟩⟩
          have x2 := (HOB.out.bf.mono (G := fun k => N ≤ k) (fun k _ hk => Nat.le_trans HNN.out hk)).below hA1
          exact (BFs.one x1).append (BFs.one x2)
        have hC : Calls Tryz.prog 31 #[.pointer (some ⟨j, 0, none⟩), .slice (some ⟨w2.heap.size + 1, 0, none⟩) 2 2] _ _ := jaw_append (recs := [[120], longB n]) (A := some ⟨w2.heap.size + 1, 0, none⟩) (c := 2) ((K2.out.keep hA1).keep hA2) (fun w' hs hk => pis_of ((hV.mono (G := fun k => N ≤ k) (fun k _ hf => by have hf : w2.heap.size + 1 ≤ k := hf; omega)).keep hs (fun k hk1 hf => hk k hk1 (.inr hf))) ((hBF.below hA2).keep hs (fun k hk1 hf => hk k hk1 (.inr hf)))) (by simp) (Nat.zero_le 900000)
        rw [add_ok_1 n HLG.out] at hC
        have HC := Lib.hid hC
        clear hL hA1 hz1 hV hA2 hNw hBF hC hk0
        go_wp2_with fail
        refine (HC.out).mono ?_
        rintro e w3 ⟨rfl, k3, _⟩
        have K3 := Lib.hid k3
        clear k3 hcv
        go_wp2_with fail
        go_meet
        exact ⟨_, _, rfl, K3.out, by rw [size_big, fr_two]; omega⟩
      · have c0 : (kind.tmod 3 == 0) = false := by rw [beq_eq_false_iff_ne]; exact hk0
        by_cases hk1 : kind.tmod 3 = 1
        · have c1 : (kind.tmod 3 == 1) = true := by rw [hk1]; rfl
          have hV := new_vis w2 [.slice (some ⟨w1.heap.size, 0, none⟩) n n] (by simp)
          have hA2 := below_new (w := w2) (.cells #[.slice (some ⟨w1.heap.size, 0, none⟩) n n] 32)
          have hNw : N ≤ w2.heap.size := Nat.le_trans HNN.out HB2.out.size
          have hBF : BFs w2 (fun k => N ≤ k) [.slice (some ⟨w1.heap.size, 0, none⟩) n n] [longB n] := BFs.one (HOB.out.bf.mono (G := fun k => N ≤ k) (fun k _ hk => Nat.le_trans HNN.out hk))
          have hC : Calls Tryz.prog 32 #[.pointer (some ⟨j, 0, none⟩), .slice (some ⟨w2.heap.size, 0, none⟩) 1 1] _ _ := jaw_write (recs := [longB n]) (A := some ⟨w2.heap.size, 0, none⟩) (c := 1) (K2.out.keep hA2) (fun w' hs hk => pis_of ((hV.mono (G := fun k => N ≤ k) (fun k _ hf => by have hf : w2.heap.size ≤ k := hf; omega)).keep hs (fun k hk1 hf => hk k hk1 (.inr hf))) ((hBF.below hA2).keep hs (fun k hk1 hf => hk k hk1 (.inr hf)))) (by simp) (Nat.zero_le 900000)
          rw [write_ok_1 n HLG.out] at hC
          have HC := Lib.hid hC
          clear hV hA2 hNw hBF hC hk0 hk1
          go_wp2_with fail
          refine (HC.out).mono ?_
          rintro e w3 ⟨rfl, k3, _⟩
          have K3 := Lib.hid k3
          clear k3
          go_wp2_with fail
          go_meet
          exact ⟨_, _, rfl, K3.out, by rw [size_big, fr_one]; omega⟩
        · have c1 : (kind.tmod 3 == 1) = false := by rw [beq_eq_false_iff_ne]; exact hk1
          have hC : Calls Tryz.prog 34 #[.pointer (some ⟨j, 0, none⟩), .slice (some ⟨w1.heap.size, 0, none⟩) (longB n).length n] _ _ := jaw_save (st := longB n) (A := some ⟨w1.heap.size, 0, none⟩) (c := n) K2.out (fun w' hs hk => by
            have h1 := HOB.out.bis
            have h2 : (longB n).length = n := List.length_replicate
            rw [h2]
            exact bis_keep' h1 hs (hk w1.heap.size (by have := K1.out.2.2.2.1; have h3 := HOB.out; exact own_lt HOB.out) (.inr HNN.out))) (by rw [show (longB n).length = n from List.length_replicate]; omega)
          rw [show (longB n).length = n from List.length_replicate, save_ok_1 n HLG.out] at hC
          have HC := Lib.hid hC
          clear hC hk0 hk1
          go_wp2_with fail
          refine (HC.out).mono ?_
          rintro e w3 ⟨rfl, k3, _⟩
          have K3 := Lib.hid k3
          clear k3
          go_wp2_with fail
          go_meet
          exact ⟨_, _, rfl, K3.out, by rw [size_big, frameB_len]; omega⟩
    case rest =>
      obtain ⟨J, N', rfl, k3, hsz⟩ := hcut
      have K3 := Lib.hid k3
      have HU := Lib.hid k3.used
      have hs1 : (0 : Int) < (sizeS J.p.A : Nat) := by omega
      clear k3
      go_wp2_with fail
      refine (HU.out).mono ?_
      rintro e w4 ⟨rfl, hb4⟩
      have K4 := Lib.hid (K3.out.keep hb4)
      have HAW := Lib.hid (awake5 (HG.out.below K4.out.below) (HM.out.below K4.out.below))
      clear hb4
      go_wp2_with fail
      refine (HAW.out).mono ?_
      rintro e w5 ⟨rfl, hb5⟩
      have HB5 := Lib.hid (K4.out.below.trans (hb5.mono K4.out.below.size))
      clear hb5
      go_wp2_with fail
      go_ret
      exact ⟨rfl, HB5.out⟩
end Go.Proofs.YtnegnokielmgkaaGreatDoor
