/- The tape's awake. -/
import Derived.Test.YtojmfjmnfpnmmaaDoorTapQ
import Derived.Deep.RegionHeld
set_option linter.unusedSimpArgs false
set_option linter.unusedVariables false
set_option linter.unnecessarySimpa false
namespace Go.Proofs.YtojmfjmnfpnmmaaDoor
open Go.RowKit
open Go.Maps (Keyed)

theorem two_sorted {ns : List Int} (hp : ns.Perm [3, 5]) (hs : ns.Pairwise (· ≤ ·)) : ns = [3, 5] := by
  have hl := hp.length_eq
  match ns, hl with
  | [a, b], _ =>
    have h3 : (3 : Int) ∈ [a, b] := hp.mem_iff.2 (by simp)
    have h5 : (5 : Int) ∈ [a, b] := hp.mem_iff.2 (by simp)
    have hab : a ≤ b := by simpa using hs
    simp at h3 h5
    have : a = 3 ∧ b = 5 := by omega
    rw [this.1, this.2]
theorem new_int (W : World) (n : Int) : IIs (W.alloc (.cells #[.int .i64 n] 3)) (.slice (some ⟨W.heap.size, 0, none⟩) 1 1) [n] := by
  refine ⟨_, _, rfl, Nat.le_refl _, by unfold maxLen; omega, fun i b hi => ?_⟩
  match i with
  | i + 1 => simp at hi
  | 0 =>
    obtain rfl : n = b := by simpa using hi
    exact ⟨_, rfl, by rw [asz]; exact Nat.lt_succ_self _, by rw [add0, cell_of (alloc_at W _)]; rfl⟩
def awA : Abs := [(3, [97, 98, 99, 100], 2), (5, [120], 0)]
theorem awA_is : appA (appA (syncA (appA [] 3 [97, 98]) 3) 3 [99, 100]) 5 [120] = awA := by decide
section
variable {w W : World} {t room : Nat} {A : Abs} {T : Tp}
theorem aw_ents (h : Awk w t room awA T W) : ∃ a b, T.L = [a, b] ∧ a.n = 3 ∧ a.b = [97, 98, 99, 100] ∧ a.s = 2 ∧ b.n = 5 ∧ b.b = [120] ∧ b.s = 0 := by
  have hl := h.len
  obtain ⟨a, ha, h1, h2, h3⟩ := h.at (j := 0) rfl
  obtain ⟨b, hb, h4, h5, h6⟩ := h.at (j := 1) rfl
  match hL : T.L, hl with
  | [x, y], _ =>
    rw [hL] at ha hb
    obtain rfl : x = a := by simpa using ha
    obtain rfl : y = b := by simpa using hb
    exact ⟨x, y, rfl, h1, h2, h3, h4, h5, h6⟩
theorem aw_crash (h : Awk w t room awA T W) : crA T.L [3, 5] [1] 2 = [(3, [97, 98, 99], 3)] := by
  obtain ⟨a, b, hL, h1, h2, h3, h4, h5, h6⟩ := aw_ents h
  rw [hL]
  simp [crA, List.range_succ, kept, keptE, lastN, List.find?, h1, h2, h3, h4, h5, h6]
theorem awk_segs (h : Awk w t room awA T W) : Calls Tryd.prog 13 #[.pointer (some ⟨t, 0, none⟩)] W fun e w' => ∃ g c, e = .returned (.slice (some ⟨g, 0, none⟩) 2 c) ∧ 2 ≤ c ∧ c ≤ maxLen ∧ w'.cell? ⟨g, 1, none⟩ = some (.int .i64 5) ∧ Below W.heap.size W w' ∧ g < w'.heap.size := by
  refine (segs_any h.tape).mono ?_
  rintro e w' ⟨v, ns, rfl, h1, h2, h3, h4, h5⟩
  obtain ⟨a, b, hL, ha, _, _, hb, _, _⟩ := aw_ents h
  rw [hL] at h2
  have hns := two_sorted (by simpa [ha, hb] using h2) h3
  subst hns
  rcases h1 with ⟨_, h, _⟩ | ⟨g, cap, rfl, hl, hc, hR⟩
  · cases h
  · exact ⟨g, cap, rfl, hc, hR.max, hR.holds 1 _ rfl, h5, hR.lt⟩
/-- Crash with one byte kept, behind it the tape that it leaves. -/
theorem awk_crash (h : Awk w t room awA T W) : Calls Tryd.prog 25 #[.pointer (some ⟨t, 0, none⟩), .slice (some ⟨W.heap.size, 0, none⟩) 1 1] (W.alloc (.cells #[.int .i64 1] 3)) fun e w' => ∃ c TC, e = .returned (.pointer (some ⟨c, 0, none⟩)) ∧ TapeAt w' c TC ∧ abs TC.L = [(3, [97, 98, 99], 3)] ∧ Below W.heap.size W w' := by
  have hb0 := below_new (w := W) (.cells #[.int .i64 1] 3)
  refine (crash_any (h.tape.below hb0) (new_int W 1) (by simp)).mono ?_
  rintro e w' ⟨c, TC, ns, rfl, h1, _, _, _, _, h2, h3, h4, _, h5⟩
  obtain ⟨a, b, hL, ha, _, _, hb, _, _⟩ := aw_ents h
  have hns : ns = [3, 5] := two_sorted (by rw [hL] at h2; simpa [ha, hb] using h2) h3
  subst hns
  rw [show ([3, 5] : List Int).length = 2 from rfl, aw_crash h] at h4
  exact ⟨c, TC, rfl, h1, h4, hb0.trans (h5.mono hb0.size)⟩
end
theorem one_ent {L : List Ent} (h : abs L = [(3, [97, 98, 99], 3)]) : ∃ e, L = [e] ∧ e.n = 3 ∧ e.b = [97, 98, 99] := by
  cases L with
  | nil => simp [abs] at h
  | cons e r =>
    cases r with
    | nil =>
      simp [abs] at h
      exact ⟨e, rfl, h.1, h.2.1⟩
    | cons x y => simp [abs] at h
set_option maxRecDepth 100000 in
set_option maxHeartbeats 2000000 in
theorem awake4 {w : World} (hG : Glob w) : Calls Tryd.prog 14 #[] w fun e w' => e = .returned (.bool true) ∧ Below w.heap.size w w' := by
  have HN := Lib.hid (awk_new hG (n := 20) (by omega))
  have HG := Lib.hid hG
  have n3 : Hid (nameB 3 = true) := by show _ = _; decide
  have n5 : Hid (nameB 5 = true) := by show _ = _; decide
  clear hG
  go_enter Tryd.func14, Tryd.ntmps14
  go_wp2_with fail
  refine (HN.out).mono ?_
  rintro e w1 ⟨rfl, k1⟩
  have K1 := Lib.hid k1
  have hcv := Lib.run_convert_bytes_const (P := Tryd.prog) w1 23 5 #[.int .u8 97, .int .u8 98] 2 2 Tryd.underlying23 Tryd.underlying5
  have HA1 := Lib.hid (awk_lit k1 n3.out (by decide) (l := [97, 98]) (cs := #[.int .u8 97, .int .u8 98]) (fr := (2, 3)) (n := 2) rfl rfl (by omega) (by decide))
  clear k1
  go_wp2_with fail
  refine (HA1.out).mono ?_
  rintro e w2 ⟨rfl, T2, k2⟩
  have K2 := Lib.hid k2
  clear hcv
  have HS := Lib.hid (awk_sync k2 n3.out (j := 0) (b := [97, 98]) (s := 0) rfl)
  clear k2
  go_wp2_with fail
  refine (HS.out).mono ?_
  rintro e w3 ⟨rfl, T3, k3⟩
  have hcv := Lib.run_convert_bytes_const (P := Tryd.prog) w3 23 5 #[.int .u8 99, .int .u8 100] 2 2 Tryd.underlying23 Tryd.underlying5
  have HA3 := Lib.hid (awk_lit k3 n3.out (by decide) (l := [99, 100]) (cs := #[.int .u8 99, .int .u8 100]) (fr := (2, 3)) (n := 2) rfl rfl (by omega) (by decide))
  clear k3
  go_wp2_with fail
  refine (HA3.out).mono ?_
  rintro e w4 ⟨rfl, T4, k4⟩
  clear hcv
  have hcv := Lib.run_convert_bytes_const (P := Tryd.prog) w4 23 5 #[.int .u8 120] 1 1 Tryd.underlying23 Tryd.underlying5
  have HA4 := Lib.hid (awk_lit k4 n5.out (by decide) (l := [120]) (cs := #[.int .u8 120]) (fr := (1, 2)) (n := 1) rfl rfl (by omega) (by decide))
  clear k4
  go_wp2_with fail
  refine (HA4.out).mono ?_
  rintro e w5 ⟨rfl, T5, k5⟩
  rw [awA_is] at k5
  have K5 := Lib.hid k5
  have HSG := Lib.hid (awk_segs k5)
  clear hcv k5
  go_wp2_with fail
  refine (HSG.out).mono ?_
  rintro e w6 ⟨g6, c6, rfl, hc6, hc7, hg6, hb6, hgl⟩
  have K6 := Lib.hid (K5.out.keep hb6)
  have HC1 := Lib.hid (awk_crash K6.out)
  have HG6 := Lib.hid (fun W (hW : Below w6.heap.size w6 W) => (hW.cell (p := ⟨g6, 1, none⟩) hgl).trans hg6)
  clear hg6 hb6
  unfold maxLen at hc7
  go_wp2_with fail
  refine (HC1.out).mono ?_
  rintro e w7 ⟨c7, T7, rfl, ht7, ha7, hb7⟩
  obtain ⟨e7, hL7, hn7, hbb7⟩ := one_ent ha7
  have HR := Lib.hid (read_hit ht7 n3.out (j := 0) (e := e7) (by rw [hL7]; rfl) hn7)
  rw [hbb7] at HR
  have HB7 := Lib.hid hb7
  clear ht7 ha7 hL7 hn7 hbb7 hb7
  go_wp2_with fail
  refine (HR.out).mono ?_
  rintro e w8 ⟨v8, rfl, ho8, hb8⟩
  have HB8 := Lib.hid (HB7.out.trans (hb8.mono HB7.out.size))
  have HO8 := Lib.hid ho8.bis
  have K8 := Lib.hid (K6.out.keep HB8.out)
  have HC2 := Lib.hid (awk_crash K8.out)
  obtain ⟨A8, cc8, ev8, q8, q8', -⟩ := ho8.bis
  replace ev8 : v8 = .slice A8 3 cc8 := ev8
  subst ev8
  replace q8 : 3 ≤ cc8 := q8
  unfold maxLen at q8'
  clear ho8 hb8
  go_wp2_with fail
  refine (HC2.out).mono ?_
  rintro e w9 ⟨c9, T9, rfl, ht9, ha9, hb9⟩
  have HB9 := Lib.hid hb9
  have HR9 := Lib.hid (read_miss (seg := 5) ((K8.out.keep HB9.out).globW) ht9 n5.out (by
    obtain ⟨e9, hL9, hn9, _⟩ := one_ent ha9
    rw [hL9]
    intro x hx
    obtain rfl := List.mem_singleton.1 hx
    rw [hn9]
    decide))
  clear ht9 ha9 hb9
  go_wp2_with fail
  refine (HR9.out).mono ?_
  rintro e w10 ⟨rfl, hb10⟩
  have HB10 := Lib.hid (HB9.out.trans (hb10.mono HB9.out.size))
  have K10 := Lib.hid (K8.out.keep HB10.out)
  have HB12 := Lib.hid (HB8.out.trans (HB10.out.mono HB8.out.size))
  have hg10 := HG6.out w10 HB12.out
  have HY := Lib.hid (aw_ents K10.out)
  have HSY : Hid (Calls Tryd.prog 21 #[.pointer (some ⟨w.heap.size, 0, none⟩), .int .i64 3] w10 fun x w' => x = .returned (.int .i64 2) ∧ w10 = w') := by
    obtain ⟨a, b, hL, h1, h2, h3, _⟩ := HY.out
    have := synced_hit K10.out.tape n3.out (j := 0) (e := a) (by rw [hL]; rfl) h1
    rw [h3] at this
    exact this
  have HU : Hid (Calls Tryd.prog 22 #[.pointer (some ⟨w.heap.size, 0, none⟩)] w10 fun x w' => x = .returned (.int .i64 5) ∧ Below w10.heap.size w10 w') := by
    have := used_any K10.out.tape
    rw [K10.out.used, show sumA awA = 5 from rfl] at this
    exact this
  have HST := Lib.hid (fun W (hW : Below w10.heap.size w10 W) => bis_string ((HO8.out.below HB10.out).below hW))
  clear hb10
  go_wp2_with fail
  refine (HSY.out).mono ?_
  rintro e w11 ⟨rfl, rfl⟩
  go_wp2_with fail
  refine (HU.out).mono ?_
  rintro e w12 ⟨rfl, hb12⟩
  have hst := HST.out _ hb12
  have HB := Lib.hid (K10.out.below.trans (hb12.mono K10.out.below.size))
  clear hb12
  go_wp2_with fail
  trace_state
  go_ret
  exact ⟨rfl, HB.out⟩
end Go.Proofs.YtojmfjmnfpnmmaaDoor
