/- The tape: what a law does with a tape of its own. The tape's awake. -/
import Derived.Test.YtkdcknkgfgkoaaaGreatDoorZTapO
import Derived.Test.YtkdcknkgfgkoaaaGreatDoorZTapK
import Derived.Test.YtkdcknkgfgkoaaaGreatDoorZCrcF
import Derived.Deep.RegionHeld
set_option linter.unusedSimpArgs false
set_option linter.unusedVariables false
set_option linter.unnecessarySimpa false
namespace Go.Proofs.YtkdcknkgfgkoaaaGreatDoor
open Go.RowKit
open Go.Maps (Keyed)

abbrev Abs := List (Int × List UInt8 × Nat)
/-- A tape of the law's own. -/
structure Awk (w : World) (t : Nat) (room : Nat) (A : Abs) (T : Tp) (W : World) : Prop where
  tape : TapeAt W t T
  room : T.room = room
  fused : T.fused = false
  down : T.down = false
  abs : abs T.L = A
  glob : Glob w
  new : ∀ k ∈ T.blocks t, w.heap.size ≤ k
  below : Below w.heap.size w W
section
variable {w W : World} {t room : Nat} {A : Abs} {T : Tp}
theorem Awk.keep (h : Awk w t room A T W) {W' : World} (hb : Below W.heap.size W W') : Awk w t room A T W' := ⟨h.tape.below hb, h.room, h.fused, h.down, h.abs, h.glob, h.new, h.below.trans (hb.mono h.below.size)⟩
theorem Awk.globW (h : Awk w t room A T W) : Glob W := h.glob.below h.below
theorem Awk.spent (h : Awk w t room A T W) : spent T = false := by unfold Go.Proofs.YtkdcknkgfgkoaaaGreatDoor.spent; rw [h.fused]; rfl
theorem Awk.burnt (h : Awk w t room A T W) : burnt T = T := by unfold Go.Proofs.YtkdcknkgfgkoaaaGreatDoor.burnt; rw [if_neg (by rw [h.fused]; decide)]
theorem Awk.far (h : Awk w t room A T W) : 0 ∉ T.blocks t := fun hk => by have := h.new _ hk; have := h.glob.lt; omega
theorem Awk.ready (h : Awk w t room A T W) {seg : Int} (hn : nameB seg = true) : readyE T seg = 0 := by unfold readyE; rw [hn, h.down]; rfl
theorem Awk.used (h : Awk w t room A T W) : used T.L = sumA A := by rw [← h.abs]; exact (sumA_abs _).symm
theorem Awk.len (h : Awk w t room A T W) : T.L.length = A.length := by rw [← h.abs]; simp [Go.Proofs.YtkdcknkgfgkoaaaGreatDoor.abs]
theorem Awk.at (h : Awk w t room A T W) {j : Nat} {n : Int} {b : List UInt8} {s : Nat} (hj : A[j]? = some (n, b, s)) : ∃ e, T.L[j]? = some e ∧ e.n = n ∧ e.b = b ∧ e.s = s := by
  rw [← h.abs] at hj
  unfold Go.Proofs.YtkdcknkgfgkoaaaGreatDoor.abs at hj
  rw [List.getElem?_map] at hj
  cases he : T.L[j]? with
  | none => rw [he] at hj; cases hj
  | some e =>
    rw [he] at hj
    have := Option.some.inj hj
    injection this with h1 h2
    injection h2 with h2 h3
    exact ⟨e, rfl, h1, h2, h3⟩
theorem Awk.miss (h : Awk w t room A T W) {n : Int} (hn : ∀ x ∈ A, x.1 ≠ n) : ∀ e ∈ T.L, e.n ≠ n := fun e he => hn (e.n, e.b, e.s) (by rw [← h.abs]; exact List.mem_map.2 ⟨e, he, rfl⟩)
end
theorem pis_lit {w : World} {g0 g1 n : Nat} {l : List UInt8} {cs : Array Value} {fr : Nat × Nat} (hcs : (bc l).toArray = cs) (hn : l.length = n) (hl : n ≤ 1000) (h0 : w.heap[g0]? = some (.cells cs 5 fr)) (h1 : w.heap[g1]? = some (.cells #[.slice (some ⟨g0, 0, none⟩) n n] 32 (0, 0))) :
    PIs w (.slice (some ⟨g1, 0, none⟩) 1 1) [l] := by
  subst hcs
  subst hn
  refine ⟨_, _, rfl, Nat.le_refl _, by unfold maxLen; omega, fun i m hi => ?_⟩
  match i with
  | i + 1 => simp at hi
  | 0 =>
    obtain rfl : l = m := by simpa using hi
    refine ⟨_, _, rfl, heap_lt h1, by rw [add0, cell_of h1]; rfl, _, _, rfl, Nat.le_refl _, by unfold maxLen; omega, fun i b hi => ⟨_, rfl, heap_lt h0, ?_⟩⟩
    rw [add0, cell_of h0]
    simpa using bc_some hi
/-- The world when a literal stands as the one part of an Append. -/
def litW (W : World) (cs : Array Value) (fr : Nat × Nat) (n : Nat) : World := (W.alloc (.cells cs 5 fr)).alloc (.cells #[.slice (some ⟨W.heap.size, 0, none⟩) n n] 32)
theorem litW_below (W : World) (cs : Array Value) (fr : Nat × Nat) (n : Nat) : Below W.heap.size W (litW W cs fr n) := (below_new _).trans ((below_new _).mono (by rw [asz]; omega))
theorem litW_pis {W w' : World} {l : List UInt8} {cs : Array Value} {fr : Nat × Nat} {n : Nat} (hcs : (bc l).toArray = cs) (hn : l.length = n) (hl : n ≤ 1000) (h0 : w'.heap[W.heap.size]? = (litW W cs fr n).heap[W.heap.size]?) (h1 : w'.heap[W.heap.size + 1]? = (litW W cs fr n).heap[W.heap.size + 1]?) :
    PIs w' (.slice (some ⟨W.heap.size + 1, 0, none⟩) 1 1) [l] := by
  refine pis_lit (g0 := W.heap.size) (cs := cs) (fr := fr) hcs hn hl ?_ ?_
  · rw [h0]; unfold litW
    rw [Below.heap_alloc _ _ _ (by rw [asz]; omega)]
    exact alloc_at _ _
  · rw [h1]; unfold litW
    have := alloc_at (W.alloc (.cells cs 5 fr)) (.cells #[.slice (some ⟨W.heap.size, 0, none⟩) n n] 32)
    rw [asz] at this
    exact this
section
variable {w W : World} {t room : Nat} {A : Abs} {T : Tp}
theorem awk_new (hG : Glob w) {n : Nat} (hn : n ≤ 1048576) : Calls Tryz.prog 9 #[.int .i64 (n : Int)] w fun e w' => e = .returned (.tuple #[.pointer (some ⟨w.heap.size, 0, none⟩), .int .i64 0]) ∧ Awk w w.heap.size n [] (newT n) w' :=
  (new_ok hn).mono fun e w' ⟨h1, h2, h3⟩ => ⟨h1, h2, rfl, rfl, rfl, rfl, hG, (fun k hk => by
    rcases mem_blocks.1 hk with h | h | ⟨e, he, _⟩
    · omega
    · cases h
    · cases he), h3⟩
theorem awk_append (h : Awk w t room A T W) {seg : Int} (hn : nameB seg = true) (h64 : A.length < 64) {v : Value} {Av : Option Addr} {nv cv : Nat} (ev : v = .slice Av nv cv) {ls : List (List UInt8)} (hu : sumA A + ls.flatten.length ≤ room) (hP : ∀ w', Touch (fun k => k ∈ T.blocks t) W w' → PIs w' v ls) :
    Calls Tryz.prog 22 #[.pointer (some ⟨t, 0, none⟩), .int .i64 seg, v] W fun e w' => e = .returned (.int .i64 0) ∧ ∃ T', Awk w t room (appA A seg ls.flatten) T' w' := by
  subst ev
  have hr := h.tape.room
  rw [h.room] at hr
  refine (append_ok h.globW h.tape (h.ready hn) (fun W' hW' => fits_few (h.tape.below hW') (hP W' (.of_below hW')) (by omega) (by rw [h.used, h.room]; omega) (by rw [h.len]; exact h64)) hn (.inl (by rw [h.len]; exact h64)) (ls := ls) (by rw [h.used]; omega) h.spent h.far hP).mono ?_
  rintro e w' ⟨rfl, T', h1, h2, h3, h4, h5⟩
  rw [h.burnt] at h2
  have hb : Below w.heap.size W w' := h4.below h.new h.below.size
  refine ⟨rfl, T', h1, h2.room.trans h.room, h2.fused.trans h.fused, h2.down.trans h.down, by rw [h3, h.abs], h.glob, fun k hk => ?_, h.below.trans hb⟩
  rcases h5 k hk with h6 | h6
  · exact h.new k h6
  · have := h.below.size; omega
theorem awk_lit (h : Awk w t room A T W) {seg : Int} (hn : nameB seg = true) (h64 : A.length < 64) {l : List UInt8} {cs : Array Value} {fr : Nat × Nat} {n : Nat} (hcs : (bc l).toArray = cs) (hl : l.length = n) (hm : n ≤ 1000) (hu : sumA A + n ≤ room) :
    Calls Tryz.prog 22 #[.pointer (some ⟨t, 0, none⟩), .int .i64 seg, .slice (some ⟨W.heap.size + 1, 0, none⟩) 1 1] (litW W cs fr n) fun e w' => e = .returned (.int .i64 0) ∧ ∃ T', Awk w t room (appA A seg l) T' w' := by
  have hA := h.keep (litW_below W cs fr n)
  have hs : (litW W cs fr n).heap.size = W.heap.size + 1 + 1 := by unfold litW; rw [asz, asz]
  have hN : ∀ k, W.heap.size ≤ k → k ∉ T.blocks t := fun k hk hk2 => by have := h.tape.lt k hk2; omega
  have := awk_append hA hn h64 (v := .slice (some ⟨W.heap.size + 1, 0, none⟩) 1 1) rfl (ls := [l]) (by simp; omega) (fun w' ht => litW_pis (fr := fr) hcs hl hm (ht.block _ (by omega) (hN _ (Nat.le_refl _))) (ht.block _ (by omega) (hN _ (by omega))))
  rw [show [l].flatten = l from by simp] at this
  exact this
def syncA (A : Abs) (n : Int) : Abs := A.map fun x => if x.1 = n then (x.1, x.2.1, x.2.1.length) else x
theorem awk_sync (h : Awk w t room A T W) {seg : Int} (hn : nameB seg = true) {j : Nat} {b : List UInt8} {s : Nat} (hj : A[j]? = some (seg, b, s)) :
    Calls Tryz.prog 44 #[.pointer (some ⟨t, 0, none⟩), .int .i64 seg] W fun e w' => e = .returned (.int .i64 0) ∧ ∃ T', Awk w t room (syncA A seg) T' w' := by
  obtain ⟨e, hj, he, _, _⟩ := h.at hj
  refine (sync_ok h.globW h.tape (h.ready hn) hj he h.spent h.far).mono ?_
  rintro x w' ⟨rfl, h1, h4⟩
  unfold syncT at h1
  rw [h.burnt] at h1
  have hb : Below w.heap.size W w' := h4.below h.new h.below.size
  refine ⟨rfl, _, h1, h.room, h.fused, h.down, ?_, h.glob, fun k hk => ?_, h.below.trans hb⟩
  · show Go.Proofs.YtkdcknkgfgkoaaaGreatDoor.abs (T.L.set j { e with s := e.b.length }) = _
    rw [abs_set (n := seg) hj he (fun i a hi ha => h.tape.one hi hj (by rw [ha, he])) (fun x => (x.1, x.2.1, x.2.1.length)) rfl, h.abs]
    rfl
  · refine h.new k ?_
    rcases mem_blocks.1 hk with h6 | h6 | ⟨x, hx, h6⟩
    · exact mem_blocks.2 (.inl h6)
    · exact mem_blocks.2 (.inr (.inl h6))
    · have hx : x ∈ T.L.set j { e with s := e.b.length } := hx
      rcases List.mem_or_eq_of_mem_set hx with hx | rfl
      · exact mem_blocks.2 (.inr (.inr ⟨x, hx, h6⟩))
      · exact mem_blocks.2 (.inr (.inr ⟨e, List.mem_of_getElem? hj, h6⟩))
end
end Go.Proofs.YtkdcknkgfgkoaaaGreatDoor

namespace Go.Proofs.YtkdcknkgfgkoaaaGreatDoor
open Go.RowKit
open Go.Maps (Keyed)

theorem two_sorted {ns : List Int} (hp : ns.Perm [3, 5]) (hs : ns.Pairwise (· ≤ ·)) : ns = [3, 5] := by
  have hl := hp.length_eq
  match ns, hl with
  | [a, b], _ =>
    have h3 : (3 : Int) ∈ [a, b] := hp.mem_iff.2 (by simp)
    have h5 : (5 : Int) ∈ [a, b] := hp.mem_iff.2 (by simp)
    have hab : a ≤ b := by simpa using hs
    simp at h3 h5
    have : a = 3 ∧ b = 5 := by omega
    rw [this.1, this.2]
theorem new_int (W : World) (n : Int) : IIs (W.alloc (.cells #[.int .i64 n] 3)) (.slice (some ⟨W.heap.size, 0, none⟩) 1 1) [n] := by
  refine ⟨_, _, rfl, Nat.le_refl _, by unfold maxLen; omega, fun i b hi => ?_⟩
  match i with
  | i + 1 => simp at hi
  | 0 =>
    obtain rfl : n = b := by simpa using hi
    exact ⟨_, rfl, by rw [asz]; exact Nat.lt_succ_self _, by rw [add0, cell_of (alloc_at W _)]; rfl⟩
def awA : Abs := [(3, [97, 98, 99, 100], 2), (5, [120], 0)]
theorem awA_is : appA (appA (syncA (appA [] 3 [97, 98]) 3) 3 [99, 100]) 5 [120] = awA := by decide
section
variable {w W : World} {t room : Nat} {A : Abs} {T : Tp}
theorem aw_ents (h : Awk w t room awA T W) : ∃ a b, T.L = [a, b] ∧ a.n = 3 ∧ a.b = [97, 98, 99, 100] ∧ a.s = 2 ∧ b.n = 5 ∧ b.b = [120] ∧ b.s = 0 := by
  have hl := h.len
  obtain ⟨a, ha, h1, h2, h3⟩ := h.at (j := 0) rfl
  obtain ⟨b, hb, h4, h5, h6⟩ := h.at (j := 1) rfl
  match hL : T.L, hl with
  | [x, y], _ =>
    rw [hL] at ha hb
    obtain rfl : x = a := by simpa using ha
    obtain rfl : y = b := by simpa using hb
    exact ⟨x, y, rfl, h1, h2, h3, h4, h5, h6⟩
theorem aw_crash (h : Awk w t room awA T W) : crA T.L [3, 5] [1] 2 = [(3, [97, 98, 99], 3)] := by
  obtain ⟨a, b, hL, h1, h2, h3, h4, h5, h6⟩ := aw_ents h
  rw [hL]
  simp [crA, List.range_succ, kept, keptE, lastN, List.find?, h1, h2, h3, h4, h5, h6]
theorem awk_segs (h : Awk w t room awA T W) : Calls Tryz.prog 13 #[.pointer (some ⟨t, 0, none⟩)] W fun e w' => ∃ g c, e = .returned (.slice (some ⟨g, 0, none⟩) 2 c) ∧ 2 ≤ c ∧ c ≤ maxLen ∧ w'.cell? ⟨g, 1, none⟩ = some (.int .i64 5) ∧ Below W.heap.size W w' ∧ g < w'.heap.size := by
  refine (segs_any h.tape).mono ?_
  rintro e w' ⟨v, ns, rfl, h1, h2, h3, h4, h5⟩
  obtain ⟨a, b, hL, ha, _, _, hb, _, _⟩ := aw_ents h
  rw [hL] at h2
  have hns := two_sorted (by simpa [ha, hb] using h2) h3
  subst hns
  rcases h1 with ⟨_, h, _⟩ | ⟨g, cap, rfl, hl, hc, hR⟩
  · cases h
  · exact ⟨g, cap, rfl, hc, hR.max, hR.holds 1 _ rfl, h5, hR.lt⟩
/-- Crash with one byte kept, behind it the tape that it leaves. -/
theorem awk_crash (h : Awk w t room awA T W) : Calls Tryz.prog 12 #[.pointer (some ⟨t, 0, none⟩), .slice (some ⟨W.heap.size, 0, none⟩) 1 1] (W.alloc (.cells #[.int .i64 1] 3)) fun e w' => ∃ c TC, e = .returned (.pointer (some ⟨c, 0, none⟩)) ∧ TapeAt w' c TC ∧ abs TC.L = [(3, [97, 98, 99], 3)] ∧ Below W.heap.size W w' := by
  have hb0 := below_new (w := W) (.cells #[.int .i64 1] 3)
  refine (crash_any (h.tape.below hb0) (new_int W 1) (by simp)).mono ?_
  rintro e w' ⟨c, TC, ns, rfl, h1, _, _, _, _, h2, h3, h4, _, h5⟩
  obtain ⟨a, b, hL, ha, _, _, hb, _, _⟩ := aw_ents h
  have hns : ns = [3, 5] := two_sorted (by rw [hL] at h2; simpa [ha, hb] using h2) h3
  subst hns
  rw [show ([3, 5] : List Int).length = 2 from rfl, aw_crash h] at h4
  exact ⟨c, TC, rfl, h1, h4, hb0.trans (h5.mono hb0.size)⟩
end
theorem one_ent {L : List Ent} (h : abs L = [(3, [97, 98, 99], 3)]) : ∃ e, L = [e] ∧ e.n = 3 ∧ e.b = [97, 98, 99] := by
  cases L with
  | nil => simp [abs] at h
  | cons e r =>
    cases r with
    | nil =>
      simp [abs] at h
      exact ⟨e, rfl, h.1, h.2.1⟩
    | cons x y => simp [abs] at h
set_option maxRecDepth 100000 in
set_option maxHeartbeats 2000000 in
theorem awake4 {w : World} (hG : Glob w) : Calls Tryz.prog 18 #[] w fun e w' => e = .returned (.bool true) ∧ Below w.heap.size w w' := by
  have HN := Lib.hid (awk_new hG (n := 20) (by omega))
  have HG := Lib.hid hG
  have n3 : Hid (nameB 3 = true) := by show _ = _; decide
  have n5 : Hid (nameB 5 = true) := by show _ = _; decide
  clear hG
  go_enter Tryz.func18, Tryz.ntmps18
  go_wp2_with fail
  refine (HN.out).mono ?_
  rintro e w1 ⟨rfl, k1⟩
  have K1 := Lib.hid k1
  have hcv := Lib.run_convert_bytes_const (P := Tryz.prog) w1 32 5 #[.int .u8 97, .int .u8 98] 2 2 Tryz.underlying32 Tryz.underlying5
  have HA1 := Lib.hid (awk_lit k1 n3.out (by decide) (l := [97, 98]) (cs := #[.int .u8 97, .int .u8 98]) (fr := (2, 3)) (n := 2) rfl rfl (by omega) (by decide))
  clear k1
  go_wp2_with fail
  refine (HA1.out).mono ?_
  rintro e w2 ⟨rfl, T2, k2⟩
  have K2 := Lib.hid k2
  clear hcv
  have HS := Lib.hid (awk_sync k2 n3.out (j := 0) (b := [97, 98]) (s := 0) rfl)
  clear k2
  go_wp2_with fail
  refine (HS.out).mono ?_
  rintro e w3 ⟨rfl, T3, k3⟩
  have hcv := Lib.run_convert_bytes_const (P := Tryz.prog) w3 32 5 #[.int .u8 99, .int .u8 100] 2 2 Tryz.underlying32 Tryz.underlying5
  have HA3 := Lib.hid (awk_lit k3 n3.out (by decide) (l := [99, 100]) (cs := #[.int .u8 99, .int .u8 100]) (fr := (2, 3)) (n := 2) rfl rfl (by omega) (by decide))
  clear k3
  go_wp2_with fail
  refine (HA3.out).mono ?_
  rintro e w4 ⟨rfl, T4, k4⟩
  clear hcv
  have hcv := Lib.run_convert_bytes_const (P := Tryz.prog) w4 32 5 #[.int .u8 120] 1 1 Tryz.underlying32 Tryz.underlying5
  have HA4 := Lib.hid (awk_lit k4 n5.out (by decide) (l := [120]) (cs := #[.int .u8 120]) (fr := (1, 2)) (n := 1) rfl rfl (by omega) (by decide))
  clear k4
  go_wp2_with fail
  refine (HA4.out).mono ?_
  rintro e w5 ⟨rfl, T5, k5⟩
  rw [awA_is] at k5
  have K5 := Lib.hid k5
  have HSG := Lib.hid (awk_segs k5)
  clear hcv k5
  go_wp2_with fail
  refine (HSG.out).mono ?_
  rintro e w6 ⟨g6, c6, rfl, hc6, hc7, hg6, hb6, hgl⟩
  have K6 := Lib.hid (K5.out.keep hb6)
  have HC1 := Lib.hid (awk_crash K6.out)
  have HG6 := Lib.hid (fun W (hW : Below w6.heap.size w6 W) => (hW.cell (p := ⟨g6, 1, none⟩) hgl).trans hg6)
  clear hg6 hb6
  unfold maxLen at hc7
  go_wp2_with fail
  refine (HC1.out).mono ?_
  rintro e w7 ⟨c7, T7, rfl, ht7, ha7, hb7⟩
  obtain ⟨e7, hL7, hn7, hbb7⟩ := one_ent ha7
  have HR := Lib.hid (read_hit ht7 n3.out (j := 0) (e := e7) (by rw [hL7]; rfl) hn7)
  rw [hbb7] at HR
  have HB7 := Lib.hid hb7
  clear ht7 ha7 hL7 hn7 hbb7 hb7
  go_wp2_with fail
  refine (HR.out).mono ?_
  rintro e w8 ⟨v8, rfl, ho8, hb8⟩
  have HB8 := Lib.hid (HB7.out.trans (hb8.mono HB7.out.size))
  have HO8 := Lib.hid ho8.bis
  have K8 := Lib.hid (K6.out.keep HB8.out)
  have HC2 := Lib.hid (awk_crash K8.out)
  obtain ⟨A8, cc8, ev8, q8, q8', -⟩ := ho8.bis
  replace ev8 : v8 = .slice A8 3 cc8 := ev8
  subst ev8
  replace q8 : 3 ≤ cc8 := q8
  unfold maxLen at q8'
  clear ho8 hb8
  go_wp2_with fail
  refine (HC2.out).mono ?_
  rintro e w9 ⟨c9, T9, rfl, ht9, ha9, hb9⟩
  have HB9 := Lib.hid hb9
  have HR9 := Lib.hid (read_miss (seg := 5) ((K8.out.keep HB9.out).globW) ht9 n5.out (by
    obtain ⟨e9, hL9, hn9, _⟩ := one_ent ha9
    rw [hL9]
    intro x hx
    obtain rfl := List.mem_singleton.1 hx
    rw [hn9]
    decide))
  clear ht9 ha9 hb9
  go_wp2_with fail
  refine (HR9.out).mono ?_
  rintro e w10 ⟨rfl, hb10⟩
  have HB10 := Lib.hid (HB9.out.trans (hb10.mono HB9.out.size))
  have K10 := Lib.hid (K8.out.keep HB10.out)
  have HB12 := Lib.hid (HB8.out.trans (HB10.out.mono HB8.out.size))
  have hg10 := HG6.out w10 HB12.out
  have HY := Lib.hid (aw_ents K10.out)
  have HSY : Hid (Calls Tryz.prog 16 #[.pointer (some ⟨w.heap.size, 0, none⟩), .int .i64 3] w10 fun x w' => x = .returned (.int .i64 2) ∧ w10 = w') := by
    obtain ⟨a, b, hL, h1, h2, h3, _⟩ := HY.out
    have := synced_hit K10.out.tape n3.out (j := 0) (e := a) (by rw [hL]; rfl) h1
    rw [h3] at this
    exact this
  have HU : Hid (Calls Tryz.prog 38 #[.pointer (some ⟨w.heap.size, 0, none⟩)] w10 fun x w' => x = .returned (.int .i64 5) ∧ Below w10.heap.size w10 w') := by
    have := used_any K10.out.tape
    rw [K10.out.used, show sumA awA = 5 from rfl] at this
    exact this
  have HST := Lib.hid (fun W (hW : Below w10.heap.size w10 W) => bis_string ((HO8.out.below HB10.out).below hW))
  clear hb10
  go_wp2_with fail
  refine (HSY.out).mono ?_
  rintro e w11 ⟨rfl, rfl⟩
  go_wp2_with fail
  refine (HU.out).mono ?_
  rintro e w12 ⟨rfl, hb12⟩
  have hst := HST.out _ hb12
  have HB := Lib.hid (K10.out.below.trans (hb12.mono K10.out.below.size))
  clear hb12
  go_wp2_with fail
  go_ret
  exact ⟨rfl, HB.out⟩
end Go.Proofs.YtkdcknkgfgkoaaaGreatDoor
