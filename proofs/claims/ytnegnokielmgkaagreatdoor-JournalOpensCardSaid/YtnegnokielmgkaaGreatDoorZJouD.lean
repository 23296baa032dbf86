/- The journal: what the tape answered, as an error; the current segment. The journal: a tape's change beside what it leaves in plain words; settle. The journal: place, start, drop. The journal: drop. -/
import Derived.Test.YtnegnokielmgkaaGreatDoorZJouB
import Derived.Test.YtnegnokielmgkaaGreatDoorZTapS
import Derived.Test.YtnegnokielmgkaaGreatDoorZErrG
set_option linter.unusedSimpArgs false
set_option linter.unusedVariables false
set_option linter.unnecessarySimpa false
namespace Go.Proofs.YtnegnokielmgkaaGreatDoor
open Go.RowKit

set_option maxRecDepth 100000 in
theorem at_ok (n : Int) (w : World) : Calls Tryz.prog 98 #[.int .i64 n, .int .i64 0] w fun e w' => e = .returned .nilIface ∧ w = w' := by
  have HN := Lib.hid (new_zero w)
  have HA := Lib.hid (at_nil n w)
  go_enter Tryz.func98, Tryz.ntmps98
  go_wp2_with fail
  refine (HN.out).mono ?_
  rintro e w1 ⟨rfl, rfl⟩
  go_wp2_with fail
  refine (HA.out).mono ?_
  rintro e w1 ⟨rfl, rfl⟩
  go_wp2_with fail
  go_ret
  exact ⟨rfl, rfl⟩
set_option maxRecDepth 100000 in
theorem at_no (n E : Int) (hE : E ≠ 0) (w : World) : Calls Tryz.prog 98 #[.int .i64 n, .int .i64 E] w fun e w' => e = .returned (.iface 154 (.pointer (some ⟨w.heap.size, 0, none⟩))) ∧ w.alloc (.cells #[.iface 126 (.agg #[.int .i64 E]), .int .i64 n] 156) = w' := by
  have HN := Lib.hid (new_num E hE w)
  have HA := Lib.hid (at_some n 126 (.agg #[.int .i64 E]) w)
  clear hE
  go_enter Tryz.func98, Tryz.ntmps98
  go_wp2_with fail
  refine (HN.out).mono ?_
  rintro e w1 ⟨rfl, rfl⟩
  go_wp2_with fail
  refine (HA.out).mono ?_
  rintro e w1 ⟨rfl, rfl⟩
  go_wp2_with fail
  go_ret
  exact ⟨rfl, rfl⟩
/-- What at leaves: nothing, or one new block. -/
def AtP (n E : Int) (w : World) (v : Value) (w' : World) : Prop := (E = 0 ∧ v = .nilIface ∧ w = w') ∨ (E ≠ 0 ∧ v = .iface 154 (.pointer (some ⟨w.heap.size, 0, none⟩)) ∧ w' = w.alloc (.cells #[.iface 126 (.agg #[.int .i64 E]), .int .i64 n] 156))
theorem at_j (n E : Int) (w : World) : Calls Tryz.prog 98 #[.int .i64 n, .int .i64 E] w fun e w' => ∃ v, e = .returned v ∧ AtP n E w v w' := by
  by_cases hE : E = 0
  · subst hE
    exact (at_ok n w).mono fun e w' k => ⟨_, k.1, .inl ⟨rfl, rfl, k.2⟩⟩
  · exact (at_no n E hE w).mono fun e w' k => ⟨_, k.1, .inr ⟨hE, rfl, k.2.symm⟩⟩
theorem AtP.below {n E : Int} {w w' : World} {v : Value} (h : AtP n E w v w') : Below w.heap.size w w' := by
  rcases h with ⟨_, _, rfl⟩ | ⟨_, _, rfl⟩
  · exact Below.refl _ _
  · exact below_new _
/-- The error's own block, in a world that has kept it. -/
def AtE (n E : Int) (b : Nat) (w : World) (v : Value) : Prop := (E = 0 ∧ v = .nilIface) ∨ (E ≠ 0 ∧ v = .iface 154 (.pointer (some ⟨b, 0, none⟩)) ∧ b < w.heap.size ∧ w.heap[b]? = some (.cells #[.iface 126 (.agg #[.int .i64 E]), .int .i64 n] 156 (0, 0)))
theorem AtP.is {n E : Int} {w w' : World} {v : Value} (h : AtP n E w v w') : AtE n E w.heap.size w' v := by
  rcases h with ⟨h1, h2, _⟩ | ⟨h1, h2, rfl⟩
  · exact .inl ⟨h1, h2⟩
  · exact .inr ⟨h1, h2, by rw [asz]; omega, alloc_at w _⟩
theorem AtE.keep {n E : Int} {b : Nat} {w w' : World} {v : Value} (h : AtE n E b w v) (hs : w.heap.size ≤ w'.heap.size) (hk : w'.heap[b]? = w.heap[b]?) : AtE n E b w' v := by
  rcases h with h | ⟨h1, h2, h3, h4⟩
  · exact .inl h
  · exact .inr ⟨h1, h2, Nat.lt_of_lt_of_le h3 hs, hk.trans h4⟩
theorem AtE.err {n E : Int} {b : Nat} {w : World} {v : Value} (h : AtE n E b w v) : ErrP E w v w := by
  rcases h with ⟨rfl, rfl⟩ | ⟨h1, rfl, h3, h4⟩
  · exact ErrP.none w
  · refine ErrP.of [.plc n, .num E] ?_ (Below.refl _ _) ?_ (by simp) h1 ?_ (by simp)
    · exact ⟨by simp, b, _, rfl, h4, rfl, rfl⟩
    · rfl
    · exact NumOk.cons rfl (numOk_one h1)

/-! the tape in plain words -/
structure TP (w : World) (t : Nat) (T : Tp) (p : Pl) : Prop where
  tape : TapeAt w t T
  eq : (plT T).Eq p
  rises : Rises p.A
theorem TP.below {w w' : World} {t : Nat} {T : Tp} {p : Pl} (h : TP w t T p) (hb : Below w.heap.size w w') : TP w' t T p := ⟨h.tape.below hb, h.eq, h.rises⟩
theorem TP.touch {S : Nat → Prop} {w w' : World} {t : Nat} {T : Tp} {p : Pl} (h : TP w t T p) (ht : Touch S w w') (hS : ∀ k ∈ T.blocks t, ¬ S k) : TP w' t T p := ⟨h.tape.touch ht hS, h.eq, h.rises⟩
theorem abs_nums (L : List Ent) : numsOf (abs L) = L.map (·.n) := by unfold numsOf abs; rw [List.map_map]; rfl
theorem TP.nums {w : World} {t : Nat} {T : Tp} {p : Pl} (h : TP w t T p) {ns : List Int} (hp : ns.Perm (T.L.map (·.n))) (hs : ns.Pairwise (· ≤ ·)) : ns = numsOf p.A := by
  have h1 : (numsOf (abs T.L)).Perm (numsOf p.A) := numsOf_perm h.eq.A
  rw [abs_nums] at h1
  have h2 : (numsOf p.A).Pairwise (· ≤ ·) := by
    unfold numsOf
    rw [List.pairwise_map]
    exact h.rises.imp (fun h => Int.le_of_lt h)
  exact List.Perm.eq_of_pairwise (fun a b _ _ h1 h2 => Int.le_antisymm h1 h2) hs h2 (hp.trans h1)
theorem TP.few {w : World} {t : Nat} {T : Tp} {p : Pl} (h : TP w t T p) : p.A.length ≤ 64 := by
  have h1 := h.eq.A.length_eq
  have h2 : (plT T).A.length = T.L.length := abs_len T.L
  have := h.tape.few
  omega
/-- The last segment's number. -/
def curP (p : Pl) : Option Int := (numsOf p.A).getLast?
def curE (p : Pl) : Value := match curP p with
  | none => .tuple #[.int .i64 0, .iface 126 (.agg #[.int .i64 3])]
  | some s => .tuple #[.int .i64 s, .nilIface]
set_option maxRecDepth 100000 in
set_option maxHeartbeats 1000000 in
theorem current_any {w : World} {j t : Nat} {T : Tp} {p : Pl} (h : TP w t T p) (hj : w.cell? ⟨j, 0, none⟩ = some (.pointer (some ⟨t, 0, none⟩))) : Calls Tryz.prog 99 #[.pointer (some ⟨j, 0, none⟩)] w fun e w' => e = .returned (curE p) ∧ Below w.heap.size w w' := by
  have HS := Lib.hid (segs_any h.tape)
  have H := Lib.hid h
  have HN := Lib.hid (fun w => new_num 3 (by decide) w)
  clear h
  go_enter Tryz.func99, Tryz.ntmps99
  go_wp2_with fail
  refine (HS.out).mono ?_
  rintro e w1 ⟨v, ns, rfl, hrow, hperm, hso, _, hb⟩
  have hns := H.out.nums hperm hso
  have HB := Lib.hid hb
  have HROW := Lib.hid hrow
  obtain ⟨Al, cl, rfl, hl1, hl2, _, hl4, _⟩ := hrow.form
  unfold maxLen at hl2
  rcases List.eq_nil_or_concat ns with he | ⟨ms, s, he⟩
  · have HC : Hid (curE p = .tuple #[.int .i64 0, .iface 126 (.agg #[.int .i64 3])]) := by
      have : curP p = none := by unfold curP; rw [← hns, he]; rfl
      unfold curE
      rw [this]
      rfl
    have hlen : ns.length = 0 := by rw [he]; rfl
    rw [hlen]
    clear hns hperm hso hb hrow hl4 hj he hl1 hlen HROW
    go_wp2_with fail
    refine (HN.out _).mono ?_
    rintro e w2 ⟨rfl, rfl⟩
    go_wp2_with fail
    go_ret2
    exact ⟨by rw [HC.out]; rfl, HB.out⟩
  · have HC : Hid (curE p = .tuple #[.int .i64 s, .nilIface]) := by
      have : curP p = some s := by unfold curP; rw [← hns, he]; simp
      unfold curE
      rw [this]
      rfl
    have hlen : ns.length = ms.length + 1 := by rw [he]; simp
    obtain ⟨g, u, rfl, _, _, hu, hcell⟩ := row_at HROW.out (i := ms.length) (by omega)
    obtain rfl : u = .int .i64 s := by
      rw [he] at hu
      simpa using hu.symm
    rw [hlen] at hl1 HROW
    rw [hlen]
    have q1 : ((ms.length + 1 : Nat) : Int) = (ms.length : Int) + 1 := by omega
    have q2 : (((ms.length : Int) + 1) == 0) = false := by rw [beq_eq_false_iff_ne]; omega
    have q3 : ¬ (ms.length : Int) + 1 = 0 := by omega
    clear hns hperm hso hb hrow hl4 hj he hu hlen
    go_wp2_with fail
    go_ret2
    exact ⟨by rw [HC.out]; rfl, HB.out⟩
end Go.Proofs.YtnegnokielmgkaaGreatDoor

namespace Go.Proofs.YtnegnokielmgkaaGreatDoor
open Go.RowKit

theorem doP_nodup {p : Pl} (h : (numsOf p.A).Nodup) (k : Nat) (seg n : Int) (b : List UInt8) : (numsOf (doP p k seg n b).2.A).Nodup := by
  unfold doP
  split
  · exact h
  split
  · exact h
  split
  · exact h
  split
  · exact h
  split
  · exact h
  split
  · exact h
  · unfold doneP
    match k with
    | 0 => exact putS_nodup h _
    | 1 => exact putS_nodup h _
    | 2 => exact putS_nodup h _
    | k + 3 => exact dropS_nodup h _
/-- A change, the segments in order behind it. -/
def doS (p : Pl) (k : Nat) (seg n : Int) (b : List UInt8) : Int × Pl := ((doP p k seg n b).1, rise (doP p k seg n b).2)
def TPd (w : World) (t : Nat) (T : Tp) (q : Pl) (w' : World) : Prop := ∃ T', TP w' t T' q ∧ Touch (fun k => k ∈ T.blocks t) w w' ∧ ∀ k ∈ T'.blocks t, k ∈ T.blocks t ∨ w.heap.size ≤ k
theorem TPd.same {w w' : World} {t : Nat} {T : Tp} {p : Pl} (h : TP w t T p) (hb : Below w.heap.size w w') : TPd w t T p w' := ⟨T, h.below hb, .of_below hb, fun k hk => .inl hk⟩
theorem TPd.of {w w' : World} {t : Nat} {T : Tp} {p : Pl} (h : TP w t T p) {k : Nat} {seg n : Int} {b : List UInt8} (hd : TDoP w t T (doP (plT T) k seg n b).2 w') : TPd w t T (doS p k seg n b).2 w' := by
  obtain ⟨T', h1, h2, h3, h4⟩ := hd
  have h5 := (doP_eq h.tape.nums h.eq k seg n b).2
  exact ⟨T', ⟨h1, (h2.trans h5).trans (rise_eq _).symm, riseA_rises (doP_nodup h.rises.nodup k seg n b)⟩, h3, h4⟩
theorem doS_one {w : World} {t : Nat} {T : Tp} {p : Pl} (h : TP w t T p) (k : Nat) (seg n : Int) (b : List UInt8) : (doP (plT T) k seg n b).1 = (doS p k seg n b).1 := (doP_eq h.tape.nums h.eq k seg n b).1
theorem TPd.below {w w' w'' : World} {t : Nat} {T : Tp} {q : Pl} (h : TPd w t T q w') (hb : Below w'.heap.size w' w'') : TPd w t T q w'' := by
  obtain ⟨T', h1, h2, h3⟩ := h
  exact ⟨T', h1.below hb, h2.after hb, h3⟩
theorem TPd.after {w0 w w' : World} {t : Nat} {T : Tp} {q : Pl} (h : TPd w t T q w') (hb : Below w0.heap.size w0 w) : TPd w0 t T q w' := by
  obtain ⟨T', h1, h2, h3⟩ := h
  exact ⟨T', h1, Touch.ahead hb h2, fun k hk => (h3 k hk).imp id fun e => Nat.le_trans hb.size e⟩
theorem TP.bound {w : World} {t : Nat} {T : Tp} {p : Pl} (h : TP w t T p) {s : Int} (hs : s ∈ numsOf p.A) : 0 ≤ s ∧ s ≤ 1048576 := by
  have h1 : s ∈ numsOf (abs T.L) := (numsOf_perm h.eq.A).mem_iff.2 hs
  rw [abs_nums] at h1
  obtain ⟨e, he, rfl⟩ := List.mem_map.1 h1
  exact ⟨(h.tape.segs e he).lo, (h.tape.segs e he).hi⟩
theorem curP_mem {p : Pl} {s : Int} (h : curP p = some s) : s ∈ numsOf p.A := List.mem_of_getLast? h
/-- The current segment is synced: the next one's number, what the tape answers, what is left. -/
def settleP (p : Pl) : Int × Int × Pl := match curP p with
  | none => (0, 0, p)
  | some s => (s + 1, doS p 1 s 0 [])
def SetP (w : World) (t : Nat) (T : Tp) (r : Int × Int × Pl) (e : Ending) (w' : World) : Prop := ∃ v, e = .returned (.tuple #[.int .i64 r.1, v]) ∧ ErrP r.2.1 w' v w' ∧ TPd w t T r.2.2 w'
set_option maxRecDepth 100000 in
set_option maxHeartbeats 1000000 in
theorem settle_any {w : World} {j t : Nat} {T : Tp} {p : Pl} (hG : Glob w) (hg : 0 ∉ T.blocks t) (h : TP w t T p) (hj : w.cell? ⟨j, 0, none⟩ = some (.pointer (some ⟨t, 0, none⟩))) (hjb : j < w.heap.size) : Calls Tryz.prog 71 #[.pointer (some ⟨j, 0, none⟩)] w (SetP w t T (settleP p)) := by
  have HC := Lib.hid (current_any h hj)
  have HG := Lib.hid hG
  have H := Lib.hid h
  have Hg := Lib.hid hg
  clear h hG hg
  cases hc : curP p with
  | none =>
    have HE : Hid (curE p = .tuple #[.int .i64 0, .iface 126 (.agg #[.int .i64 3])]) := by unfold curE; rw [hc]; rfl
    have HS : Hid (settleP p = (0, 0, p)) := by unfold settleP; rw [hc]; rfl
    clear hc
    go_enter Tryz.func71, Tryz.ntmps71
    go_wp2_with fail
    refine (HC.out).mono ?_
    rintro e w1 ⟨rfl, hb⟩
    rw [HE.out]
    have HB := Lib.hid hb
    have HI := Lib.hid (isF_num (w := w1) 3 (by decide) (HG.out.below hb))
    clear hb
    go_wp2_with fail
    refine (HI.out).mono ?_
    rintro e w2 ⟨rfl, hb2⟩
    have HB2 := Lib.hid (HB.out.trans (hb2.mono HB.out.size))
    clear hb2
    go_wp2_with fail
    go_ret2
    rw [HS.out]
    exact ⟨_, rfl, ErrP.none _, TPd.same H.out HB2.out⟩
  | some s =>
    have HE : Hid (curE p = .tuple #[.int .i64 s, .nilIface]) := by unfold curE; rw [hc]; rfl
    have HS : Hid (settleP p = (s + 1, doS p 1 s 0 [])) := by unfold settleP; rw [hc]; rfl
    have hbd := H.out.bound (curP_mem hc)
    have hw1 : IntKind.i64.wrap (s + 1) = s + 1 := IntWalk.i64_in _ (by omega)
    clear hc
    go_enter Tryz.func71, Tryz.ntmps71
    go_wp2_with fail
    refine (HC.out).mono ?_
    rintro e w1 ⟨rfl, hb⟩
    rw [HE.out]
    have HB := Lib.hid hb
    have HI := Lib.hid (isF_nil (w := w1) 3 (HG.out.below hb))
    clear hb
    go_wp2_with fail
    refine (HI.out).mono ?_
    rintro e w2 ⟨rfl, hb2⟩
    have HB2 := Lib.hid (HB.out.trans (hb2.mono HB.out.size))
    have hj2 := (HB2.out.cell (p := ⟨j, 0, none⟩) hjb).trans hj
    have HSY := Lib.hid (tsync (HG.out.below HB2.out) (H.out.below HB2.out).tape Hg.out s 0 [])
    clear hb2 hj
    go_wp2_with fail
    refine (HSY.out).mono ?_
    rintro e w3 ⟨rfl, hd⟩
    rw [doS_one (H.out.below HB2.out)]
    have HD := Lib.hid (TPd.of (H.out.below HB2.out) hd)
    have HAT := Lib.hid (at_j s (doS p 1 s 0 []).1 w3)
    clear hd
    go_wp2_with fail
    refine (HAT.out).mono ?_
    rintro e w4 ⟨v, rfl, hat⟩
    have HA := Lib.hid hat
    clear hat
    go_wp2_with fail
    go_ret2
    rw [HS.out]
    exact ⟨_, rfl, HA.out.is.err, (HD.out.below HA.out.below).after HB2.out⟩
end Go.Proofs.YtnegnokielmgkaaGreatDoor

namespace Go.Proofs.YtnegnokielmgkaaGreatDoor
open Go.RowKit

def lenP (p : Pl) (s : Int) : Nat := ((lookS p.A s).getD ([], 0)).1.length
theorem TP.find {w : World} {t : Nat} {T : Tp} {p : Pl} (h : TP w t T p) {s : Int} (hs : s ∈ numsOf p.A) : ∃ (i : Nat) (e : Ent), T.L[i]? = some e ∧ e.n = s ∧ lookS p.A s = some (e.b, e.s) := by
  have h1 : s ∈ numsOf (abs T.L) := (numsOf_perm h.eq.A).mem_iff.2 hs
  rw [abs_nums] at h1
  obtain ⟨e, he, rfl⟩ := List.mem_map.1 h1
  obtain ⟨i, hi⟩ := List.getElem?_of_mem he
  exact ⟨i, e, hi, rfl, by rw [← lookS_perm h.tape.nums h.eq.A]; exact h.tape.lookAt hi⟩
theorem TP.name {w : World} {t : Nat} {T : Tp} {p : Pl} (h : TP w t T p) {s : Int} (hs : s ∈ numsOf p.A) : nameB s = true := nameB_iff.2 (h.bound hs)
theorem TP.len {w : World} {t : Nat} {T : Tp} {p : Pl} (h : TP w t T p) {s : Int} (hs : s ∈ numsOf p.A) : lenP p s ≤ 1048576 ∧ Calls Tryz.prog 14 #[.pointer (some ⟨t, 0, none⟩), .int .i64 s] w fun e w' => e = .returned (.int .i64 (lenP p s : Nat)) ∧ w = w' := by
  obtain ⟨i, e, hi, hn, hl⟩ := h.find hs
  have e1 : lenP p s = e.b.length := by unfold lenP; rw [hl]; rfl
  rw [e1]
  exact ⟨Nat.le_trans (used_mem (List.mem_of_getElem? hi)) h.tape.used, len_hit h.tape (h.name hs) hi hn⟩
/-- Where so many bytes go: the segment's number, what the tape answers, what is left. -/
def placeP (p : Pl) (size mx : Nat) : Int × Int × Pl := match curP p with
  | none => (0, 0, p)
  | some s => if lenP p s = 0 ∨ lenP p s + size ≤ mx then (s, 0, p) else settleP p
set_option maxRecDepth 100000 in
set_option maxHeartbeats 1000000 in
theorem place_any {w : World} {j t : Nat} {T : Tp} {p : Pl} {mx size : Nat} (hG : Glob w) (hg : 0 ∉ T.blocks t) (h : TP w t T p) (hj : w.cell? ⟨j, 0, none⟩ = some (.pointer (some ⟨t, 0, none⟩))) (hm : w.cell? ⟨j, 1, none⟩ = some (.int .i64 (mx : Int))) (hjb : j < w.heap.size) (hsz : size ≤ 1073741824) : Calls Tryz.prog 97 #[.pointer (some ⟨j, 0, none⟩), .int .i64 (size : Int)] w (SetP w t T (placeP p size mx)) := by
  have HC := Lib.hid (current_any h hj)
  have HG := Lib.hid hG
  have H := Lib.hid h
  have Hg := Lib.hid hg
  clear h hG hg
  cases hc : curP p with
  | none =>
    have HE : Hid (curE p = .tuple #[.int .i64 0, .iface 126 (.agg #[.int .i64 3])]) := by unfold curE; rw [hc]; rfl
    have HS : Hid (placeP p size mx = (0, 0, p)) := by unfold placeP; rw [hc]; rfl
    clear hc
    go_enter Tryz.func97, Tryz.ntmps97
    go_wp2_with fail
    refine (HC.out).mono ?_
    rintro e w1 ⟨rfl, hb⟩
    rw [HE.out]
    have HB := Lib.hid hb
    have HI := Lib.hid (isF_num (w := w1) 3 (by decide) (HG.out.below hb))
    clear hb
    go_wp2_with fail
    refine (HI.out).mono ?_
    rintro e w2 ⟨rfl, hb2⟩
    have HB2 := Lib.hid (HB.out.trans (hb2.mono HB.out.size))
    clear hb2
    go_wp2_with fail
    go_ret2
    rw [HS.out]
    exact ⟨_, rfl, ErrP.none _, TPd.same H.out HB2.out⟩
  | some s =>
    have HE : Hid (curE p = .tuple #[.int .i64 s, .nilIface]) := by unfold curE; rw [hc]; rfl
    have hmem := curP_mem hc
    have HM := Lib.hid hmem
    have hbd := H.out.bound hmem
    have hlm := (H.out.len hmem).1
    have HS : Hid (placeP p size mx = if lenP p s = 0 ∨ lenP p s + size ≤ mx then (s, 0, p) else settleP p) := by unfold placeP; rw [hc]; rfl
    have HLEN : Hid (∀ W, Below w.heap.size w W → Calls Tryz.prog 14 #[.pointer (some ⟨t, 0, none⟩), .int .i64 s] W fun e w' => e = .returned (.int .i64 (lenP p s : Nat)) ∧ W = w') := Lib.hid (fun W hW => ((H.out.below hW).len HM.out).2)
    clear hc hmem
    generalize lenP p s = n at *
    go_enter Tryz.func97, Tryz.ntmps97
    go_wp2_with fail
    refine (HC.out).mono ?_
    rintro e w1 ⟨rfl, hb⟩
    rw [HE.out]
    have HB := Lib.hid hb
    have HI := Lib.hid (isF_nil (w := w1) 3 (HG.out.below hb))
    clear hb
    go_wp2_with fail
    refine (HI.out).mono ?_
    rintro e w2 ⟨rfl, hb2⟩
    have HB2 := Lib.hid (HB.out.trans (hb2.mono HB.out.size))
    have hj2 := (HB2.out.cell (p := ⟨j, 0, none⟩) hjb).trans hj
    have hm2 := (HB2.out.cell (p := ⟨j, 1, none⟩) hjb).trans hm
    have HJ2 := Lib.hid hj2
    have hjb2 : j < w2.heap.size := Nat.lt_of_lt_of_le hjb HB2.out.size
    have HST := Lib.hid (settle_any (HG.out.below HB2.out) Hg.out (H.out.below HB2.out) hj2 hjb2)
    clear hb2 hj hm
    go_wp2_with fail
    refine (HLEN.out _ HB2.out).mono ?_
    rintro e w3 ⟨rfl, rfl⟩
    have HSI := Lib.hid hsz
    have HLM := Lib.hid hlm
    have hw : IntKind.i64.wrap ((n : Int) + (size : Int)) = (n : Int) + (size : Int) := IntWalk.i64_in _ (by omega)
    by_cases h0 : n = 0
    · have c0 : ((n : Int) == 0) = true := by rw [beq_iff_eq]; omega
      have H0 : Hid (placeP p size mx = (s, 0, p)) := by rw [HS.out, if_pos (.inl h0)]; exact Lib.hid rfl
      clear h0 hsz hlm
      go_wp2_with fail
      go_ret2
      rw [H0.out]
      exact ⟨_, rfl, ErrP.none _, TPd.same H.out HB2.out⟩
    · have c0 : ((n : Int) == 0) = false := by rw [beq_eq_false_iff_ne]; omega
      by_cases hle : n + size ≤ mx
      · have c1 : ((n : Int) + (size : Int)) ≤ (mx : Int) := by omega
        have c2 : decide ((n : Int) + (size : Int) ≤ (mx : Int)) = true := decide_eq_true c1
        have H0 : Hid (placeP p size mx = (s, 0, p)) := by rw [HS.out, if_pos (.inr hle)]; exact Lib.hid rfl
        clear h0 hsz hlm
        go_wp2_with fail
        go_ret2
        rw [H0.out]
        exact ⟨_, rfl, ErrP.none _, TPd.same H.out HB2.out⟩
      · have c1 : ¬ ((n : Int) + (size : Int)) ≤ (mx : Int) := by omega
        have c2 : decide ((n : Int) + (size : Int) ≤ (mx : Int)) = false := decide_eq_false c1
        have H0 : Hid (placeP p size mx = settleP p) := by rw [HS.out, if_neg (by omega)]; exact Lib.hid rfl
        clear h0 hsz hlm hle
        go_wp2_with fail
        refine (HST.out).mono ?_
        rintro e w3 ⟨v, rfl, he, hd⟩
        have HE2 := Lib.hid he
        have HD := Lib.hid hd
        clear he hd
        go_wp2_with fail
        go_ret2
        rw [H0.out]
        exact ⟨_, rfl, HE2.out, HD.out.after HB2.out⟩

theorem TPd.trans {w w1 w2 : World} {t : Nat} {T T1 : Tp} {q : Pl} (ht : Touch (fun k => k ∈ T.blocks t) w w1) (hb : ∀ k ∈ T1.blocks t, k ∈ T.blocks t ∨ w.heap.size ≤ k) (h : TPd w1 t T1 q w2) : TPd w t T q w2 := by
  obtain ⟨T', h1, h2, h3⟩ := h
  refine ⟨T', h1, ht.trans h2 (fun i hi hk => (hb i hk).elim id (fun e => by omega)), fun k hk => ?_⟩
  rcases h3 k hk with hk | hk
  · exact hb k hk
  · exact .inr (Nat.le_trans ht.size hk)
/-! start -/
def startP (p : Pl) (s : Int) (b : List UInt8) : Int × Pl := if (doS p 0 s 0 b).1 = 0 then doS (doS p 0 s 0 b).2 1 s 0 [] else doS p 0 s 0 b
def StP (w : World) (t : Nat) (T : Tp) (s : Int) (r : Int × Pl) (e : Ending) (w' : World) : Prop := ∃ v b T', e = .returned v ∧ AtE s r.1 b w' v ∧ (r.1 ≠ 0 → b ∉ T'.blocks t ∧ w.heap.size ≤ b) ∧ TP w' t T' r.2 ∧ Touch (fun k => k ∈ T.blocks t) w w' ∧ ∀ k ∈ T'.blocks t, k ∈ T.blocks t ∨ w.heap.size ≤ k
theorem Glob.touch' {S : Nat → Prop} {w w' : World} (h : Glob w) (ht : Touch S w w') (hg : ¬ S 0) : Glob w' := (World.cell?_of_block (a := ⟨0, 0, none⟩) (ht.block _ h.lt hg)).trans h
theorem cell_touch {S : Nat → Prop} {w w' : World} {j i : Nat} {u : Value} (h : w.cell? ⟨j, i, none⟩ = some u) (ht : Touch S w w') (hj : ¬ S j) : w'.cell? ⟨j, i, none⟩ = some u := (World.cell?_of_block (a := ⟨j, i, none⟩) (ht.block _ (World.block_lt_of_cell? _ _ h) hj)).trans h
theorem far_of {t : Nat} {w : World} {T T' : Tp} {k : Nat} (hk : k < w.heap.size) (h : k ∉ T.blocks t) (hb : ∀ k ∈ T'.blocks t, k ∈ T.blocks t ∨ w.heap.size ≤ k) : k ∉ T'.blocks t := fun hc => (hb k hc).elim h (fun e => by omega)
set_option maxRecDepth 100000 in
set_option maxHeartbeats 1000000 in
theorem start_any {w : World} {j t : Nat} {T : Tp} {p : Pl} {s : Int} {A : Option Addr} {m c : Nat} {ls : List (List UInt8)} (hG : Glob w) (hg : 0 ∉ T.blocks t) (h : TP w t T p) (hj : w.cell? ⟨j, 0, none⟩ = some (.pointer (some ⟨t, 0, none⟩))) (hjt : j ∉ T.blocks t)
    (hl : ls.flatten.length ≤ 1073741824) (hP : ∀ w', Touch (fun k => k ∈ T.blocks t) w w' → PIs w' (.slice A m c) ls) : Calls Tryz.prog 101 #[.pointer (some ⟨j, 0, none⟩), .int .i64 s, .slice A m c] w (StP w t T s (startP p s ls.flatten)) := by
  have HA := Lib.hid (tappend hG h.tape hg s 0 hl hP)
  have HG := Lib.hid hG
  have H := Lib.hid h
  have Hg := Lib.hid hg
  have HJ := Lib.hid hj
  have HJT := Lib.hid hjt
  clear h hG hg hP hl hjt
  go_enter Tryz.func101, Tryz.ntmps101
  go_wp2_with fail
  refine (HA.out).mono ?_
  rintro e w1 ⟨rfl, hd⟩
  rw [doS_one H.out]
  obtain ⟨T1, h1, h2, h3⟩ := TPd.of H.out hd
  have H1 := Lib.hid h1
  have H2 := Lib.hid h2
  have H3 := Lib.hid h3
  have HAT := Lib.hid (at_j s (doS p 0 s 0 ls.flatten).1 w1)
  have HST : Hid (startP p s ls.flatten = _) := rfl
  clear hd h1 h2 h3 hj
  go_wp2_with fail
  refine (HAT.out).mono ?_
  rintro e w2 ⟨v, rfl, hat⟩
  have HB := Lib.hid hat.below
  have HE := Lib.hid hat.is
  by_cases h0 : (doS p 0 s 0 ls.flatten).1 = 0
  · have hv : v = .nilIface := by
      rcases hat with ⟨_, e, _⟩ | ⟨e, _⟩
      · exact e
      · exact absurd h0 e
    subst hv
    have HS2 : Hid (startP p s ls.flatten = doS (doS p 0 s 0 ls.flatten).2 1 s 0 []) := by unfold startP; rw [if_pos h0]; exact Lib.hid rfl
    have T12 := Lib.hid (H2.out.after HB.out)
    have hj2 := cell_touch HJ.out T12.out HJT.out
    have hg1 : 0 ∉ T1.blocks t := far_of HG.out.lt Hg.out H3.out
    have HSY := Lib.hid (tsync (HG.out.touch' T12.out Hg.out) (H1.out.below HB.out).tape hg1 s 0 [])
    clear hat h0 hg1
    go_wp2_with fail
    refine (HSY.out).mono ?_
    rintro e w3 ⟨rfl, hd⟩
    rw [doS_one (H1.out.below HB.out)]
    obtain ⟨T2, k1, k2, k3⟩ := TPd.of (H1.out.below HB.out) hd
    have K1 := Lib.hid k1
    have K2 := Lib.hid k2
    have K3 := Lib.hid k3
    have HAT2 := Lib.hid (at_j s (doS (doS p 0 s 0 ls.flatten).2 1 s 0 []).1 w3)
    clear hd k1 k2 k3
    go_wp2_with fail
    refine (HAT2.out).mono ?_
    rintro e w4 ⟨v, rfl, hat⟩
    have HB4 := Lib.hid hat.below
    have HE4 := Lib.hid hat.is
    clear hat
    go_wp2_with fail
    go_ret
    rw [HS2.out]
    have hs12 := T12.out.size
    have hs23 := K2.out.size
    refine ⟨v, w3.heap.size, T2, rfl, HE4.out, fun _ => ⟨fun hc => ?_, by omega⟩, K1.out.below HB4.out, (T12.out.trans K2.out (fun i hi hk => (H3.out i hk).elim id (fun e => by omega))).after HB4.out, fun k hk => ?_⟩
    · have := K1.out.tape.lt _ hc; omega
    · rcases K3.out k hk with hk | hk
      · exact H3.out k hk
      · exact .inr (by omega)
  · have hv : ∃ tt u, v = .iface tt u := by
      rcases hat with ⟨e, _⟩ | ⟨_, e, _⟩
      · exact absurd e h0
      · exact ⟨_, _, e⟩
    obtain ⟨tt, u, rfl⟩ := hv
    have HS2 : Hid (startP p s ls.flatten = doS p 0 s 0 ls.flatten) := by unfold startP; rw [if_neg h0]; exact Lib.hid rfl
    clear hat h0
    go_wp2_with fail
    go_ret
    rw [HS2.out]
    refine ⟨_, w1.heap.size, T1, rfl, HE.out, fun _ => ⟨fun hc => ?_, H2.out.size⟩, H1.out.below HB.out, H2.out.after HB.out, H3.out⟩
    have := H1.out.tape.lt _ hc; omega
end Go.Proofs.YtnegnokielmgkaaGreatDoor

namespace Go.Proofs.YtnegnokielmgkaaGreatDoor
open Go.RowKit

def dropsP (ahead : Int) : List Int → Pl → Int × Pl
  | [], p => (0, p)
  | s :: l, p => if ahead ≤ s then (0, p) else if (doS p 3 s 0 []).1 ≠ 0 then doS p 3 s 0 [] else dropsP ahead l (doS p 3 s 0 []).2
theorem dropsP_cons (ahead s : Int) (l : List Int) (p : Pl) : dropsP ahead (s :: l) p = if ahead ≤ s then (0, p) else if (doS p 3 s 0 []).1 ≠ 0 then doS p 3 s 0 [] else dropsP ahead l (doS p 3 s 0 []).2 := rfl
def DrP (w : World) (t : Nat) (T : Tp) (r : Int × Pl) (e : Ending) (w' : World) : Prop := ∃ v, e = .returned v ∧ ErrP r.1 w' v w' ∧ TPd w t T r.2 w'
set_option maxRecDepth 100000 in
set_option maxHeartbeats 2000000 in
theorem drop_any {w : World} {j t : Nat} {T : Tp} {p : Pl} (ahead : Int) (hG : Glob w) (hg : 0 ∉ T.blocks t) (h : TP w t T p) (hj : w.cell? ⟨j, 0, none⟩ = some (.pointer (some ⟨t, 0, none⟩))) (hjt : j ∉ T.blocks t) : Calls Tryz.prog 92 #[.pointer (some ⟨j, 0, none⟩), .int .i64 ahead] w (DrP w t T (dropsP ahead (numsOf p.A) p)) := by
  have HS := Lib.hid (segs_any h.tape)
  have HG := Lib.hid hG
  have H := Lib.hid h
  have Hg := Lib.hid hg
  have HJ := Lib.hid hj
  have HJT := Lib.hid hjt
  clear h hG hg hjt
  go_enter Tryz.func92, Tryz.ntmps92
  go_wp2_with fail
  refine (HS.out).mono ?_
  rintro e w1 ⟨v, ns, rfl, hrow, hperm, hso, hown, hb⟩
  have hns := H.out.nums hperm hso
  have HNS := Lib.hid hns
  have HB := Lib.hid hb
  have HROW := Lib.hid hrow
  have HOWN := Lib.hid hown
  obtain ⟨Al, cl, rfl, hl1, hl2, _, hl4, _⟩ := hrow.form
  unfold maxLen at hl2
  clear hns hperm hso hb hrow hl4 hj hown
  go_wp2_with fail
  go_loopw [14] (fun i wx => ∃ (k : Nat) (p' : Pl), k ≤ ns.length ∧ i = .int .i64 k ∧ TPd w1 t T p' wx ∧ dropsP ahead ns p = dropsP ahead (ns.drop k) p') (fun i _ => ns.length - (intOf i).toNat)
  case atStart => exact ⟨0, p, by omega, rfl, TPd.same (H.out.below HB.out) (Below.refl _ _), by rw [List.drop_zero]⟩
  case round =>
    obtain ⟨k, p', hk, rfl, hd, hds⟩ := hrel
    have HDS := Lib.hid hds
    obtain ⟨T1, k1, k2, k3⟩ := hd
    have K1 := Lib.hid k1
    have K2 := Lib.hid k2
    have K3 := Lib.hid k3
    clear hds k1 k2 k3
    have hsz := HB.out.size
    by_cases hlt : k < ns.length
    · have hrw : RowIs wr 1 (.slice Al ns.length cl) ns.length (ns.map (Value.int .i64)) := HROW.out.touch K2.out (fun g e hc => by
        have := HOWN.out g e
        have := H.out.tape.lt g hc
        omega)
      obtain ⟨g, u, rfl, hg, _, hu, hcell⟩ := row_at hrw hlt
      obtain ⟨s, hs, rfl⟩ : ∃ s, ns[k]? = some s ∧ u = .int .i64 s := by
        rw [List.getElem?_map, List.getElem?_eq_getElem hlt] at hu
        exact ⟨_, List.getElem?_eq_getElem hlt, (Option.some.inj hu).symm⟩
      have hdr : ns.drop k = s :: ns.drop (k + 1) := by
        rw [List.drop_eq_getElem_cons hlt]
        rw [List.getElem?_eq_getElem hlt] at hs
        rw [Option.some.inj hs]
      have hjw := cell_touch ((HB.out.cell (p := ⟨j, 0, none⟩) (World.block_lt_of_cell? _ _ HJ.out)).trans HJ.out) K2.out HJT.out
      have hg1 : 0 ∉ T1.blocks t := far_of (Nat.lt_of_lt_of_le HG.out.lt hsz) Hg.out K3.out
      have HDR := Lib.hid (tdrop ((HG.out.below HB.out).touch' K2.out Hg.out) K1.out.tape hg1 s 0 [])
      have HLT := Lib.hid hlt
      have l1 : (k : Int) < (ns.length : Int) := by omega
      have HD2 := Lib.hid hdr
      clear hlt hrw hg hu hs hdr hg1
      by_cases ha : ahead ≤ s
      · have a1 : decide (ahead ≤ s) = true := decide_eq_true ha
        have HF : Hid (dropsP ahead ns p = (0, p')) := by
          rw [HDS.out, HD2.out]
          rw [dropsP_cons, if_pos ha]
          exact Lib.hid rfl
        go_wp2_with fail
        go_ret
        rw [HNS.out] at HF
        rw [HF.out]
        exact ⟨_, rfl, ErrP.none _, TPd.after ⟨T1, K1.out, K2.out, K3.out⟩ HB.out⟩
      · have a1 : decide (ahead ≤ s) = false := decide_eq_false ha
        have HA := Lib.hid ha
        go_wp2_with fail
        refine (HDR.out).mono ?_
        rintro e w3 ⟨rfl, hd⟩
        rw [doS_one K1.out]
        obtain ⟨T2, m1, m2, m3⟩ := TPd.of K1.out hd
        have HAT := Lib.hid (at_j s (doS p' 3 s 0 []).1 w3)
        have HM := Lib.hid (TPd.trans K2.out K3.out (q := (doS p' 3 s 0 []).2) ⟨T2, m1, m2, m3⟩)
        clear hd m1 m2 m3
        go_wp2_with fail
        refine (HAT.out).mono ?_
        rintro e w4 ⟨v, rfl, hat⟩
        have HB4 := Lib.hid hat.below
        have HE4 := Lib.hid hat.is
        by_cases h0 : (doS p' 3 s 0 []).1 = 0
        · have hv : v = .nilIface := by
            rcases hat with ⟨_, e, _⟩ | ⟨e, _⟩
            · exact e
            · exact absurd h0 e
          subst hv
          have HF : Hid (dropsP ahead ns p = dropsP ahead (ns.drop (k + 1)) (doS p' 3 s 0 []).2) := by
            rw [HDS.out, HD2.out]
            rw [dropsP_cons, if_neg (by have := HA.out; omega), if_neg (by simpa using h0)]
            exact Lib.hid rfl
          clear hat h0
          go_wp2_with fail
          go_roundw
          case rel => exact ⟨k + 1, _, HLT.out, by go_num, HM.out.below HB4.out, HF.out⟩
          case measure => have := HLT.out; simp [intOf]; omega
        · have hv : ∃ tt u, v = .iface tt u := by
            rcases hat with ⟨e, _⟩ | ⟨_, e, _⟩
            · exact absurd e h0
            · exact ⟨_, _, e⟩
          obtain ⟨tt, u, rfl⟩ := hv
          have HF : Hid (dropsP ahead ns p = doS p' 3 s 0 []) := by
            rw [HDS.out, HD2.out]
            rw [dropsP_cons, if_neg (by have := HA.out; omega), if_pos h0]
            exact Lib.hid rfl
          clear hat h0
          go_wp2_with fail
          go_ret
          rw [HNS.out] at HF
          rw [HF.out]
          exact ⟨_, rfl, HE4.out.err, (HM.out.below HB4.out).after HB.out⟩
    · obtain rfl : k = ns.length := by omega
      have HF : Hid (dropsP ahead ns p = (0, p')) := by
        rw [HDS.out, List.drop_length]
        exact Lib.hid rfl
      go_wp2_with fail
      go_ret
      rw [HNS.out] at HF
      rw [HF.out]
      exact ⟨_, rfl, ErrP.none _, TPd.after ⟨T1, K1.out, K2.out, K3.out⟩ HB.out⟩
end Go.Proofs.YtnegnokielmgkaaGreatDoor
