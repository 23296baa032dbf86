/- TapeKeeps: a tape and the reference's beside it, through any change and through a crash. TapeKeeps: what the law's same asks of the two tapes. TapeKeeps: the law's same. TapeKeeps: the law's same, the walk. -/
import Derived.Test.YtnegnokielmgkaaGreatDoorZRefJ
import Derived.Test.YtnegnokielmgkaaGreatDoorZKepB
import Derived.Test.YtnegnokielmgkaaGreatDoorZTapO
import Derived.Test.YtnegnokielmgkaaGreatDoorZTapK
import Derived.Test.YtnegnokielmgkaaGreatDoorZKepF
import Derived.BigQuiet
import Derived.Deep.RegionHeld
import Derived.Test.YtnegnokielmgkaaGreatDoorZCrcF
set_option linter.unusedSimpArgs false
set_option linter.unusedVariables false
set_option linter.unnecessarySimpa false
namespace Go.Proofs.YtnegnokielmgkaaGreatDoor
open Go.RowKit

theorem RefOk.touch {S : Nat → Prop} {w w' : World} {r : Nat} {R : RTp} (h : RefOk w r R) (ht : Touch S w w') (hS : ∀ k, RBlk r R k → ¬ S k) : RefOk w' r R := by
  refine ⟨⟨(ht.block r (heap_lt h.ref.head) (hS r (.inl rfl))).trans h.ref.head, h.ref.row.touch ht (fun g hg => hS g (.inr (.inl hg))), fun x hx => ⟨?_, (h.ref.segs x hx).2⟩, h.ref.own⟩, h.far, h.rises, h.few, h.used, h.room, h.fuse, fun x hx => by obtain ⟨g, n, c, e, hl⟩ := h.base x hx; exact ⟨g, n, c, e, Nat.lt_of_lt_of_le hl ht.size⟩⟩
  obtain ⟨A, cap, e, h1, h2, h3⟩ := (h.ref.segs x hx).1
  refine ⟨A, cap, e, h1, h2, fun i b hi => ?_⟩
  obtain ⟨a, q1, q2, q3⟩ := h3 i b hi
  refine ⟨a, q1, Nat.lt_of_lt_of_le q2 ht.size, ?_⟩
  exact (World.cell?_of_block (a := a.add i) (by rw [add_block]; exact ht.block _ q2 (hS _ (.inr (.inr ⟨x, hx, a, _, _, by rw [e, q1], rfl⟩))))).trans q3
structure TR (w0 w : World) (t r : Nat) (T : Tp) (R : RTp) : Prop where
  tape : TapeAt w t T
  ref : RefOk w r R
  eq : (plT T).Eq (plR R)
  glob : Glob w0
  below : Below w0.heap.size w0 w
  newT : ∀ k ∈ T.blocks t, w0.heap.size ≤ k
  newR : ∀ k, RBlk r R k → w0.heap.size ≤ k
  apart : ∀ k ∈ T.blocks t, ¬ RBlk r R k
theorem RefOk.lt {w : World} {r : Nat} {R : RTp} (h : RefOk w r R) : ∀ k, RBlk r R k → k < w.heap.size := by
  rintro k (rfl | hk | ⟨x, hx, A, n, c, e, rfl⟩)
  · exact heap_lt h.ref.head
  · exact h.ref.row.lt k hk
  · obtain ⟨g, n2, c2, e2, hl⟩ := h.base x hx
    rw [e] at e2
    injection e2 with e2 _ _
    injection e2 with e2
    subst e2
    exact hl
theorem TR.keep {w0 w w' : World} {t r : Nat} {T : Tp} {R : RTp} (h : TR w0 w t r T R) (hb : Below w.heap.size w w') : TR w0 w' t r T R :=
  ⟨h.tape.below hb, h.ref.below hb, h.eq, h.glob, h.below.trans (hb.mono h.below.size), h.newT, h.newR, h.apart⟩
theorem TR.globW {w0 w : World} {t r : Nat} {T : Tp} {R : RTp} (h : TR w0 w t r T R) : Glob w := h.glob.below h.below
theorem TR.far {w0 w : World} {t r : Nat} {T : Tp} {R : RTp} (h : TR w0 w t r T R) : 0 ∉ T.blocks t := fun hk => by have := h.newT _ hk; have := h.glob.lt; omega
theorem TR.rt {w0 w : World} {t r : Nat} {T : Tp} {R : RTp} (h : TR w0 w t r T R) : r ∉ T.blocks t := fun hk => h.apart r hk (.inl rfl)
/-- Behind the tape's own change, ahead of the reference's. -/
def Mid (w0 : World) (t r : Nat) (R : RTp) (q : Pl) (w : World) : Prop := ∃ T, TapeAt w t T ∧ (plT T).Eq q ∧ RefOk w r R ∧ Glob w0 ∧ Below w0.heap.size w0 w ∧ (∀ k ∈ T.blocks t, w0.heap.size ≤ k) ∧ (∀ k, RBlk r R k → w0.heap.size ≤ k) ∧ ∀ k ∈ T.blocks t, ¬ RBlk r R k
theorem Mid.keep {w0 w w' : World} {t r : Nat} {R : RTp} {q : Pl} (h : Mid w0 t r R q w) (hb : Below w.heap.size w w') : Mid w0 t r R q w' := by
  obtain ⟨T, h1, h2, h3, h4, h5, h6, h7, h8⟩ := h
  exact ⟨T, h1.below hb, h2, h3.below hb, h4, h5.trans (hb.mono h5.size), h6, h7, h8⟩
theorem Mid.below {w0 w : World} {t r : Nat} {R : RTp} {q : Pl} (h : Mid w0 t r R q w) : Below w0.heap.size w0 w := by
  obtain ⟨T, h1, h2, h3, h4, h5, h6, h7, h8⟩ := h
  exact h5
theorem TR.tdo {w0 w w1 : World} {t r : Nat} {T : Tp} {R : RTp} (h : TR w0 w t r T R) {q : Pl} (hd : TDoP w t T q w1) : Mid w0 t r R q w1 := by
  obtain ⟨T', h1, h2, h3, h4⟩ := hd
  have hb : Below w0.heap.size w w1 := h3.below h.newT h.below.size
  refine ⟨T', h1, h2, h.ref.touch h3 (fun k hk hT => h.apart k hT hk), h.glob, h.below.trans hb, fun k hk => ?_, h.newR, fun k hk hR => ?_⟩
  · rcases h4 k hk with hk | hk
    · exact h.newT k hk
    · have := h.below.size; omega
  · rcases h4 k hk with hk | hk
    · exact h.apart k hk hR
    · have := h.ref.lt k hR; omega
theorem Mid.rdo {w0 w1 w2 : World} {t r : Nat} {R : RTp} {q q2 : Pl} (h : Mid w0 t r R q w1) (he : q.Eq q2) (hd : DoP w1 r R q2 w2) : ∃ T' R', TR w0 w2 t r T' R' := by
  obtain ⟨T, h1, h2, h3, h4, h5, h6, h7, h8⟩ := h
  obtain ⟨R', k1, k2, k3, k4⟩ := hd
  have hrT : r ∉ T.blocks t := fun hk => h8 r hk (.inl rfl)
  have hb : Below w0.heap.size w1 w2 := k3.below (fun i hi => by subst hi; exact h7 _ (.inl rfl)) h5.size
  refine ⟨T, R', h1.touch k3 (fun k hk e => hrT (by rw [← e]; exact hk)), k1, (h2.trans he).trans k2.symm, h4, h5.trans hb, h6, fun k hk => ?_, fun k hk hR => ?_⟩
  · rcases k4 k hk with hk | hk
    · exact h7 k hk
    · have := h5.size; omega
  · rcases k4 k hR with hR | hR
    · exact h8 k hk hR
    · have := h1.lt k hk; omega
/-- One change of both, the answers alike. -/
theorem TR.doEq {w0 w : World} {t r : Nat} {T : Tp} {R : RTp} (h : TR w0 w t r T R) (k : Nat) (seg n : Int) (b : List UInt8) : (doP (plT T) k seg n b).1 = (doP (plR R) k seg n b).1 ∧ (doP (plT T) k seg n b).2.Eq (doP (plR R) k seg n b).2 := doP_eq h.tape.nums h.eq k seg n b

end Go.Proofs.YtnegnokielmgkaaGreatDoor

namespace Go.Proofs.YtnegnokielmgkaaGreatDoor
open Go.RowKit

theorem down_any {w : World} {t : Nat} {T : Tp} (hT : TapeAt w t T) : Calls Tryz.prog 17 #[.pointer (some ⟨t, 0, none⟩)] w fun e w' => e = .returned (.bool T.down) ∧ ∃ n, w' = w.drewN n := by
  have hc : w.cell? ⟨t, 4, none⟩ = some (.bool T.down) := cell_of hT.head 4
  clear hT
  cases hd : T.down with
  | true =>
    rw [hd] at hc
    go_enter Tryz.func17, Tryz.ntmps17
    go_wp2
    go_ret
    exact ⟨rfl, 0, rfl⟩
  | false =>
    rw [hd] at hc
    go_enter Tryz.func17, Tryz.ntmps17
    go_wp2
    go_ret
    exact ⟨rfl, 0, rfl⟩
section
variable {w0 w : World} {t r : Nat} {T : Tp} {R : RTp}
theorem TR.usedEq (h : TR w0 w t r T R) : rused R.L = used T.L := by
  have := sizeS_perm h.eq.A
  rw [show sizeS (plT T).A = used T.L from sizeS_abs T.L, show sizeS (plR R).A = rused R.L from absR_size R.L] at this
  exact this.symm
theorem TR.lenEq (h : TR w0 w t r T R) : R.L.length = T.L.length := by
  have := h.eq.A.length_eq
  unfold plT plR abs absR at this
  simpa using this.symm
theorem TR.roomEq (h : TR w0 w t r T R) : R.room = (T.room : Int) := by
  obtain ⟨m, e, _⟩ := h.ref.room
  have h2 : T.room = m := by
    have := h.eq.room
    unfold plT plR at this
    rw [e, Int.toNat_natCast] at this
    exact this
  rw [e, h2]
theorem TR.downEq (h : TR w0 w t r T R) : R.down = T.down := h.eq.down.symm
theorem sm_used (h : TR w0 w t r T R) : ∀ V, Below w.heap.size w V → Calls Tryz.prog 38 #[.pointer (some ⟨t, 0, none⟩)] V fun e w' => e = .returned (.int .i64 (used T.L : Nat)) ∧ Below w.heap.size w w' := fun V hV =>
  (used_any (h.tape.below hV)).mono fun e w' k => ⟨k.1, hV.trans (k.2.mono hV.size)⟩
theorem sm_rused (h : TR w0 w t r T R) : ∀ V, Below w.heap.size w V → Calls Tryz.prog 69 #[.pointer (some ⟨r, 0, none⟩)] V fun e w' => e = .returned (.int .i64 (used T.L : Nat)) ∧ Below w.heap.size w w' := fun V hV =>
  (rused_any (h.ref.ref.below hV) h.ref.few h.ref.used).mono fun e w' k => ⟨by rw [k.1, h.usedEq], hV.trans (k.2.mono hV.size)⟩
theorem sm_free (h : TR w0 w t r T R) : ∀ V, Below w.heap.size w V → Calls Tryz.prog 79 #[.pointer (some ⟨t, 0, none⟩)] V fun e w' => e = .returned (.int .i64 (T.room - used T.L : Nat)) ∧ Below w.heap.size w w' := fun V hV =>
  (free_any (h.tape.below hV)).mono fun e w' k => ⟨k.1, hV.trans (k.2.mono hV.size)⟩
theorem sm_rfree (h : TR w0 w t r T R) : ∀ V, Below w.heap.size w V → Calls Tryz.prog 63 #[.pointer (some ⟨r, 0, none⟩)] V fun e w' => e = .returned (.int .i64 (T.room - used T.L : Nat)) ∧ Below w.heap.size w w' := fun V hV =>
  (rfree_ok h.ref hV).mono fun e w' k => ⟨by rw [k.1, h.usedEq, h.roomEq, Int.toNat_natCast], k.2⟩
theorem sm_down (h : TR w0 w t r T R) : ∀ V, Below w.heap.size w V → Calls Tryz.prog 17 #[.pointer (some ⟨t, 0, none⟩)] V fun e w' => e = .returned (.bool T.down) ∧ Below w.heap.size w w' := fun V hV =>
  (down_any (h.tape.below hV)).mono fun e w' ⟨k1, n, k2⟩ => ⟨k1, by rw [k2]; exact below_drewN hV n⟩
theorem sm_cells (h : TR w0 w t r T R) : ∃ A cap, R.v = .slice A R.L.length cap ∧ cap ≤ 9223372036854775807 ∧ R.L.length ≤ cap ∧ ∀ W, Below w.heap.size w W → W.cell? ⟨r, 1, none⟩ = some (.slice A R.L.length cap) ∧ W.cell? ⟨r, 3, none⟩ = some (.bool T.down) := by
  obtain ⟨A, cap, h1, h2, h3, h4⟩ := h.ref.cells
  exact ⟨A, cap, h1, h2, h3, fun W hW => ⟨(h4 W hW).1, by rw [(h4 W hW).2, h.downEq]⟩⟩
/-- Segs: the reference's names, in its order. -/
theorem sm_segs (h : TR w0 w t r T R) : ∀ V, Below w.heap.size w V → Calls Tryz.prog 13 #[.pointer (some ⟨t, 0, none⟩)] V fun e w' => ∃ v, e = .returned v ∧ RowIs w' 1 v R.L.length ((R.L.map (·.n)).map (Value.int .i64)) ∧ (∀ g, v.ownBlock = some g → w.heap.size ≤ g) ∧ Below w.heap.size w w' := fun V hV => by
  refine (segs_any (h.tape.below hV)).mono ?_
  rintro e w' ⟨v, ns, rfl, h1, h2, h3, h4, h5⟩
  have hs : ∀ e ∈ T.L, e.s ≤ e.b.length := fun e he => (h.tape.segs e he).le
  obtain ⟨e0, _⟩ := crash_eq hs h.tape.nums h.eq.A h.ref.rises h2 h3 []
  have e1 : ns = R.L.map (·.n) := by rw [e0]; show (absR R.L).map _ = _; unfold absR; rw [List.map_map]; rfl
  have hl : ns.length = R.L.length := by rw [e1, List.length_map]
  rw [hl, e1] at h1
  exact ⟨v, rfl, h1, fun g hg => Nat.le_trans hV.size (h4 g hg), hV.trans (h5.mono hV.size)⟩
/-- The tape's entry for a segment of the reference's. -/
theorem TR.entry (h : TR w0 w t r T R) {i : Nat} {x : RSeg} (hx : R.L[i]? = some x) : ∃ (j : Nat) (e : Ent), T.L[j]? = some e ∧ e.n = x.n ∧ e.b = x.b ∧ e.s = x.s := by
  have hm : (x.n, x.b, x.s) ∈ abs T.L := h.eq.A.mem_iff.2 (List.mem_of_getElem? (absR_at hx))
  unfold abs at hm
  obtain ⟨e, he, e1⟩ := List.mem_map.1 hm
  injection e1 with e1 e2
  injection e2 with e2 e3
  obtain ⟨j, hj⟩ := List.getElem?_of_mem he
  exact ⟨j, e, hj, e1, e2, e3⟩
theorem sm_read (h : TR w0 w t r T R) {i : Nat} {x : RSeg} (hx : R.L[i]? = some x) : ∀ V, Below w.heap.size w V → Calls Tryz.prog 15 #[.pointer (some ⟨t, 0, none⟩), .int .i64 x.n] V fun e w' => ∃ v, e = .returned (.tuple #[v, .int .i64 0]) ∧ OwnBy w' V.heap.size v x.b ∧ Below V.heap.size V w' := fun V hV => by
  obtain ⟨j, e, hj, e1, e2, e3⟩ := h.entry hx
  have hT := h.tape.below hV
  have hn : nameB x.n = true := nameB_iff.2 (by have := h.tape.segs e (List.mem_of_getElem? hj); rw [← e1]; exact ⟨this.lo, this.hi⟩)
  refine (read_hit hT hn hj e1).mono ?_
  rintro y w' ⟨v, rfl, h1, h2⟩
  rw [e2] at h1
  exact ⟨v, rfl, h1, h2⟩
theorem sm_len (h : TR w0 w t r T R) {i : Nat} {x : RSeg} (hx : R.L[i]? = some x) : ∀ V, Below w.heap.size w V → Calls Tryz.prog 14 #[.pointer (some ⟨t, 0, none⟩), .int .i64 x.n] V fun e w' => e = .returned (.int .i64 (x.b.length : Nat)) ∧ V = w' := fun V hV => by
  obtain ⟨j, e, hj, e1, e2, e3⟩ := h.entry hx
  have hn : nameB x.n = true := nameB_iff.2 (by have := h.tape.segs e (List.mem_of_getElem? hj); rw [← e1]; exact ⟨this.lo, this.hi⟩)
  refine (len_hit (h.tape.below hV) hn hj e1).mono ?_
  rintro y w' ⟨rfl, rfl⟩
  exact ⟨by rw [e2], rfl⟩
theorem sm_synced (h : TR w0 w t r T R) {i : Nat} {x : RSeg} (hx : R.L[i]? = some x) : ∀ V, Below w.heap.size w V → Calls Tryz.prog 16 #[.pointer (some ⟨t, 0, none⟩), .int .i64 x.n] V fun e w' => e = .returned (.int .i64 (x.s : Nat)) ∧ V = w' := fun V hV => by
  obtain ⟨j, e, hj, e1, e2, e3⟩ := h.entry hx
  have hn : nameB x.n = true := nameB_iff.2 (by have := h.tape.segs e (List.mem_of_getElem? hj); rw [← e1]; exact ⟨this.lo, this.hi⟩)
  refine (synced_hit (h.tape.below hV) hn hj e1).mono ?_
  rintro y w' ⟨rfl, rfl⟩
  exact ⟨by rw [e3], rfl⟩
end
end Go.Proofs.YtnegnokielmgkaaGreatDoor

namespace Go.Proofs.YtnegnokielmgkaaGreatDoor
open Go.RowKit

theorem row_set {W : World} {g n c : Nat} {l : List Value} (h : RowIs W 1 (.slice (some ⟨g, 0, none⟩) n c) n l) {i : Nat} (hi : i < n) (u : Value) : RowIs (W.setCell ⟨g, i, none⟩ u) 1 (.slice (some ⟨g, 0, none⟩) n c) n (l.set i u) := by
  rcases h with ⟨e, _⟩ | ⟨g', cap, e, h1, h2, h3⟩
  · cases e
  · injection e with e _ e2
    injection e with e
    injection e with e
    subst e
    subst e2
    have hex : (W.cell? ⟨g, i, none⟩).isSome = true := (h3.there i (by omega)).1
    refine .inr ⟨g, c, rfl, by rw [List.length_set]; exact h1, h2, ⟨by rw [setCell_sz]; exact h3.lt, by rw [List.length_set]; exact h3.le, h3.max, fun j b hj => ?_, fun j hj => ?_⟩⟩
    · by_cases hij : i = j
      · subst hij
        rw [List.getElem?_set_self (by rw [h1]; omega)] at hj
        obtain rfl := Option.some.inj hj
        exact World.cell?_setCell_same' _ _ _ hex
      · rw [List.getElem?_set_ne hij] at hj
        rw [World.cell?_setCell_other _ _ _ _ (by intro e; injection e with _ e; exact hij e)]
        exact h3.holds j b hj
    · obtain ⟨q1, q2⟩ := h3.there j hj
      refine ⟨?_, by rw [World.frozen?_setCell]; exact q2⟩
      by_cases hij : i = j
      · subst hij
        rw [World.cell?_setCell_same' _ _ _ hex]; rfl
      · rw [World.cell?_setCell_other _ _ _ _ (by intro e; injection e with _ e; exact hij e)]
        exact q1
end Go.Proofs.YtnegnokielmgkaaGreatDoor

namespace Go.Proofs.YtnegnokielmgkaaGreatDoor
open Go.RowKit

theorem row_off {W : World} {v : Value} {n : Nat} {l : List Value} (h : RowIs W 1 v n l) {g i : Nat} (hg : ∀ g', v.ownBlock = some g' → g' ≠ g) (u : Value) : RowIs (W.setCell ⟨g, i, none⟩ u) 1 v n l :=
  h.touch (S := fun k => k = g) ((Touch.refl (fun k => k = g) _).setCell ⟨g, i, none⟩ (fun _ => rfl) u) hg

theorem below_put {a b : World} {B : Nat} (h : Below B a b) {g : Nat} (hg : B ≤ g) (hB : B ≤ b.heap.size) (i : Nat) (u : Value) : Below B a (b.setCell ⟨g, i, none⟩ u) :=
  h.trans (((Touch.refl (fun k => k = g) b).setCell ⟨g, i, none⟩ (fun _ => rfl) u).below (fun k e => by rw [e]; exact hg) hB)

theorem sm_lenQ {w0 w : World} {t r : Nat} {T : Tp} {R : RTp} (h : TR w0 w t r T R) {i : Nat} {x : RSeg} (hx : R.L[i]? = some x) : ∀ V, Below w.heap.size w V → Calls Tryz.prog 14 #[.pointer (some ⟨t, 0, none⟩), .int .i64 x.n] V fun e w' => e = .returned (.int .i64 (x.b.length : Nat)) ∧ w' = V := fun V hV => (sm_len h hx V hV).mono fun _ _ k => ⟨k.1, k.2.symm⟩

theorem sm_syncedQ {w0 w : World} {t r : Nat} {T : Tp} {R : RTp} (h : TR w0 w t r T R) {i : Nat} {x : RSeg} (hx : R.L[i]? = some x) : ∀ V, Below w.heap.size w V → Calls Tryz.prog 16 #[.pointer (some ⟨t, 0, none⟩), .int .i64 x.n] V fun e w' => e = .returned (.int .i64 (x.s : Nat)) ∧ w' = V := fun V hV => (sm_synced h hx V hV).mono fun _ _ k => ⟨k.1, k.2.symm⟩

set_option maxRecDepth 100000 in
set_option maxHeartbeats 4000000 in
theorem same_any {w0 w : World} {t r : Nat} {T : Tp} {R : RTp} (h : TR w0 w t r T R) : Calls Tryz.prog 48 #[.pointer (some ⟨t, 0, none⟩), .pointer (some ⟨r, 0, none⟩)] w fun e w' => e = .returned (.bool true) ∧ Below w.heap.size w w' := by
  have HU := Lib.hid (sm_used h)
  have HRU := Lib.hid (sm_rused h)
  have HF := Lib.hid (sm_free h)
  have HRF := Lib.hid (sm_rfree h)
  have HD := Lib.hid (sm_down h)
  have HSG := Lib.hid (sm_segs h)
  obtain ⟨A, cap, ev, hc2, hc1, hC⟩ := sm_cells h
  have HC := Lib.hid hC
  have HH := Lib.hid h
  have EV := Lib.hid ev
  have hfew := h.ref.few
  obtain ⟨ca, cb⟩ := hC w (Below.refl _ _)
  have HLM : Hid (∀ V, Below w.heap.size w V → Calls Tryz.prog 14 #[.pointer (some ⟨t, 0, none⟩), .int .i64 (-1)] V fun e w' => e = .returned (.int .i64 0) ∧ Below w.heap.size w w') := fun V hV => (len_no t (seg := -1) (by decide)).mono fun e w' k => ⟨k.1, hV.trans (k.2.mono hV.size)⟩
  have HSM : Hid (∀ V, Below w.heap.size w V → Calls Tryz.prog 16 #[.pointer (some ⟨t, 0, none⟩), .int .i64 (-1)] V fun e w' => e = .returned (.int .i64 0) ∧ Below w.heap.size w w') := fun V hV => (synced_no t (seg := -1) (by decide)).mono fun e w' k => ⟨k.1, hV.trans (k.2.mono hV.size)⟩
  have HSEG := Lib.hid (fun (i : Nat) (x : RSeg) (hx : R.L[i]? = some x) (W : World) (hW : Below w.heap.size w W) => (by
    obtain ⟨g, e, hg, k0, k1, k2⟩ := h.ref.ref.seg3 ev hx
    exact ⟨g, e, (hW.cell (p := ⟨g, i * 3, none⟩) hg).trans k0, (hW.cell (p := ⟨g, i * 3 + 1, none⟩) hg).trans k1, (hW.cell (p := ⟨g, i * 3 + 2, none⟩) hg).trans k2⟩ : ∃ g, A = some ⟨g, 0, none⟩ ∧ W.cell? ⟨g, i * 3, none⟩ = some (.int .i64 x.n) ∧ W.cell? ⟨g, i * 3 + 1, none⟩ = some x.v ∧ W.cell? ⟨g, i * 3 + 2, none⟩ = some (.int .i64 (x.s : Int))))
  generalize used T.L = u at *
  generalize T.room - u = f at *
  generalize T.down = dn at *
  have hdn : (dn != dn) = false := by cases dn <;> rfl
  clear h hC ev
  go_enter Tryz.func48, Tryz.ntmps48
  go_wp2_with fail
  go_region_held (fun W => W.cell? ⟨r, 3, none⟩ = some (.bool dn)) ((first | go_keep | assumption)) (first | (go_at_call 38; refine (HU.out _ (by first | assumption | exact below_drew (Below.refl _ _))).mono ?_; rintro x w1 ⟨rfl, hb1⟩; have hk1 := (HC.out _ hb1).2) | (go_at_call 69; refine (HRU.out _ (by first | assumption | exact below_drew (Below.refl _ _))).mono ?_; rintro x w2 ⟨rfl, hb2⟩; have hk2 := (HC.out _ hb2).2) | (go_at_call 79; refine (HF.out _ (by first | assumption | exact below_drew (Below.refl _ _))).mono ?_; rintro x w3 ⟨rfl, hb3⟩; have hk3 := (HC.out _ hb3).2) | (go_at_call 63; refine (HRF.out _ (by first | assumption | exact below_drew (Below.refl _ _))).mono ?_; rintro x w4 ⟨rfl, hb4⟩; have hk4 := (HC.out _ hb4).2) | (go_at_call 17; refine (HD.out _ (by first | assumption | exact below_drew (Below.refl _ _))).mono ?_; rintro x w5 ⟨rfl, hb5⟩; have hk5 := (HC.out _ hb5).2))
  have HB5 := Lib.hid hb5
  clear hb1 hb2 hb3 hb4 hb5 hk1 hk2 hk3 hk4 hk5 ca cb
  go_wp2_with fail
  refine (HSG.out _ HB5.out).mono ?_
  rintro x w6 ⟨v, rfl, hrow, hown, hb6⟩
  have HB6 := Lib.hid hb6
  obtain ⟨Al, cl, rfl, hl1, hl2, _, hl4, _⟩ := hrow.form
  have HOWN : Hid (∀ g, Al = some ⟨g, 0, none⟩ → w.heap.size ≤ g) := fun g e => hown g (by rw [e]; rfl)
  obtain ⟨c6, _⟩ := HC.out _ hb6
  have HROW := Lib.hid hrow
  unfold maxLen at hl2
  clear hrow hown hb6 hl4
  go_wp2_with fail
  go_loopw [51] (fun i wr => ∃ (k : Nat) (ls : List Int), k ≤ R.L.length ∧ i = .int .i64 k ∧ RowIs wr 1 (.slice Al R.L.length cl) R.L.length (ls.map (Value.int .i64)) ∧ (∀ j, k ≤ j → ls[j]? = (R.L.map (·.n))[j]?) ∧ Below w.heap.size w wr) (fun i _ => R.L.length - (intOf i).toNat)
  case atStart => exact ⟨0, _, by omega, rfl, HROW.out, fun _ _ => rfl, HB6.out⟩
  case round =>
    obtain ⟨k, ls, hk, rfl, hrow, hls, hb⟩ := hrel
    have HB := Lib.hid hb
    have HLS := Lib.hid hls
    have HRW := Lib.hid hrow
    clear c6 hls hrow hb
    obtain ⟨wo, rfl⟩ : ∃ wo : World, wo = wr := ⟨_, rfl⟩
    by_cases hlt : k < R.L.length
    · have hxk : R.L[k]? = some R.L[k] := List.getElem?_eq_getElem hlt
      obtain ⟨g, rfl, k0, k1, k2⟩ := HSEG.out k _ hxk wo HB.out
      obtain ⟨gx, nx, cx, ex, _⟩ := HH.out.ref.base _ (List.getElem_mem hlt)
      have HBX := Lib.hid ((HH.out.ref.ref.segs _ (List.getElem_mem hlt)).1.below HB.out)
      have HX := Lib.hid hxk
      have hlk : ls[k]? = some R.L[k].n := by rw [HLS.out k (Nat.le_refl _), List.getElem?_map, hxk]; rfl
      generalize R.L[k] = x at *
      obtain ⟨A3, c3, e3, hx1, hx2, _⟩ := HBX.out
      rw [ex] at e3
      injection e3 with e3 e4 e5
      subst e4
      subst e5
      subst e3
      rw [ex] at k1
      have EX := Lib.hid ex
      have ha : (⟨g, 0, none⟩ : Addr).add (k * 3) = ⟨g, k * 3, none⟩ := add0 _ _
      obtain ⟨gl, rfl, hcl⟩ : ∃ gl, Al = some ⟨gl, 0, none⟩ ∧ wo.cell? ⟨gl, k, none⟩ = some (.int .i64 x.n) := by
        obtain ⟨A2, c2, e2, _, _, _, _, h6⟩ := HRW.out.form
        injection e2 with e2 _ _
        subst e2
        exact h6 k _ (by rw [List.getElem?_map, hlk]; rfl)
      have HBA := Lib.hid (below_new (w := wo) (.cells #[.int .i64 x.n, .slice (some ⟨gx, 0, none⟩) x.b.length cx, .int .i64 (x.s : Int)] 108))
      have HBW := Lib.hid (HB.out.trans (HBA.out.mono HB.out.size))
      have HRD := Lib.hid (sm_read HH.out HX.out _ HBW.out)
      have hgl : gl < wo.heap.size := HRW.out.lt gl rfl
      have hclA := cell_old hcl hgl (.cells #[.int .i64 x.n, .slice (some ⟨gx, 0, none⟩) x.b.length cx, .int .i64 (x.s : Int)] 108)
      have HBOX := Lib.hid (alloc_at wo (.cells #[.int .i64 x.n, .slice (some ⟨gx, 0, none⟩) x.b.length cx, .int .i64 (x.s : Int)] 108))
      replace hlt : (k : Int) < (R.L.length : Int) := by omega
      clear hxk ex
      go_wp2_with fail
      refine (HRD.out).mono ?_
      rintro y w7 ⟨v8, rfl, ho8, hb8⟩
      have HO8 := Lib.hid ho8
      have HB8 := Lib.hid hb8
      have HW7 := Lib.hid (HBW.out.trans (hb8.mono HBW.out.size))
      have HQ : Hid (wo.heap.size < (wo.alloc (.cells #[.int .i64 x.n, .slice (some ⟨gx, 0, none⟩) x.b.length cx, .int .i64 (x.s : Int)] 108)).heap.size) := by show _ < _; rw [asz]; omega
      have hcl7 := (hb8.cell (p := ⟨gl, k, none⟩) (Nat.lt_trans hgl HQ.out)).trans hclA
      have hbx7 := (hb8.block wo.heap.size HQ.out).trans HBOX.out
      have z0 := cell_of hbx7 0
      have z1 := cell_of hbx7 1
      have z2 := cell_of hbx7 2
      simp at z0 z1 z2
      have HLN := Lib.hid (fun m => sm_lenQ HH.out HX.out (w7.drewN m) (below_drewN HW7.out m))
      have HSN := Lib.hid (fun m => sm_syncedQ HH.out HX.out (w7.drewN m) (below_drewN HW7.out m))
      have hb8is : BIs w7 v8 x.b := (own_row ho8).1 |> row_bis
      have HS1 : Hid (BIs w7 (.slice (some ⟨gx, 0, none⟩) x.b.length cx) x.b) := by
        have := ((HH.out.ref.ref.segs x (List.mem_of_getElem? HX.out)).1).below HW7.out
        rw [EX.out] at this
        exact this
      have HB8I := Lib.hid hb8is
      obtain ⟨A8, c8, e8, h81, h82, h83⟩ := hb8is
      unfold maxLen at h82
      subst e8
      have cv1 : ∀ m, (convert 32 9 (.slice A8 x.b.length c8)).run Tryz.prog (w7.drewN m) = .ok (.string ⟨x.b.toArray⟩) (w7.drewN m) := fun m => bis_string (HB8I.out.below (below_drewN (Below.refl _ _) m))
      have cv2 : ∀ m, (convert 32 9 (.slice (some ⟨gx, 0, none⟩) x.b.length cx)).run Tryz.prog (w7.drewN m) = .ok (.string ⟨x.b.toArray⟩) (w7.drewN m) := fun m => bis_string (HS1.out.below (below_drewN (Below.refl _ _) m))
      have HBB : Hid (Below wo.heap.size wo w7) := Lib.hid (HBA.out.trans (hb8.mono HBA.out.size))
      have hkn : k < R.L.length := by omega
      have hfz : w7.frozen? ⟨gl, k, none⟩ = false := by
        obtain ⟨gq, uq, eq, _, hq, _⟩ := row_at (HRW.out.below HBB.out) hkn
        cases eq
        exact hq
      have HO1 : Hid (RowIs w7 1 (.slice A8 x.b.length c8) x.b.length (bc x.b)) := (own_row HO8.out).1
      have HO2 : Hid (∀ g', (Value.slice A8 x.b.length c8).ownBlock = some g' → wo.heap.size < g') := fun g' e => Nat.lt_of_lt_of_le HQ.out ((own_row HO8.out).2 g' e)
      have HKN := Lib.hid hkn
      clear ho8 hb8 hbx7 hclA hcl k0 k1 k2 h83 hlk hkn
      go_wp2_with fail
      go_quiet ((first | (go_at_call 14; exact Calls.quiet_of_same (HLN.out _)) | (go_at_call 16; exact Calls.quiet_of_same (HSN.out _))))
      go_wp2_with fail
      go_loopw [106] (fun i wx => ∃ (j : Nat) (vs : List Value), j ≤ x.b.length ∧ i = .int .i64 j ∧ Below w.heap.size w wx ∧ RowIs wx 1 (.slice (some ⟨gl, 0, none⟩) R.L.length cl) R.L.length ((ls.set k (-1)).map (Value.int .i64)) ∧ RowIs wx 1 (.slice A8 x.b.length c8) x.b.length vs ∧ ∀ (q : Nat) (v : Value), vs[q]? = some v → ∃ z : Int, v = .int .u8 z) (fun i _ => x.b.length - (intOf i).toNat)
      case atStart =>
        have hb0 : Below wo.heap.size wo (w7.drewN nq) := below_drewN HBB.out nq
        refine ⟨0, bc x.b, by omega, rfl, below_put (below_drewN HW7.out nq) (HOWN.out gl rfl) (below_drewN HW7.out nq).size _ _, ?_, row_off (HO1.out.below (below_drewN (Below.refl _ _) nq)) (fun g' e => ?_) _, fun q v hv => ?_⟩
        · have := row_set (HRW.out.below hb0) HKN.out (.int .i64 (-1))
          rw [← List.map_set] at this
          exact this
        · have := HO2.out g' e
          omega
        · obtain ⟨b, _, rfl⟩ := bc_at hv
          exact ⟨_, rfl⟩
      case round =>
        obtain ⟨j, vs, hj, rfl, hbW, hrL, hr8, hvs⟩ := hrel
        have HBQ := Lib.hid hbW
        have HRL := Lib.hid hrL
        have HR8 := Lib.hid hr8
        have HVS := Lib.hid hvs
        clear hbW hrL hr8 hvs
        by_cases hlt2 : j < x.b.length
        · obtain ⟨g8, u8, rfl, hg8, hf8, hv8, hc8⟩ := row_at HR8.out hlt2
          obtain ⟨z, rfl⟩ := HVS.out j u8 hv8
          have HG8 : Hid (wo.heap.size < g8) := HO2.out g8 rfl
          have HJ := Lib.hid hlt2
          replace hlt2 : (j : Int) < (x.b.length : Int) := by omega
          clear hv8
          go_wp2_with fail
          go_roundw
          case rel =>
            have hw := HBQ.out.size
            have hwo := HB.out.size
            refine ⟨j + 1, _, by have := HJ.out; omega, by go_num, below_put HBQ.out (by have := HG8.out; omega) hw _ _, row_off HRL.out (fun g' e => ?_) _, row_set HR8.out HJ.out _, fun q v hv => ?_⟩
            · cases e
              have := HG8.out
              have : gl < wo.heap.size := hgl
              show gl ≠ _
              omega
            · rw [List.getElem?_set] at hv
              split at hv
              · split at hv
                · obtain rfl := Option.some.inj hv
                  exact ⟨_, rfl⟩
                · cases hv
              · exact HVS.out q v hv
          case measure => simp [intOf]; omega
        · obtain rfl : j = x.b.length := by omega
          go_wp2_with fail
          go_roundw
          case rel =>
            refine ⟨k + 1, ls.set k (-1), HKN.out, by go_num, HRL.out, fun q hq => ?_, HBQ.out⟩
            rw [List.getElem?_set_ne (by omega)]
            exact HLS.out q (by omega)
          case measure => simp [intOf]; omega
    · obtain rfl : k = R.L.length := by omega
      go_wp2_with fail
      refine (HLM.out _ HB.out).mono ?_
      rintro y w8 ⟨rfl, hb8⟩
      go_wp2_with fail
      refine (HSM.out _ hb8).mono ?_
      rintro y w9 ⟨rfl, hb9⟩
      go_wp2_with fail
      go_ret
      exact ⟨rfl, hb9⟩
end Go.Proofs.YtnegnokielmgkaaGreatDoor
