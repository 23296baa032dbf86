/- TapeKeeps: a tape and the reference's beside it, through any change and through a crash. TapeKeeps: what the law's same asks of the two tapes. -/
import Derived.Test.YtkdcknkgfgkoaaaGreatDoorZRefM
import Derived.Test.YtkdcknkgfgkoaaaGreatDoorZKepB
import Derived.Test.YtkdcknkgfgkoaaaGreatDoorZTapO
import Derived.Test.YtkdcknkgfgkoaaaGreatDoorZTapK
import Derived.BigQuiet
import Derived.Deep.RegionHeld
set_option linter.unusedSimpArgs false
set_option linter.unusedVariables false
set_option linter.unnecessarySimpa false
namespace Go.Proofs.YtkdcknkgfgkoaaaGreatDoor
open Go.RowKit

theorem RefOk.touch {S : Nat → Prop} {w w' : World} {r : Nat} {R : RTp} (h : RefOk w r R) (ht : Touch S w w') (hS : ∀ k, RBlk r R k → ¬ S k) : RefOk w' r R := by
  refine ⟨⟨(ht.block r (heap_lt h.ref.head) (hS r (.inl rfl))).trans h.ref.head, h.ref.row.touch ht (fun g hg => hS g (.inr (.inl hg))), fun x hx => ⟨?_, (h.ref.segs x hx).2⟩, h.ref.own⟩, h.far, h.rises, h.few, h.used, h.room, h.fuse, fun x hx => by obtain ⟨g, n, c, e, hl⟩ := h.base x hx; exact ⟨g, n, c, e, Nat.lt_of_lt_of_le hl ht.size⟩⟩
  obtain ⟨A, cap, e, h1, h2, h3⟩ := (h.ref.segs x hx).1
  refine ⟨A, cap, e, h1, h2, fun i b hi => ?_⟩
  obtain ⟨a, q1, q2, q3⟩ := h3 i b hi
  refine ⟨a, q1, Nat.lt_of_lt_of_le q2 ht.size, ?_⟩
  exact (World.cell?_of_block (a := a.add i) (by rw [add_block]; exact ht.block _ q2 (hS _ (.inr (.inr ⟨x, hx, a, _, _, by rw [e, q1], rfl⟩))))).trans q3
structure TR (w0 w : World) (t r : Nat) (T : Tp) (R : RTp) : Prop where
  tape : TapeAt w t T
  ref : RefOk w r R
  eq : (plT T).Eq (plR R)
  glob : Glob w0
  below : Below w0.heap.size w0 w
  newT : ∀ k ∈ T.blocks t, w0.heap.size ≤ k
  newR : ∀ k, RBlk r R k → w0.heap.size ≤ k
  apart : ∀ k ∈ T.blocks t, ¬ RBlk r R k
theorem RefOk.lt {w : World} {r : Nat} {R : RTp} (h : RefOk w r R) : ∀ k, RBlk r R k → k < w.heap.size := by
  rintro k (rfl | hk | ⟨x, hx, A, n, c, e, rfl⟩)
  · exact heap_lt h.ref.head
  · exact h.ref.row.lt k hk
  · obtain ⟨g, n2, c2, e2, hl⟩ := h.base x hx
    rw [e] at e2
    injection e2 with e2 _ _
    injection e2 with e2
    subst e2
    exact hl
theorem TR.keep {w0 w w' : World} {t r : Nat} {T : Tp} {R : RTp} (h : TR w0 w t r T R) (hb : Below w.heap.size w w') : TR w0 w' t r T R :=
  ⟨h.tape.below hb, h.ref.below hb, h.eq, h.glob, h.below.trans (hb.mono h.below.size), h.newT, h.newR, h.apart⟩
theorem TR.globW {w0 w : World} {t r : Nat} {T : Tp} {R : RTp} (h : TR w0 w t r T R) : Glob w := h.glob.below h.below
theorem TR.far {w0 w : World} {t r : Nat} {T : Tp} {R : RTp} (h : TR w0 w t r T R) : 0 ∉ T.blocks t := fun hk => by have := h.newT _ hk; have := h.glob.lt; omega
theorem TR.rt {w0 w : World} {t r : Nat} {T : Tp} {R : RTp} (h : TR w0 w t r T R) : r ∉ T.blocks t := fun hk => h.apart r hk (.inl rfl)
/-- Behind the tape's own change, ahead of the reference's. -/
def Mid (w0 : World) (t r : Nat) (R : RTp) (q : Pl) (w : World) : Prop := ∃ T, TapeAt w t T ∧ (plT T).Eq q ∧ RefOk w r R ∧ Glob w0 ∧ Below w0.heap.size w0 w ∧ (∀ k ∈ T.blocks t, w0.heap.size ≤ k) ∧ (∀ k, RBlk r R k → w0.heap.size ≤ k) ∧ ∀ k ∈ T.blocks t, ¬ RBlk r R k
theorem Mid.keep {w0 w w' : World} {t r : Nat} {R : RTp} {q : Pl} (h : Mid w0 t r R q w) (hb : Below w.heap.size w w') : Mid w0 t r R q w' := by
  obtain ⟨T, h1, h2, h3, h4, h5, h6, h7, h8⟩ := h
  exact ⟨T, h1.below hb, h2, h3.below hb, h4, h5.trans (hb.mono h5.size), h6, h7, h8⟩
theorem Mid.below {w0 w : World} {t r : Nat} {R : RTp} {q : Pl} (h : Mid w0 t r R q w) : Below w0.heap.size w0 w := by
  obtain ⟨T, h1, h2, h3, h4, h5, h6, h7, h8⟩ := h
  exact h5
theorem TR.tdo {w0 w w1 : World} {t r : Nat} {T : Tp} {R : RTp} (h : TR w0 w t r T R) {q : Pl} (hd : TDoP w t T q w1) : Mid w0 t r R q w1 := by
  obtain ⟨T', h1, h2, h3, h4⟩ := hd
  have hb : Below w0.heap.size w w1 := h3.below h.newT h.below.size
  refine ⟨T', h1, h2, h.ref.touch h3 (fun k hk hT => h.apart k hT hk), h.glob, h.below.trans hb, fun k hk => ?_, h.newR, fun k hk hR => ?_⟩
  · rcases h4 k hk with hk | hk
    · exact h.newT k hk
    · have := h.below.size; omega
  · rcases h4 k hk with hk | hk
    · exact h.apart k hk hR
    · have := h.ref.lt k hR; omega
theorem Mid.rdo {w0 w1 w2 : World} {t r : Nat} {R : RTp} {q q2 : Pl} (h : Mid w0 t r R q w1) (he : q.Eq q2) (hd : DoP w1 r R q2 w2) : ∃ T' R', TR w0 w2 t r T' R' := by
  obtain ⟨T, h1, h2, h3, h4, h5, h6, h7, h8⟩ := h
  obtain ⟨R', k1, k2, k3, k4⟩ := hd
  have hrT : r ∉ T.blocks t := fun hk => h8 r hk (.inl rfl)
  have hb : Below w0.heap.size w1 w2 := k3.below (fun i hi => by subst hi; exact h7 _ (.inl rfl)) h5.size
  refine ⟨T, R', h1.touch k3 (fun k hk e => hrT (by rw [← e]; exact hk)), k1, (h2.trans he).trans k2.symm, h4, h5.trans hb, h6, fun k hk => ?_, fun k hk hR => ?_⟩
  · rcases k4 k hk with hk | hk
    · exact h7 k hk
    · have := h5.size; omega
  · rcases k4 k hR with hR | hR
    · exact h8 k hk hR
    · have := h1.lt k hk; omega
/-- One change of both, the answers alike. -/
theorem TR.doEq {w0 w : World} {t r : Nat} {T : Tp} {R : RTp} (h : TR w0 w t r T R) (k : Nat) (seg n : Int) (b : List UInt8) : (doP (plT T) k seg n b).1 = (doP (plR R) k seg n b).1 ∧ (doP (plT T) k seg n b).2.Eq (doP (plR R) k seg n b).2 := doP_eq h.tape.nums h.eq k seg n b

/-! a crash -/
def keptA (A : List Sg) (n k : Int) : List Sg := match A.find? (fun x => x.1 == n) with
  | some x => keptS x k
  | none => []
theorem find_perm {A B : List Sg} (hA : (numsOf A).Nodup) (h : A.Perm B) (n : Int) : A.find? (fun x => x.1 == n) = B.find? (fun x => x.1 == n) := by
  have hB : (numsOf B).Nodup := (h.map _).nodup_iff.1 hA
  have one : ∀ {C : List Sg} (hC : (numsOf C).Nodup) {x : Sg}, x ∈ C → x.1 = n → C.find? (fun x => x.1 == n) = some x := by
    intro C hC x hx hn
    have h1 := lookS_of_mem (n := x.1) (b := x.2.1) (s := x.2.2) hC hx
    rw [hn] at h1
    unfold lookS at h1
    obtain ⟨y, hy, e⟩ := Option.map_eq_some_iff.1 h1
    have h2 : y.1 = n := by simpa using List.find?_some hy
    rw [hy]
    exact congrArg some (Prod.ext (h2.trans hn.symm) e)
  cases hf : A.find? (fun x => x.1 == n) with
  | none =>
    cases hg : B.find? (fun x => x.1 == n) with
    | none => rfl
    | some y =>
      have := List.find?_eq_none.1 hf y (h.mem_iff.2 (List.mem_of_find?_eq_some hg))
      exact absurd (List.find?_some hg) this
  | some x =>
    have hn : x.1 = n := by simpa using List.find?_some hf
    exact (one hB (h.mem_iff.1 (List.mem_of_find?_eq_some hf)) hn).symm
theorem keptE_S {e : Ent} (hs : e.s ≤ e.b.length) (k : Int) : keptE e k = keptS (e.n, e.b, e.s) k := by
  have h1 : lastS (e.n, e.b, e.s) k = lastN e.b e.s k := rfl
  have h2 := (lastS_le (x := (e.n, e.b, e.s)) hs k).2
  rw [h1] at h2
  have h3 : (e.b.take (lastN e.b e.s k)).length = lastN e.b e.s k := by rw [List.length_take]; exact Nat.min_eq_left h2
  unfold keptE keptS
  rw [h1, h3]
theorem kept_A {L : List Ent} (hs : ∀ e ∈ L, e.s ≤ e.b.length) (n k : Int) : kept L n k = keptA (abs L) n k := by
  unfold kept keptA abs
  rw [List.find?_map]
  have : ((fun x : Sg => x.1 == n) ∘ fun e : Ent => (e.n, e.b, e.s)) = fun e : Ent => e.n == n := rfl
  rw [this]
  cases hf : L.find? (fun e => e.n == n) with
  | none => rfl
  | some e => exact keptE_S (hs e (List.mem_of_find?_eq_some hf)) k
theorem flat_congr {α β : Type} {l : List α} {f g : α → List β} (h : ∀ x ∈ l, f x = g x) : l.flatMap f = l.flatMap g := by
  induction l with
  | nil => rfl
  | cons x l ih => rw [List.flatMap_cons, List.flatMap_cons, h x (List.mem_cons_self ..), ih (fun y hy => h y (List.mem_cons_of_mem _ hy))]
/-- What lasts of the tape is what lasts of the reference's, in the same order. -/
theorem crash_eq {L : List Ent} {A : List Sg} (hs : ∀ e ∈ L, e.s ≤ e.b.length) (hn : (numsOf (abs L)).Nodup) (hp : (abs L).Perm A) (hr : Rises A) {ns : List Int} (hns : ns.Perm (L.map (·.n))) (hso : ns.Pairwise (· ≤ ·)) (ks : List Int) : ns = A.map (·.1) ∧ crA L ns ks ns.length = crI A ks A.length := by
  have e0 : ns = A.map (·.1) := by
    have h1 : (L.map (·.n)).Perm (A.map (·.1)) := by
      have := hp.map (·.1)
      unfold abs at this
      rw [List.map_map] at this
      exact this
    have h2 : (A.map (·.1)).Pairwise (· ≤ ·) := by
      rw [List.pairwise_map]
      exact hr.imp (fun h => Int.le_of_lt h)
    exact List.Perm.eq_of_pairwise (fun a b _ _ h1 h2 => Int.le_antisymm h1 h2) hso h2 (hns.trans h1)
  refine ⟨e0, ?_⟩
  have hl : ns.length = A.length := by rw [e0, List.length_map]
  rw [hl]
  unfold crA crI
  refine flat_congr fun j hj => ?_
  rw [List.mem_range] at hj
  have hx : A[j]? = some A[j] := List.getElem?_eq_getElem hj
  rw [hx, kept_A hs]
  have hnj : ns[j]?.getD 0 = A[j].1 := by rw [e0, List.getElem?_map, hx]; rfl
  rw [hnj]
  unfold keptA
  rw [find_perm hn hp]
  have hmem : A[j] ∈ A := List.getElem_mem hj
  cases hf : A.find? (fun x => x.1 == A[j].1) with
  | none =>
    have := List.find?_eq_none.1 hf _ hmem
    simp at this
  | some x =>
    have h1 := List.mem_of_find?_eq_some hf
    have h2 : x.1 = A[j].1 := by simpa using List.find?_some hf
    have h3 := lookS_of_mem hr.nodup (n := x.1) (b := x.2.1) (s := x.2.2) h1
    have h4 := lookS_of_mem hr.nodup (n := A[j].1) (b := A[j].2.1) (s := A[j].2.2) hmem
    rw [h2, h4] at h3
    injection h3 with h3
    have : x = A[j] := Prod.ext h2 h3.symm
    rw [this]
end Go.Proofs.YtkdcknkgfgkoaaaGreatDoor

namespace Go.Proofs.YtkdcknkgfgkoaaaGreatDoor
open Go.RowKit

theorem down_any {w : World} {t : Nat} {T : Tp} (hT : TapeAt w t T) : Calls Tryz.prog 17 #[.pointer (some ⟨t, 0, none⟩)] w fun e w' => e = .returned (.bool T.down) ∧ ∃ n, w' = w.drewN n := by
  have hc : w.cell? ⟨t, 4, none⟩ = some (.bool T.down) := cell_of hT.head 4
  clear hT
  cases hd : T.down with
  | true =>
    rw [hd] at hc
    go_enter Tryz.func17, Tryz.ntmps17
    go_wp2
    go_ret
    exact ⟨rfl, 0, rfl⟩
  | false =>
    rw [hd] at hc
    go_enter Tryz.func17, Tryz.ntmps17
    go_wp2
    go_ret
    exact ⟨rfl, 0, rfl⟩
section
variable {w0 w : World} {t r : Nat} {T : Tp} {R : RTp}
theorem TR.usedEq (h : TR w0 w t r T R) : rused R.L = used T.L := by
  have := sizeS_perm h.eq.A
  rw [show sizeS (plT T).A = used T.L from sizeS_abs T.L, show sizeS (plR R).A = rused R.L from absR_size R.L] at this
  exact this.symm
theorem TR.lenEq (h : TR w0 w t r T R) : R.L.length = T.L.length := by
  have := h.eq.A.length_eq
  unfold plT plR abs absR at this
  simpa using this.symm
theorem TR.roomEq (h : TR w0 w t r T R) : R.room = (T.room : Int) := by
  obtain ⟨m, e, _⟩ := h.ref.room
  have h2 : T.room = m := by
    have := h.eq.room
    unfold plT plR at this
    rw [e, Int.toNat_natCast] at this
    exact this
  rw [e, h2]
theorem TR.downEq (h : TR w0 w t r T R) : R.down = T.down := h.eq.down.symm
theorem sm_used (h : TR w0 w t r T R) : ∀ V, Below w.heap.size w V → Calls Tryz.prog 38 #[.pointer (some ⟨t, 0, none⟩)] V fun e w' => e = .returned (.int .i64 (used T.L : Nat)) ∧ Below w.heap.size w w' := fun V hV =>
  (used_any (h.tape.below hV)).mono fun e w' k => ⟨k.1, hV.trans (k.2.mono hV.size)⟩
theorem sm_rused (h : TR w0 w t r T R) : ∀ V, Below w.heap.size w V → Calls Tryz.prog 69 #[.pointer (some ⟨r, 0, none⟩)] V fun e w' => e = .returned (.int .i64 (used T.L : Nat)) ∧ Below w.heap.size w w' := fun V hV =>
  (rused_any (h.ref.ref.below hV) h.ref.few h.ref.used).mono fun e w' k => ⟨by rw [k.1, h.usedEq], hV.trans (k.2.mono hV.size)⟩
theorem sm_free (h : TR w0 w t r T R) : ∀ V, Below w.heap.size w V → Calls Tryz.prog 79 #[.pointer (some ⟨t, 0, none⟩)] V fun e w' => e = .returned (.int .i64 (T.room - used T.L : Nat)) ∧ Below w.heap.size w w' := fun V hV =>
  (free_any (h.tape.below hV)).mono fun e w' k => ⟨k.1, hV.trans (k.2.mono hV.size)⟩
theorem sm_rfree (h : TR w0 w t r T R) : ∀ V, Below w.heap.size w V → Calls Tryz.prog 63 #[.pointer (some ⟨r, 0, none⟩)] V fun e w' => e = .returned (.int .i64 (T.room - used T.L : Nat)) ∧ Below w.heap.size w w' := fun V hV =>
  (rfree_ok h.ref hV).mono fun e w' k => ⟨by rw [k.1, h.usedEq, h.roomEq, Int.toNat_natCast], k.2⟩
theorem sm_down (h : TR w0 w t r T R) : ∀ V, Below w.heap.size w V → Calls Tryz.prog 17 #[.pointer (some ⟨t, 0, none⟩)] V fun e w' => e = .returned (.bool T.down) ∧ Below w.heap.size w w' := fun V hV =>
  (down_any (h.tape.below hV)).mono fun e w' ⟨k1, n, k2⟩ => ⟨k1, by rw [k2]; exact below_drewN hV n⟩
theorem sm_cells (h : TR w0 w t r T R) : ∃ A cap, R.v = .slice A R.L.length cap ∧ cap ≤ 9223372036854775807 ∧ R.L.length ≤ cap ∧ ∀ W, Below w.heap.size w W → W.cell? ⟨r, 1, none⟩ = some (.slice A R.L.length cap) ∧ W.cell? ⟨r, 3, none⟩ = some (.bool T.down) := by
  obtain ⟨A, cap, h1, h2, h3, h4⟩ := h.ref.cells
  exact ⟨A, cap, h1, h2, h3, fun W hW => ⟨(h4 W hW).1, by rw [(h4 W hW).2, h.downEq]⟩⟩
/-- Segs: the reference's names, in its order. -/
theorem sm_segs (h : TR w0 w t r T R) : ∀ V, Below w.heap.size w V → Calls Tryz.prog 13 #[.pointer (some ⟨t, 0, none⟩)] V fun e w' => ∃ v, e = .returned v ∧ RowIs w' 1 v R.L.length ((R.L.map (·.n)).map (Value.int .i64)) ∧ (∀ g, v.ownBlock = some g → w.heap.size ≤ g) ∧ Below w.heap.size w w' := fun V hV => by
  refine (segs_any (h.tape.below hV)).mono ?_
  rintro e w' ⟨v, ns, rfl, h1, h2, h3, h4, h5⟩
  have hs : ∀ e ∈ T.L, e.s ≤ e.b.length := fun e he => (h.tape.segs e he).le
  obtain ⟨e0, _⟩ := crash_eq hs h.tape.nums h.eq.A h.ref.rises h2 h3 []
  have e1 : ns = R.L.map (·.n) := by rw [e0]; show (absR R.L).map _ = _; unfold absR; rw [List.map_map]; rfl
  have hl : ns.length = R.L.length := by rw [e1, List.length_map]
  rw [hl, e1] at h1
  exact ⟨v, rfl, h1, fun g hg => Nat.le_trans hV.size (h4 g hg), hV.trans (h5.mono hV.size)⟩
/-- The tape's entry for a segment of the reference's. -/
theorem TR.entry (h : TR w0 w t r T R) {i : Nat} {x : RSeg} (hx : R.L[i]? = some x) : ∃ (j : Nat) (e : Ent), T.L[j]? = some e ∧ e.n = x.n ∧ e.b = x.b ∧ e.s = x.s := by
  have hm : (x.n, x.b, x.s) ∈ abs T.L := h.eq.A.mem_iff.2 (List.mem_of_getElem? (absR_at hx))
  unfold abs at hm
  obtain ⟨e, he, e1⟩ := List.mem_map.1 hm
  injection e1 with e1 e2
  injection e2 with e2 e3
  obtain ⟨j, hj⟩ := List.getElem?_of_mem he
  exact ⟨j, e, hj, e1, e2, e3⟩
theorem sm_read (h : TR w0 w t r T R) {i : Nat} {x : RSeg} (hx : R.L[i]? = some x) : ∀ V, Below w.heap.size w V → Calls Tryz.prog 15 #[.pointer (some ⟨t, 0, none⟩), .int .i64 x.n] V fun e w' => ∃ v, e = .returned (.tuple #[v, .int .i64 0]) ∧ OwnBy w' V.heap.size v x.b ∧ Below V.heap.size V w' := fun V hV => by
  obtain ⟨j, e, hj, e1, e2, e3⟩ := h.entry hx
  have hT := h.tape.below hV
  have hn : nameB x.n = true := nameB_iff.2 (by have := h.tape.segs e (List.mem_of_getElem? hj); rw [← e1]; exact ⟨this.lo, this.hi⟩)
  refine (read_hit hT hn hj e1).mono ?_
  rintro y w' ⟨v, rfl, h1, h2⟩
  rw [e2] at h1
  exact ⟨v, rfl, h1, h2⟩
theorem sm_len (h : TR w0 w t r T R) {i : Nat} {x : RSeg} (hx : R.L[i]? = some x) : ∀ V, Below w.heap.size w V → Calls Tryz.prog 14 #[.pointer (some ⟨t, 0, none⟩), .int .i64 x.n] V fun e w' => e = .returned (.int .i64 (x.b.length : Nat)) ∧ V = w' := fun V hV => by
  obtain ⟨j, e, hj, e1, e2, e3⟩ := h.entry hx
  have hn : nameB x.n = true := nameB_iff.2 (by have := h.tape.segs e (List.mem_of_getElem? hj); rw [← e1]; exact ⟨this.lo, this.hi⟩)
  refine (len_hit (h.tape.below hV) hn hj e1).mono ?_
  rintro y w' ⟨rfl, rfl⟩
  exact ⟨by rw [e2], rfl⟩
theorem sm_synced (h : TR w0 w t r T R) {i : Nat} {x : RSeg} (hx : R.L[i]? = some x) : ∀ V, Below w.heap.size w V → Calls Tryz.prog 16 #[.pointer (some ⟨t, 0, none⟩), .int .i64 x.n] V fun e w' => e = .returned (.int .i64 (x.s : Nat)) ∧ V = w' := fun V hV => by
  obtain ⟨j, e, hj, e1, e2, e3⟩ := h.entry hx
  have hn : nameB x.n = true := nameB_iff.2 (by have := h.tape.segs e (List.mem_of_getElem? hj); rw [← e1]; exact ⟨this.lo, this.hi⟩)
  refine (synced_hit (h.tape.below hV) hn hj e1).mono ?_
  rintro y w' ⟨rfl, rfl⟩
  exact ⟨by rw [e3], rfl⟩
end
end Go.Proofs.YtkdcknkgfgkoaaaGreatDoor
