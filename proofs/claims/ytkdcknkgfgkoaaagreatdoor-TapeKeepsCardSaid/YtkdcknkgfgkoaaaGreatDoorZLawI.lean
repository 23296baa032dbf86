/- TapeKeeps: the law's step: Room, Fuse. -/
import Derived.Test.YtkdcknkgfgkoaaaGreatDoorZLawG
set_option linter.unusedSimpArgs false
set_option linter.unusedVariables false
set_option linter.unnecessarySimpa false
namespace Go.Proofs.YtkdcknkgfgkoaaaGreatDoor
open Go.RowKit

theorem RefOk.tune {w w' : World} {r : Nat} {R : RTp} (h : RefOk w r R) (ht : Touch (· = r) w w') {m : Nat} {f : Int} (hm : m ≤ 1048576) (hf : -1 ≤ f ∧ f ≤ 9223372036854775807) (hh : w'.heap[r]? = some (.cells #[.int .i64 (m : Int), R.v, .int .i64 f, .bool R.down] 81 (0, 0))) : RefOk w' r { R with room := (m : Int), fuse := f } := by
  refine ⟨⟨hh, h.ref.row.touch ht (fun g hg e => h.ref.own (by rw [← e]; exact hg)), fun x hx => ⟨?_, (h.ref.segs x hx).2⟩, h.ref.own⟩, h.far, h.rises, h.few, h.used, ⟨m, rfl, hm⟩, hf, fun x hx => by obtain ⟨g, n, c, e, hl⟩ := h.base x hx; exact ⟨g, n, c, e, Nat.lt_of_lt_of_le hl ht.size⟩⟩
  obtain ⟨A, cap, e, h1, h2, h3⟩ := (h.ref.segs x hx).1
  refine ⟨A, cap, e, h1, h2, fun i b hi => ?_⟩
  obtain ⟨a, q1, q2, q3⟩ := h3 i b hi
  refine ⟨a, q1, Nat.lt_of_lt_of_le q2 ht.size, ?_⟩
  exact (World.cell?_of_block (a := a.add i) (by rw [add_block]; exact ht.block _ q2 (fun e2 => h.far x hx a _ _ (by rw [e, q1]) e2))).trans q3
theorem RefOk.setRoom {w : World} {r : Nat} {R : RTp} (h : RefOk w r R) {m : Nat} (hm : m ≤ 1048576) : DoP w r R { plR R with room := m } (w.setCell ⟨r, 0, none⟩ (.int .i64 (m : Int))) := by
  have ht : Touch (· = r) w (w.setCell ⟨r, 0, none⟩ (.int .i64 (m : Int))) := (Touch.refl (fun k => k = r) _).setCell ⟨r, 0, none⟩ (fun _ => rfl) _
  refine ⟨_, h.tune ht hm h.fuse ?_, ⟨by show ((m : Int)).toNat = m; omega, .refl _, rfl, rfl⟩, ht, fun k hk => .inl hk⟩
  have := set_at h.ref.head 0 (.int .i64 (m : Int))
  rw [this]; rfl
theorem RefOk.setFuse {w : World} {r : Nat} {R : RTp} (h : RefOk w r R) {f : Int} (hf : -1 ≤ f ∧ f ≤ 9223372036854775807) : DoP w r R { plR R with fuse := f } (w.setCell ⟨r, 2, none⟩ (.int .i64 f)) := by
  have ht : Touch (· = r) w (w.setCell ⟨r, 2, none⟩ (.int .i64 f)) := (Touch.refl (fun k => k = r) _).setCell ⟨r, 2, none⟩ (fun _ => rfl) _
  obtain ⟨m, em, hm⟩ := h.room
  refine ⟨_, h.tune ht hm hf ?_, ⟨by show ((m : Int)).toNat = R.room.toNat; rw [em], .refl _, rfl, rfl⟩, ht, fun k hk => .inl hk⟩
  have := set_at h.ref.head 2 (.int .i64 f)
  rw [this, em]; rfl
theorem RefOk.setFuse2 {w : World} {r : Nat} {R : RTp} (h : RefOk w r R) {f : Int} (g : Int) (hf : -1 ≤ f ∧ f ≤ 9223372036854775807) : DoP w r R { plR R with fuse := f } ((w.setCell ⟨r, 2, none⟩ (.int .i64 g)).setCell ⟨r, 2, none⟩ (.int .i64 f)) := by
  have ht : Touch (· = r) w ((w.setCell ⟨r, 2, none⟩ (.int .i64 g)).setCell ⟨r, 2, none⟩ (.int .i64 f)) := ((Touch.refl (fun k => k = r) _).setCell ⟨r, 2, none⟩ (fun _ => rfl) _).setCell ⟨r, 2, none⟩ (fun _ => rfl) _
  obtain ⟨m, em, hm⟩ := h.room
  refine ⟨_, h.tune ht hm hf ?_, ⟨by show ((m : Int)).toNat = R.room.toNat; rw [em], .refl _, rfl, rfl⟩, ht, fun k hk => .inl hk⟩
  have := set_at (set_at h.ref.head 2 (.int .i64 g)) 2 (.int .i64 f)
  rw [this, em]; rfl

def TStepV (w0 w : World) (t r : Nat) (R : RTp) (q : Pl) (v : Value) (V : World) (e : Ending) (w' : World) : Prop := e = .returned v ∧ Mid w0 t r R q w' ∧ (∀ k, w.heap.size ≤ k → k < V.heap.size → w'.heap[k]? = V.heap[k]?) ∧ V.heap.size ≤ w'.heap.size
theorem TR.tstepV {w0 w V w' : World} {t r : Nat} {T : Tp} {R : RTp} (h : TR w0 w t r T R) (hV : Below w.heap.size w V) {q : Pl} {v : Value} {e : Ending} (k : e = .returned v ∧ TDoP V t T q w') : TStepV w0 w t r R q v V e w' :=
  ⟨k.1, (h.keep hV).tdo k.2, fun i hi hlt => by
    obtain ⟨T', _, _, h3, _⟩ := k.2
    exact h3.block i hlt (fun hk => by have := h.tape.lt i hk; omega), by
    obtain ⟨T', _, _, h3, _⟩ := k.2
    exact h3.size⟩
theorem TR.roomOk {w0 w : World} {t r : Nat} {T : Tp} {R : RTp} (h : TR w0 w t r T R) {m : Nat} (hm : m ≤ 1048576) : ∀ V, Below w.heap.size w V → Calls Tryz.prog 42 #[.pointer (some ⟨t, 0, none⟩), .int .i64 (m : Int)] V (TStepV w0 w t r R { plT T with room := m } (.int .i64 0) V) := fun V hV => (room_ok (h.tape.below hV) hm).mono fun e w' k => h.tstepV hV ⟨k.1, by
    obtain ⟨_, rfl⟩ := k
    have hT := h.tape.below hV
    have ht : Touch (· = t) V (V.setCell ⟨t, 1, none⟩ (.int .i64 (m : Int))) := (Touch.refl (fun k => k = t) _).setCell ⟨t, 1, none⟩ (fun _ => rfl) _
    refine ⟨{ T with room := m, fused := T.fused, left := T.left, down := T.down }, hT.turn ht.size (fun k hk hne => ht.block k hk hne) ?_ hm hT.left, ⟨rfl, .refl _, rfl, rfl⟩, ht.mono (fun i _ hi => by subst hi; exact t_mem), fun k hk => .inl hk⟩
    have := set_at hT.head 1 (.int .i64 (m : Int))
    rw [this]; rfl⟩
theorem TR.fuseOk {w0 w : World} {t r : Nat} {T : Tp} {R : RTp} (h : TR w0 w t r T R) (hd : T.down = false) {a : Int} (ha : inR a) {f : Int} (hf : f = if 0 ≤ a then a else -1) : ∀ V, Below w.heap.size w V → Calls Tryz.prog 30 #[.pointer (some ⟨t, 0, none⟩), .int .i64 a] V (TStepV w0 w t r R { plT T with fuse := f } (.tuple #[]) V) := fun V hV => (fuse_ok (h.tape.below hV) hd ha.2).mono fun e w' k => h.tstepV hV ⟨k.1, by
    obtain ⟨_, k2, k3⟩ := k
    refine ⟨_, k2, ⟨rfl, .refl _, ?_, rfl⟩, k3.mono (fun i _ hi => by subst hi; exact t_mem), fun k hk => .inl hk⟩
    show fuseT _ = f
    rw [hf]
    unfold fuseT
    by_cases h0 : 0 ≤ a
    · rw [if_pos h0, if_pos (by simpa using h0)]
      show ((a.toNat : Nat) : Int) = a
      omega
    · rw [if_neg h0, if_neg (by simpa using h0)]⟩

set_option maxRecDepth 100000 in
set_option maxHeartbeats 4000000 in
theorem step5 {w0 w : World} {t r : Nat} {T : Tp} {R : RTp} (h : TR w0 w t r T R) {v : Value} {n a : Int} {b : List UInt8} {ks : List Int} (hv : OpIs w0 v 5 n a b ks) : Calls Tryz.prog 11 #[.pointer (some ⟨t, 0, none⟩), .pointer (some ⟨r, 0, none⟩), v] w (StepP w0) := by
  have HRT := Lib.hid h.rlt
  have HG := Lib.hid (fun (V : World) (hV : Below w.heap.size w V) => (h.keep hV).globW)
  have HRM := Lib.hid (fun (m : Nat) (hm : m ≤ 1048576) => h.roomOk hm)
  have HE := Lib.hid h.eq
  have hra := hv.ra
  have HS := Lib.hid (fun W => small_any (w := W) hv)
  have HH := Lib.hid h
  obtain ⟨bv, kv, rfl, _, _⟩ := hv.form
  have HA0 := Lib.hid (alloc_at w (.cells #[.int .i64 5, .int .i64 n, .int .i64 a, bv, kv] 34))
  have HB0 := Lib.hid (below_new (w := w) (.cells #[.int .i64 5, .int .i64 n, .int .i64 a, bv, kv] 34))
  clear h hv
  go_enter Tryz.func11, Tryz.ntmps11
  go_wp2_with fail
  refine (HS.out _).mono ?_
  rintro e w1 ⟨v1, b1, ks1, rfl, hv1, hb40, hb1⟩
  obtain ⟨bv1, kv1, rfl, hB, hK⟩ := hv1.form
  have HOP := Lib.hid hv1
  have HOB := Lib.hid hB
  have HOK := Lib.hid hK
  obtain ⟨A1, d1, rfl, i1, i2, _⟩ := hB
  obtain ⟨A2, d2, rfl, j1, j2, _⟩ := hK
  have hsz : w.heap.size < (w.alloc (.cells #[.int .i64 5, .int .i64 n, .int .i64 a, bv, kv] 34)).heap.size := by rw [asz]; omega
  have bx := (hb1.block w.heap.size hsz).trans HA0.out
  have hs1 : w.heap.size < w1.heap.size := Nat.lt_of_lt_of_le hsz hb1.size
  have HBX := Lib.hid (box_put (HB0.out.trans (hb1.mono HB0.out.size)) hs1 bx (.int .i64 5) (.int .i64 n) (.int .i64 a) (.slice A1 b1.length d1) (.slice A2 ks1.length d2))
  have c0 := cell_of bx 0
  have c1 := cell_of bx 1
  have c2 := cell_of bx 2
  have c3 := cell_of bx 3
  have c4 := cell_of bx 4
  have f0 := free0 bx 0
  have f1 := free0 bx 1
  have f2 := free0 bx 2
  have f3 := free0 bx 3
  have f4 := free0 bx 4
  simp at c0 c1 c2 c3 c4
  clear hb1 bx hv1
  go_wp2_with fail
  obtain ⟨W1, hW1⟩ : ∃ W1, W1 = (((((w1.setCell ⟨w.heap.size, 0, none⟩ (.int .i64 5)).setCell ⟨w.heap.size, 1, none⟩ (.int .i64 n)).setCell ⟨w.heap.size, 2, none⟩ (.int .i64 a)).setCell ⟨w.heap.size, 3, none⟩ (.slice A1 b1.length d1)).setCell ⟨w.heap.size, 4, none⟩ (.slice A2 ks1.length d2)) := ⟨_, rfl⟩
  rw [← hW1]
  rw [← hW1] at HBX
  clear hW1 HA0 HB0 c0 c1 c2 c3 c4 f0 f1 f2 f3 f4 hs1 hsz HS
  have HC2 := Lib.hid (HBX.out.c 2 _ rfl)
  have s2 := HC2.out
  by_cases hbad : a < 0 ∨ 1048576 < a
  · refine (room_no t (HG.out _ HBX.out.below) hbad).mono ?_
    rintro x w2 ⟨rfl, hb2⟩
    have hcc := (hb2.cell (p := ⟨w.heap.size, 2, none⟩) HBX.out.lt).trans HC2.out
    have HB2 := Lib.hid hb2
    clear hb2
    rcases hbad with hlo | hhi
    · have hlo2 : ¬ (1048576 : Int) < a := by omega
      go_wp2_with fail
      go_ret3
      exact ⟨t, r, T, R, rfl, (HH.out.keep HBX.out.below).keep HB2.out⟩
    · have hlo2 : ¬ a < (0 : Int) := by omega
      go_wp2_with fail
      go_ret3
      exact ⟨t, r, T, R, rfl, (HH.out.keep HBX.out.below).keep HB2.out⟩
  · obtain ⟨m, rfl⟩ : ∃ m : Nat, a = (m : Int) := ⟨a.toNat, by omega⟩
    have hm0 : m ≤ 1048576 := by omega
    have n1 : ¬ (m : Int) < (0 : Int) := by omega
    have n2 : ¬ (1048576 : Int) < (m : Int) := by omega
    have HM0 := Lib.hid hm0
    clear hbad hm0
    refine (HRM.out m HM0.out _ HBX.out.below).mono ?_
    rintro x w2 ⟨rfl, hm, hk, hz⟩
    have HM := Lib.hid hm
    have k2 := (World.cell?_of_block (a := ⟨w.heap.size, 2, none⟩) (hk w.heap.size (Nat.le_refl _) HBX.out.lt)).trans HC2.out
    have r0 := cell_of hm.ref.ref.head 0
    have r1 := cell_of hm.ref.ref.head 2
    have r3 := cell_of hm.ref.ref.head 3
    have g0 := free0 hm.ref.ref.head 0
    have g1 := free0 hm.ref.ref.head 2
    simp at r0 r1 r3
    have hne : w.heap.size ≠ r := by have := HRT.out; omega
    have hne2 : r ≠ w.heap.size := by have := HRT.out; omega
    clear hm hk hz
    go_wp2_with fail
    go_ret3
    obtain ⟨T', R', hh⟩ := HM.out.rdo (q2 := { plR R with room := m }) ⟨rfl, HE.out.A, HE.out.fuse, HE.out.down⟩ (HM.out.ref.setRoom HM0.out)
    exact ⟨t, r, T', R', rfl, hh⟩

end Go.Proofs.YtkdcknkgfgkoaaaGreatDoor
