/- TapeKeeps: the law's small. TapeKeeps: the law's step: what is no kind of its own. -/
import Derived.Test.YtkdcknkgfgkoaaaGreatDoorZLawD
set_option linter.unusedSimpArgs false
set_option linter.unusedVariables false
set_option linter.unnecessarySimpa false
namespace Go.Proofs.YtkdcknkgfgkoaaaGreatDoor
open Go.RowKit

theorem IIs.upto {w : World} {A : Option Addr} {n cap : Nat} {l : List Int} (h : IIs w (.slice A n cap) l) (k : Nat) (hk : k ≤ l.length) : IIs w (.slice A k cap) (l.take k) := by
  obtain ⟨A', c', e, h1, h2, h3⟩ := h
  cases e
  refine ⟨A, cap, by rw [List.length_take, Nat.min_eq_left hk], by rw [List.length_take]; omega, h2, fun i b hi => ?_⟩
  exact h3 i b (by
    rw [List.getElem?_take] at hi
    split at hi
    · exact hi
    · cases hi)

def inR (x : Int) : Prop := -9223372036854775808 ≤ x ∧ x ≤ 9223372036854775807

/-- An operation's value, read by the world ahead of the law. -/
structure OpIs (w0 : World) (v : Value) (kd n a : Int) (b : List UInt8) (ks : List Int) : Prop where
  form : ∃ bv kv, v = .agg #[.int .i64 kd, .int .i64 n, .int .i64 a, bv, kv] ∧ BIs w0 bv b ∧ IIs w0 kv ks
  rk : inR kd
  rn : inR n
  ra : inR a
  rks : ∀ k ∈ ks, inR k

def SmP (w0 w : World) (kd n a : Int) (e : Ending) (w' : World) : Prop := ∃ v b ks, e = .returned v ∧ OpIs w0 v kd n a b ks ∧ b.length ≤ 40 ∧ Below w.heap.size w w'

set_option maxRecDepth 100000 in
set_option maxHeartbeats 2000000 in
theorem small_any {w0 w : World} {v : Value} {kd n a : Int} {b : List UInt8} {ks : List Int} (h : OpIs w0 v kd n a b ks) : Calls Tryz.prog 43 #[v] w (SmP w0 w kd n a) := by
  obtain ⟨bv, kv, rfl, hb, hk⟩ := h.form
  have HB := Lib.hid hb
  have HK := Lib.hid hk
  obtain ⟨A, c, rfl, h1, h2, _⟩ := hb
  obtain ⟨B, d, rfl, k1, k2, _⟩ := hk
  have fin : ∀ (w' : World) (b' : List UInt8) (ks' : List Int), BIs w0 (.slice A b'.length c) b' → IIs w0 (.slice B ks'.length d) ks' → (∀ x ∈ ks', x ∈ ks) → b'.length ≤ 40 → Below w.heap.size w w' → SmP w0 w kd n a (.returned (.agg #[.int .i64 kd, .int .i64 n, .int .i64 a, .slice A b'.length c, .slice B ks'.length d])) w' := fun w' b' ks' q1 q2 q3 q4 q5 => ⟨_, b', ks', rfl, ⟨⟨_, _, rfl, q1, q2⟩, h.rk, h.rn, h.ra, fun x hx => h.rks x (q3 x hx)⟩, q4, q5⟩
  have FIN := Lib.hid fin
  have e40 : b.length > 40 → (b.take 40).length = 40 := fun h => by rw [List.length_take]; omega
  have e20 : ks.length > 20 → (ks.take 20).length = 20 := fun h => by rw [List.length_take]; omega
  have E40 := Lib.hid e40
  have E20 := Lib.hid e20
  unfold maxLen at h2 k2
  clear h fin e40 e20
  by_cases g1 : 40 < b.length
  · have q1 : (40 : Int) < (b.length : Int) := by omega
    have q2 : 40 ≤ c := by omega
    by_cases g2 : 20 < ks.length
    · skip
      have q3 : (20 : Int) < (ks.length : Int) := by omega
      have q4 : 20 ≤ d := by omega
      have F := Lib.hid (fun w' => FIN.out w' (b.take 40) (ks.take 20) (by rw [E40.out g1]; exact bis_upto HB.out 40 (by omega)) (by rw [E20.out g2]; exact HK.out.upto 20 (by omega)) (fun x hx => List.mem_of_mem_take hx) (by rw [E40.out g1]; omega))
      rw [E40.out g1, E20.out g2] at F
      clear FIN
      go_enter Tryz.func43, Tryz.ntmps43
      go_wp2_with fail
      (try simp only [Exit.inBlock, Exit.then])
      refine bodyPost_ret (v := .agg #[.int .i64 kd, .int .i64 n, .int .i64 a, .slice A 40 c, .slice B 20 d]) ?_ rfl ?_
      · simp [results, Tryz.func43, go_sem]
      · exact F.out _ ((below_new _).trans ((below_new _).mono (by rw [asz]; omega)))
    · skip
      have q3 : ¬ (20 : Int) < (ks.length : Int) := by omega
      have F := Lib.hid (fun w' => FIN.out w' (b.take 40) ks (by rw [E40.out g1]; exact bis_upto HB.out 40 (by omega)) HK.out (fun x hx => hx) (by rw [E40.out g1]; omega))
      rw [E40.out g1] at F
      clear FIN
      go_enter Tryz.func43, Tryz.ntmps43
      go_wp2_with fail
      (try simp only [Exit.inBlock, Exit.then])
      refine bodyPost_ret (v := .agg #[.int .i64 kd, .int .i64 n, .int .i64 a, .slice A 40 c, .slice B ks.length d]) ?_ rfl ?_
      · simp [results, Tryz.func43, go_sem]
      · exact F.out _ ((below_new _).trans ((below_new _).mono (by rw [asz]; omega)))
  · have q1 : ¬ (40 : Int) < (b.length : Int) := by omega
    by_cases g2 : 20 < ks.length
    · skip
      have q3 : (20 : Int) < (ks.length : Int) := by omega
      have q4 : 20 ≤ d := by omega
      have F := Lib.hid (fun w' => FIN.out w' b (ks.take 20) HB.out (by rw [E20.out g2]; exact HK.out.upto 20 (by omega)) (fun x hx => List.mem_of_mem_take hx) (by omega))
      rw [E20.out g2] at F
      clear FIN
      go_enter Tryz.func43, Tryz.ntmps43
      go_wp2_with fail
      (try simp only [Exit.inBlock, Exit.then])
      refine bodyPost_ret (v := .agg #[.int .i64 kd, .int .i64 n, .int .i64 a, .slice A b.length c, .slice B 20 d]) ?_ rfl ?_
      · simp [results, Tryz.func43, go_sem]
      · exact F.out _ ((below_new _).trans ((below_new _).mono (by rw [asz]; omega)))
    · skip
      have q3 : ¬ (20 : Int) < (ks.length : Int) := by omega
      have F := Lib.hid (fun w' => FIN.out w' b ks HB.out HK.out (fun x hx => hx) (by omega))
      clear FIN
      go_enter Tryz.func43, Tryz.ntmps43
      go_wp2_with fail
      (try simp only [Exit.inBlock, Exit.then])
      refine bodyPost_ret (v := .agg #[.int .i64 kd, .int .i64 n, .int .i64 a, .slice A b.length c, .slice B ks.length d]) ?_ rfl ?_
      · simp [results, Tryz.func43, go_sem]
      · exact F.out _ ((below_new _).trans ((below_new _).mono (by rw [asz]; omega)))
end Go.Proofs.YtkdcknkgfgkoaaaGreatDoor

namespace Go.Proofs.YtkdcknkgfgkoaaaGreatDoor
open Go.RowKit

def StepP (w0 : World) (e : Ending) (w' : World) : Prop := ∃ t r T R, e = .returned (.tuple #[.pointer (some ⟨t, 0, none⟩), .pointer (some ⟨r, 0, none⟩), .bool true]) ∧ TR w0 w' t r T R

/-- A box of five cells behind the first world, filled anew. -/
structure BoxP (w W : World) (x0 x1 x2 x3 x4 : Value) : Prop where
  below : Below w.heap.size w W
  lt : w.heap.size < W.heap.size
  c : ∀ i u, #[x0, x1, x2, x3, x4][i]? = some u → W.cell? ⟨w.heap.size, i, none⟩ = some u

theorem box_put {w w1 : World} (h : Below w.heap.size w w1) (hlt : w.heap.size < w1.heap.size) {y0 y1 y2 y3 y4 : Value} {ty : TypeId} (hx : w1.heap[w.heap.size]? = some (.cells #[y0, y1, y2, y3, y4] ty (0, 0))) (x0 x1 x2 x3 x4 : Value) :
    BoxP w (((((w1.setCell ⟨w.heap.size, 0, none⟩ x0).setCell ⟨w.heap.size, 1, none⟩ x1).setCell ⟨w.heap.size, 2, none⟩ x2).setCell ⟨w.heap.size, 3, none⟩ x3).setCell ⟨w.heap.size, 4, none⟩ x4) x0 x1 x2 x3 x4 := by
  have c0 := cell_of hx 0
  have c1 := cell_of hx 1
  have c2 := cell_of hx 2
  have c3 := cell_of hx 3
  have c4 := cell_of hx 4
  simp at c0 c1 c2 c3 c4
  have l := Nat.le_refl w.heap.size
  have b0 := below_put h l h.size 0 x0
  have b1 := below_put b0 l b0.size 1 x1
  have b2 := below_put b1 l b1.size 2 x2
  have b3 := below_put b2 l b2.size 3 x3
  have b4 := below_put b3 l b3.size 4 x4
  refine ⟨b4, by simpa [World.setCell] using hlt, fun i u hu => ?_⟩
  match i, hu with
  | 0, hu => simp at hu; subst hu; go_simp
  | 1, hu => simp at hu; subst hu; go_simp
  | 2, hu => simp at hu; subst hu; go_simp
  | 3, hu => simp at hu; subst hu; go_simp
  | 4, hu => simp at hu; subst hu; go_simp
  | i + 5, hu => simp at hu

set_option maxRecDepth 100000 in
set_option maxHeartbeats 4000000 in
theorem step_other {w0 w : World} {t r : Nat} {T : Tp} {R : RTp} (h : TR w0 w t r T R) {v : Value} {kd n a : Int} {b : List UInt8} {ks : List Int} (hv : OpIs w0 v kd n a b ks) (hkd : kd < 0 ∨ 8 < kd) : Calls Tryz.prog 11 #[.pointer (some ⟨t, 0, none⟩), .pointer (some ⟨r, 0, none⟩), v] w (StepP w0) := by
  have HS := Lib.hid (fun W => small_any (w := W) hv)
  have HH := Lib.hid h
  obtain ⟨bv, kv, rfl, _, _⟩ := hv.form
  have HA0 := Lib.hid (alloc_at w (.cells #[.int .i64 kd, .int .i64 n, .int .i64 a, bv, kv] 34))
  have HB0 := Lib.hid (below_new (w := w) (.cells #[.int .i64 kd, .int .i64 n, .int .i64 a, bv, kv] 34))
  clear h hv
  go_enter Tryz.func11, Tryz.ntmps11
  go_wp2_with fail
  refine (HS.out _).mono ?_
  rintro e w1 ⟨v1, b1, ks1, rfl, hv1, hb40, hb1⟩
  obtain ⟨bv1, kv1, rfl, hB, hK⟩ := hv1.form
  have HOP := Lib.hid hv1
  have HOB := Lib.hid hB
  have HOK := Lib.hid hK
  obtain ⟨A1, d1, rfl, i1, i2, _⟩ := hB
  obtain ⟨A2, d2, rfl, j1, j2, _⟩ := hK
  have hsz : w.heap.size < (w.alloc (.cells #[.int .i64 kd, .int .i64 n, .int .i64 a, bv, kv] 34)).heap.size := by rw [asz]; omega
  have bx := (hb1.block w.heap.size hsz).trans HA0.out
  have hs1 : w.heap.size < w1.heap.size := Nat.lt_of_lt_of_le hsz hb1.size
  have HBX := Lib.hid (box_put (HB0.out.trans (hb1.mono HB0.out.size)) hs1 bx (.int .i64 kd) (.int .i64 n) (.int .i64 a) (.slice A1 b1.length d1) (.slice A2 ks1.length d2))
  have c0 := cell_of bx 0
  have c1 := cell_of bx 1
  have c2 := cell_of bx 2
  have c3 := cell_of bx 3
  have c4 := cell_of bx 4
  have f0 := free0 bx 0
  have f1 := free0 bx 1
  have f2 := free0 bx 2
  have f3 := free0 bx 3
  have f4 := free0 bx 4
  simp at c0 c1 c2 c3 c4
  clear hb1 bx hv1
  go_wp2_with fail
  go_ret3
  exact ⟨t, r, T, R, rfl, HH.out.keep HBX.out.below⟩
end Go.Proofs.YtkdcknkgfgkoaaaGreatDoor
