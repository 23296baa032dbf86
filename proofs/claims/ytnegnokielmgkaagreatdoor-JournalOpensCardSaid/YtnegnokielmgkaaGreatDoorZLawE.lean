/- TapeKeeps: the law's small. TapeKeeps: the law's step: what is no kind of its own. TapeKeeps: the law's step: Sync, Trim, Drop. TapeKeeps: the law's step: Append: what it needs. -/
import Derived.Test.YtnegnokielmgkaaGreatDoorZLawA
set_option linter.unusedSimpArgs false
set_option linter.unusedVariables false
set_option linter.unnecessarySimpa false
namespace Go.Proofs.YtnegnokielmgkaaGreatDoor
open Go.RowKit

theorem IIs.upto {w : World} {A : Option Addr} {n cap : Nat} {l : List Int} (h : IIs w (.slice A n cap) l) (k : Nat) (hk : k ≤ l.length) : IIs w (.slice A k cap) (l.take k) := by
  obtain ⟨A', c', e, h1, h2, h3⟩ := h
  cases e
  refine ⟨A, cap, by rw [List.length_take, Nat.min_eq_left hk], by rw [List.length_take]; omega, h2, fun i b hi => ?_⟩
  exact h3 i b (by
    rw [List.getElem?_take] at hi
    split at hi
    · exact hi
    · cases hi)

def inR (x : Int) : Prop := -9223372036854775808 ≤ x ∧ x ≤ 9223372036854775807

/-- An operation's value, read by the world ahead of the law. -/
structure OpIs (w0 : World) (v : Value) (kd n a : Int) (b : List UInt8) (ks : List Int) : Prop where
  form : ∃ bv kv, v = .agg #[.int .i64 kd, .int .i64 n, .int .i64 a, bv, kv] ∧ BIs w0 bv b ∧ IIs w0 kv ks
  rk : inR kd
  rn : inR n
  ra : inR a
  rks : ∀ k ∈ ks, inR k

def SmP (w0 w : World) (kd n a : Int) (e : Ending) (w' : World) : Prop := ∃ v b ks, e = .returned v ∧ OpIs w0 v kd n a b ks ∧ b.length ≤ 40 ∧ Below w.heap.size w w'

set_option maxRecDepth 100000 in
set_option maxHeartbeats 2000000 in
theorem small_any {w0 w : World} {v : Value} {kd n a : Int} {b : List UInt8} {ks : List Int} (h : OpIs w0 v kd n a b ks) : Calls Tryz.prog 43 #[v] w (SmP w0 w kd n a) := by
  obtain ⟨bv, kv, rfl, hb, hk⟩ := h.form
  have HB := Lib.hid hb
  have HK := Lib.hid hk
  obtain ⟨A, c, rfl, h1, h2, _⟩ := hb
  obtain ⟨B, d, rfl, k1, k2, _⟩ := hk
  have fin : ∀ (w' : World) (b' : List UInt8) (ks' : List Int), BIs w0 (.slice A b'.length c) b' → IIs w0 (.slice B ks'.length d) ks' → (∀ x ∈ ks', x ∈ ks) → b'.length ≤ 40 → Below w.heap.size w w' → SmP w0 w kd n a (.returned (.agg #[.int .i64 kd, .int .i64 n, .int .i64 a, .slice A b'.length c, .slice B ks'.length d])) w' := fun w' b' ks' q1 q2 q3 q4 q5 => ⟨_, b', ks', rfl, ⟨⟨_, _, rfl, q1, q2⟩, h.rk, h.rn, h.ra, fun x hx => h.rks x (q3 x hx)⟩, q4, q5⟩
  have FIN := Lib.hid fin
  have e40 : b.length > 40 → (b.take 40).length = 40 := fun h => by rw [List.length_take]; omega
  have e20 : ks.length > 20 → (ks.take 20).length = 20 := fun h => by rw [List.length_take]; omega
  have E40 := Lib.hid e40
  have E20 := Lib.hid e20
  unfold maxLen at h2 k2
  clear h fin e40 e20
  by_cases g1 : 40 < b.length
  · have q1 : (40 : Int) < (b.length : Int) := by omega
    have q2 : 40 ≤ c := by omega
    by_cases g2 : 20 < ks.length
    · skip
      have q3 : (20 : Int) < (ks.length : Int) := by omega
      have q4 : 20 ≤ d := by omega
      have F := Lib.hid (fun w' => FIN.out w' (b.take 40) (ks.take 20) (by rw [E40.out g1]; exact bis_upto HB.out 40 (by omega)) (by rw [E20.out g2]; exact HK.out.upto 20 (by omega)) (fun x hx => List.mem_of_mem_take hx) (by rw [E40.out g1]; omega))
      rw [E40.out g1, E20.out g2] at F
      clear FIN
      go_enter Tryz.func43, Tryz.ntmps43
      go_wp2_with fail
      (try simp only [Exit.inBlock, Exit.then])
      refine bodyPost_ret (v := .agg #[.int .i64 kd, .int .i64 n, .int .i64 a, .slice A 40 c, .slice B 20 d]) ?_ rfl ?_
      · simp [results, Tryz.func43, go_sem]
      · exact F.out _ ((below_new _).trans ((below_new _).mono (by rw [asz]; omega)))
    · skip
      have q3 : ¬ (20 : Int) < (ks.length : Int) := by omega
      have F := Lib.hid (fun w' => FIN.out w' (b.take 40) ks (by rw [E40.out g1]; exact bis_upto HB.out 40 (by omega)) HK.out (fun x hx => hx) (by rw [E40.out g1]; omega))
      rw [E40.out g1] at F
      clear FIN
      go_enter Tryz.func43, Tryz.ntmps43
      go_wp2_with fail
      (try simp only [Exit.inBlock, Exit.then])
      refine bodyPost_ret (v := .agg #[.int .i64 kd, .int .i64 n, .int .i64 a, .slice A 40 c, .slice B ks.length d]) ?_ rfl ?_
      · simp [results, Tryz.func43, go_sem]
      · exact F.out _ ((below_new _).trans ((below_new _).mono (by rw [asz]; omega)))
  · have q1 : ¬ (40 : Int) < (b.length : Int) := by omega
    by_cases g2 : 20 < ks.length
    · skip
      have q3 : (20 : Int) < (ks.length : Int) := by omega
      have q4 : 20 ≤ d := by omega
      have F := Lib.hid (fun w' => FIN.out w' b (ks.take 20) HB.out (by rw [E20.out g2]; exact HK.out.upto 20 (by omega)) (fun x hx => List.mem_of_mem_take hx) (by omega))
      rw [E20.out g2] at F
      clear FIN
      go_enter Tryz.func43, Tryz.ntmps43
      go_wp2_with fail
      (try simp only [Exit.inBlock, Exit.then])
      refine bodyPost_ret (v := .agg #[.int .i64 kd, .int .i64 n, .int .i64 a, .slice A b.length c, .slice B 20 d]) ?_ rfl ?_
      · simp [results, Tryz.func43, go_sem]
      · exact F.out _ ((below_new _).trans ((below_new _).mono (by rw [asz]; omega)))
    · skip
      have q3 : ¬ (20 : Int) < (ks.length : Int) := by omega
      have F := Lib.hid (fun w' => FIN.out w' b ks HB.out HK.out (fun x hx => hx) (by omega))
      clear FIN
      go_enter Tryz.func43, Tryz.ntmps43
      go_wp2_with fail
      (try simp only [Exit.inBlock, Exit.then])
      refine bodyPost_ret (v := .agg #[.int .i64 kd, .int .i64 n, .int .i64 a, .slice A b.length c, .slice B ks.length d]) ?_ rfl ?_
      · simp [results, Tryz.func43, go_sem]
      · exact F.out _ ((below_new _).trans ((below_new _).mono (by rw [asz]; omega)))
end Go.Proofs.YtnegnokielmgkaaGreatDoor

namespace Go.Proofs.YtnegnokielmgkaaGreatDoor
open Go.RowKit

def StepP (w0 : World) (e : Ending) (w' : World) : Prop := ∃ t r T R, e = .returned (.tuple #[.pointer (some ⟨t, 0, none⟩), .pointer (some ⟨r, 0, none⟩), .bool true]) ∧ TR w0 w' t r T R

/-- A box of five cells behind the first world, filled anew. -/
structure BoxP (w W : World) (x0 x1 x2 x3 x4 : Value) : Prop where
  below : Below w.heap.size w W
  lt : w.heap.size < W.heap.size
  c : ∀ i u, #[x0, x1, x2, x3, x4][i]? = some u → W.cell? ⟨w.heap.size, i, none⟩ = some u

theorem box_put {w w1 : World} (h : Below w.heap.size w w1) (hlt : w.heap.size < w1.heap.size) {y0 y1 y2 y3 y4 : Value} {ty : TypeId} (hx : w1.heap[w.heap.size]? = some (.cells #[y0, y1, y2, y3, y4] ty (0, 0))) (x0 x1 x2 x3 x4 : Value) :
    BoxP w (((((w1.setCell ⟨w.heap.size, 0, none⟩ x0).setCell ⟨w.heap.size, 1, none⟩ x1).setCell ⟨w.heap.size, 2, none⟩ x2).setCell ⟨w.heap.size, 3, none⟩ x3).setCell ⟨w.heap.size, 4, none⟩ x4) x0 x1 x2 x3 x4 := by
  have c0 := cell_of hx 0
  have c1 := cell_of hx 1
  have c2 := cell_of hx 2
  have c3 := cell_of hx 3
  have c4 := cell_of hx 4
  simp at c0 c1 c2 c3 c4
  have l := Nat.le_refl w.heap.size
  have b0 := below_put h l h.size 0 x0
  have b1 := below_put b0 l b0.size 1 x1
  have b2 := below_put b1 l b1.size 2 x2
  have b3 := below_put b2 l b2.size 3 x3
  have b4 := below_put b3 l b3.size 4 x4
  refine ⟨b4, by simpa [World.setCell] using hlt, fun i u hu => ?_⟩
  match i, hu with
  | 0, hu => simp at hu; subst hu; go_simp
  | 1, hu => simp at hu; subst hu; go_simp
  | 2, hu => simp at hu; subst hu; go_simp
  | 3, hu => simp at hu; subst hu; go_simp
  | 4, hu => simp at hu; subst hu; go_simp
  | i + 5, hu => simp at hu

set_option maxRecDepth 100000 in
set_option maxHeartbeats 4000000 in
theorem step_other {w0 w : World} {t r : Nat} {T : Tp} {R : RTp} (h : TR w0 w t r T R) {v : Value} {kd n a : Int} {b : List UInt8} {ks : List Int} (hv : OpIs w0 v kd n a b ks) (hkd : kd < 0 ∨ 8 < kd) : Calls Tryz.prog 11 #[.pointer (some ⟨t, 0, none⟩), .pointer (some ⟨r, 0, none⟩), v] w (StepP w0) := by
  have HS := Lib.hid (fun W => small_any (w := W) hv)
  have HH := Lib.hid h
  obtain ⟨bv, kv, rfl, _, _⟩ := hv.form
  have HA0 := Lib.hid (alloc_at w (.cells #[.int .i64 kd, .int .i64 n, .int .i64 a, bv, kv] 34))
  have HB0 := Lib.hid (below_new (w := w) (.cells #[.int .i64 kd, .int .i64 n, .int .i64 a, bv, kv] 34))
  clear h hv
  go_enter Tryz.func11, Tryz.ntmps11
  go_wp2_with fail
  refine (HS.out _).mono ?_
  rintro e w1 ⟨v1, b1, ks1, rfl, hv1, hb40, hb1⟩
  obtain ⟨bv1, kv1, rfl, hB, hK⟩ := hv1.form
  have HOP := Lib.hid hv1
  have HOB := Lib.hid hB
  have HOK := Lib.hid hK
  obtain ⟨A1, d1, rfl, i1, i2, _⟩ := hB
  obtain ⟨A2, d2, rfl, j1, j2, _⟩ := hK
  have hsz : w.heap.size < (w.alloc (.cells #[.int .i64 kd, .int .i64 n, .int .i64 a, bv, kv] 34)).heap.size := by rw [asz]; omega
  have bx := (hb1.block w.heap.size hsz).trans HA0.out
  have hs1 : w.heap.size < w1.heap.size := Nat.lt_of_lt_of_le hsz hb1.size
  have HBX := Lib.hid (box_put (HB0.out.trans (hb1.mono HB0.out.size)) hs1 bx (.int .i64 kd) (.int .i64 n) (.int .i64 a) (.slice A1 b1.length d1) (.slice A2 ks1.length d2))
  have c0 := cell_of bx 0
  have c1 := cell_of bx 1
  have c2 := cell_of bx 2
  have c3 := cell_of bx 3
  have c4 := cell_of bx 4
  have f0 := free0 bx 0
  have f1 := free0 bx 1
  have f2 := free0 bx 2
  have f3 := free0 bx 3
  have f4 := free0 bx 4
  simp at c0 c1 c2 c3 c4
  clear hb1 bx hv1
  go_wp2_with fail
  go_ret3
  exact ⟨t, r, T, R, rfl, HH.out.keep HBX.out.below⟩
end Go.Proofs.YtnegnokielmgkaaGreatDoor

namespace Go.Proofs.YtnegnokielmgkaaGreatDoor
open Go.RowKit

/-- What the tape's call leaves, ahead of the reference's. -/
def TStep (w0 w : World) (t r : Nat) (R : RTp) (q : Pl) (ans : Int) (V : World) (e : Ending) (w' : World) : Prop := e = .returned (.int .i64 ans) ∧ Mid w0 t r R q w' ∧ (∀ k, w.heap.size ≤ k → k < V.heap.size → w'.heap[k]? = V.heap[k]?) ∧ V.heap.size ≤ w'.heap.size
theorem TR.tstep {w0 w V w' : World} {t r : Nat} {T : Tp} {R : RTp} (h : TR w0 w t r T R) (hV : Below w.heap.size w V) {q : Pl} {ans : Int} {e : Ending} (k : e = .returned (.int .i64 ans) ∧ TDoP V t T q w') : TStep w0 w t r R q ans V e w' :=
  ⟨k.1, (h.keep hV).tdo k.2, fun i hi hlt => by
    obtain ⟨T', _, _, h3, _⟩ := k.2
    exact h3.block i hlt (fun hk => by have := h.tape.lt i hk; omega), by
    obtain ⟨T', _, _, h3, _⟩ := k.2
    exact h3.size⟩
theorem TR.sync {w0 w : World} {t r : Nat} {T : Tp} {R : RTp} (h : TR w0 w t r T R) (seg n : Int) (b : List UInt8) : ∀ V, Below w.heap.size w V → Calls Tryz.prog 44 #[.pointer (some ⟨t, 0, none⟩), .int .i64 seg] V (TStep w0 w t r R (doP (plT T) 1 seg n b).2 (doP (plT T) 1 seg n b).1 V) := fun V hV => (tsync (h.keep hV).globW (h.tape.below hV) h.far seg n b).mono fun e w' k => h.tstep hV k
theorem TR.trim {w0 w : World} {t r : Nat} {T : Tp} {R : RTp} (h : TR w0 w t r T R) (seg n : Int) (b : List UInt8) : ∀ V, Below w.heap.size w V → Calls Tryz.prog 45 #[.pointer (some ⟨t, 0, none⟩), .int .i64 seg, .int .i64 n] V (TStep w0 w t r R (doP (plT T) 2 seg n b).2 (doP (plT T) 2 seg n b).1 V) := fun V hV => (ttrim (h.keep hV).globW (h.tape.below hV) h.far seg n b).mono fun e w' k => h.tstep hV k
theorem TR.drop {w0 w : World} {t r : Nat} {T : Tp} {R : RTp} (h : TR w0 w t r T R) (seg n : Int) (b : List UInt8) : ∀ V, Below w.heap.size w V → Calls Tryz.prog 46 #[.pointer (some ⟨t, 0, none⟩), .int .i64 seg] V (TStep w0 w t r R (doP (plT T) 3 seg n b).2 (doP (plT T) 3 seg n b).1 V) := fun V hV => (tdrop (h.keep hV).globW (h.tape.below hV) h.far seg n b).mono fun e w' k => h.tstep hV k

/-- What the reference's call leaves behind the tape's. -/
def RStep (w0 : World) (t r : Nat) (ans : Int) (V : World) (e : Ending) (w' : World) : Prop := e = .returned (.int .i64 ans) ∧ (∃ T R, TR w0 w' t r T R) ∧ ∀ k, k ≠ r → k < V.heap.size → w'.heap[k]? = V.heap[k]?
theorem TR.rstep {w0 w V w' : World} {t r : Nat} {T : Tp} {R : RTp} (h : TR w0 w t r T R) (kd : Nat) (seg n : Int) (b : List UInt8) (hm : Mid w0 t r R (doP (plT T) kd seg n b).2 V) {e : Ending} (k : e = .returned (.int .i64 (doP (plR R) kd seg n b).1) ∧ DoP V r R (doP (plR R) kd seg n b).2 w') : RStep w0 t r (doP (plT T) kd seg n b).1 V e w' := by
  obtain ⟨e1, e2⟩ := h.doEq kd seg n b
  refine ⟨by rw [e1]; exact k.1, hm.rdo e2 k.2, fun i hi hlt => ?_⟩
  obtain ⟨R', _, _, k3, _⟩ := k.2
  exact k3.block i hlt hi
theorem Mid.ref {w0 w : World} {t r : Nat} {R : RTp} {q : Pl} (h : Mid w0 t r R q w) : RefOk w r R := by
  obtain ⟨T, h1, h2, h3, _⟩ := h
  exact h3
theorem TR.rlt {w0 w : World} {t r : Nat} {T : Tp} {R : RTp} (h : TR w0 w t r T R) : r < w.heap.size := heap_lt h.ref.ref.head

set_option maxRecDepth 100000 in
set_option maxHeartbeats 4000000 in
theorem step2 {w0 w : World} {t r : Nat} {T : Tp} {R : RTp} (h : TR w0 w t r T R) {v : Value} {n a : Int} {b : List UInt8} {ks : List Int} (hv : OpIs w0 v 2 n a b ks) : Calls Tryz.prog 11 #[.pointer (some ⟨t, 0, none⟩), .pointer (some ⟨r, 0, none⟩), v] w (StepP w0) := by
  have HT := Lib.hid (h.sync n 0 [])
  have HR := Lib.hid (fun (V : World) (hm : Mid w0 t r R (doP (plT T) 1 n 0 []).2 V) => (rdo1 hm.ref n 0 [] (.slice none 0 0)).mono fun e w' k => h.rstep 1 n 0 [] hm k)
  have HRT := Lib.hid h.rlt
  generalize (doP (plT T) 1 n 0 []).1 = ans at *
  generalize (doP (plT T) 1 n 0 []).2 = q at *
  have HS := Lib.hid (fun W => small_any (w := W) hv)
  have HH := Lib.hid h
  obtain ⟨bv, kv, rfl, _, _⟩ := hv.form
  have HA0 := Lib.hid (alloc_at w (.cells #[.int .i64 2, .int .i64 n, .int .i64 a, bv, kv] 34))
  have HB0 := Lib.hid (below_new (w := w) (.cells #[.int .i64 2, .int .i64 n, .int .i64 a, bv, kv] 34))
  clear h hv
  go_enter Tryz.func11, Tryz.ntmps11
  go_wp2_with fail
  refine (HS.out _).mono ?_
  rintro e w1 ⟨v1, b1, ks1, rfl, hv1, hb40, hb1⟩
  obtain ⟨bv1, kv1, rfl, hB, hK⟩ := hv1.form
  have HOP := Lib.hid hv1
  have HOB := Lib.hid hB
  have HOK := Lib.hid hK
  obtain ⟨A1, d1, rfl, i1, i2, _⟩ := hB
  obtain ⟨A2, d2, rfl, j1, j2, _⟩ := hK
  have hsz : w.heap.size < (w.alloc (.cells #[.int .i64 2, .int .i64 n, .int .i64 a, bv, kv] 34)).heap.size := by rw [asz]; omega
  have bx := (hb1.block w.heap.size hsz).trans HA0.out
  have hs1 : w.heap.size < w1.heap.size := Nat.lt_of_lt_of_le hsz hb1.size
  have HBX := Lib.hid (box_put (HB0.out.trans (hb1.mono HB0.out.size)) hs1 bx (.int .i64 2) (.int .i64 n) (.int .i64 a) (.slice A1 b1.length d1) (.slice A2 ks1.length d2))
  have c0 := cell_of bx 0
  have c1 := cell_of bx 1
  have c2 := cell_of bx 2
  have c3 := cell_of bx 3
  have c4 := cell_of bx 4
  have f0 := free0 bx 0
  have f1 := free0 bx 1
  have f2 := free0 bx 2
  have f3 := free0 bx 3
  have f4 := free0 bx 4
  simp at c0 c1 c2 c3 c4
  clear hb1 bx hv1
  go_wp2_with fail
  obtain ⟨W1, hW1⟩ : ∃ W1, W1 = (((((w1.setCell ⟨w.heap.size, 0, none⟩ (.int .i64 2)).setCell ⟨w.heap.size, 1, none⟩ (.int .i64 n)).setCell ⟨w.heap.size, 2, none⟩ (.int .i64 a)).setCell ⟨w.heap.size, 3, none⟩ (.slice A1 b1.length d1)).setCell ⟨w.heap.size, 4, none⟩ (.slice A2 ks1.length d2)) := ⟨_, rfl⟩
  rw [← hW1]
  rw [← hW1] at HBX
  clear hW1 HA0 HB0 c0 c1 c2 c3 c4 f0 f1 f2 f3 f4 hs1 hsz HS
  have HC1 := Lib.hid (HBX.out.c 1 _ rfl)
  have HC2 := Lib.hid (HBX.out.c 2 _ rfl)
  have s1 := HC1.out
  have s2 := HC2.out
  go_region_held (fun W => W.cell? ⟨w.heap.size, 1, none⟩ = some (.int .i64 n) ∧ W.cell? ⟨w.heap.size, 2, none⟩ = some (.int .i64 a)) ((first | go_keep | assumption | exact ⟨HC1.out, HC2.out⟩)) (first | (go_at_call 44; refine (HT.out _ (by first | exact HBX.out.below | exact below_drew HBX.out.below)).mono ?_; rintro x w2 ⟨rfl, hm, hk, hz⟩; have HM := Lib.hid hm; have hcc : w2.cell? ⟨w.heap.size, 1, none⟩ = some (.int .i64 n) ∧ w2.cell? ⟨w.heap.size, 2, none⟩ = some (.int .i64 a) := ⟨(World.cell?_of_block (a := ⟨w.heap.size, 1, none⟩) (hk _ (Nat.le_refl _) HBX.out.lt)).trans HC1.out, (World.cell?_of_block (a := ⟨w.heap.size, 2, none⟩) (hk _ (Nat.le_refl _) HBX.out.lt)).trans HC2.out⟩; have HCC := Lib.hid hcc; have HZ := Lib.hid (Nat.lt_of_lt_of_le HBX.out.lt hz)) | (go_at_call 23; refine (HR.out _ HM.out).mono ?_; rintro x w3 ⟨rfl, hr, hk3⟩; have HRR := Lib.hid hr; have hcc3 : w3.cell? ⟨w.heap.size, 1, none⟩ = some (.int .i64 n) ∧ w3.cell? ⟨w.heap.size, 2, none⟩ = some (.int .i64 a) := ⟨(World.cell?_of_block (a := ⟨w.heap.size, 1, none⟩) (hk3 w.heap.size (by have := HRT.out; omega) HZ.out)).trans HCC.out.1, (World.cell?_of_block (a := ⟨w.heap.size, 2, none⟩) (hk3 w.heap.size (by have := HRT.out; omega) HZ.out)).trans HCC.out.2⟩))
  go_wp2_with fail
  go_ret3
  obtain ⟨T', R', hh⟩ := HRR.out
  exact ⟨t, r, T', R', rfl, hh⟩
end Go.Proofs.YtnegnokielmgkaaGreatDoor

namespace Go.Proofs.YtnegnokielmgkaaGreatDoor
open Go.RowKit

theorem bis_from {w : World} {a : Addr} {n cap : Nat} {l : List UInt8} (h : BIs w (.slice (some a) n cap) l) (k : Nat) (hk : k ≤ l.length) : BIs w (.slice (some (a.add k)) (n - k) (cap - k)) (l.drop k) := by
  obtain ⟨A', c', e, h1, h2, h3⟩ := h
  cases e
  refine ⟨some (a.add k), cap - k, by rw [List.length_drop], by rw [List.length_drop]; omega, by omega, fun i b hi => ?_⟩
  rw [List.getElem?_drop] at hi
  obtain ⟨a', e, q2, q3⟩ := h3 (k + i) b hi
  cases e
  refine ⟨_, rfl, by rw [add_block]; exact q2, ?_⟩
  have : (a.add k).add i = a.add (k + i) := by
    by_cases e1 : k = 0
    · subst e1; simp [Addr.add]
    · by_cases e2 : i = 0
      · subst e2; simp [Addr.add]
      · simp [Addr.add, e1, e2, Nat.add_assoc]
  rw [this]
  exact q3
theorem bis_keep {w w' : World} {a : Addr} {n c : Nat} {l : List UInt8} (h : BIs w (.slice (some a) n c) l) (hs : w.heap.size ≤ w'.heap.size) (hk : w'.heap[a.block]? = w.heap[a.block]?) : BIs w' (.slice (some a) n c) l := by
  obtain ⟨A', c', e, h1, h2, h3⟩ := h
  cases e
  refine ⟨some a, c, rfl, h1, h2, fun i b hi => ?_⟩
  obtain ⟨a', e, q2, q3⟩ := h3 i b hi
  cases e
  exact ⟨_, rfl, Nat.lt_of_lt_of_le q2 hs, (World.cell?_of_block (a := a.add i) (by rw [add_block]; exact hk)).trans q3⟩
theorem bis_zero (w : World) (A : Option Addr) {c : Nat} (hc : c ≤ maxLen) : BIs w (.slice A 0 c) [] := ⟨A, c, rfl, Nat.zero_le _, hc, fun i b hi => by simp at hi⟩
theorem pair_pis {w : World} {g : Nat} {s1 s2 : Value} {ty : TypeId} {fr : Nat × Nat} {l1 l2 : List UInt8} (hb : w.heap[g]? = some (.cells #[s1, s2] ty fr)) (h1 : BIs w s1 l1) (h2 : BIs w s2 l2) : PIs w (.slice (some ⟨g, 0, none⟩) 2 2) [l1, l2] := by
  refine ⟨some ⟨g, 0, none⟩, 2, rfl, Nat.le_refl _, by unfold maxLen; omega, fun i l hi => ?_⟩
  match i, hi with
  | 0, hi =>
    simp at hi
    subst hi
    refine ⟨⟨g, 0, none⟩, s1, rfl, heap_lt hb, ?_, h1⟩
    have := cell_of hb 0
    rw [add0]
    exact this
  | 1, hi =>
    simp at hi
    subst hi
    refine ⟨⟨g, 0, none⟩, s2, rfl, heap_lt hb, ?_, h2⟩
    have := cell_of hb 1
    rw [add0]
    exact this
  | i + 2, hi => simp at hi

/-- Behind the tape's change, ahead of the reference's, where something else may yet be turned. -/
def MidG (w0 : World) (S : Nat → Prop) (t r : Nat) (R : RTp) (q : Pl) (w : World) : Prop := ∃ T, TapeAt w t T ∧ (plT T).Eq q ∧ RefOk w r R ∧ Glob w0 ∧ Below w0.heap.size w0 w ∧ (∀ k ∈ T.blocks t, w0.heap.size ≤ k) ∧ (∀ k, RBlk r R k → w0.heap.size ≤ k) ∧ (∀ k ∈ T.blocks t, ¬ RBlk r R k) ∧ ∀ k, S k → k ∉ T.blocks t ∧ ¬ RBlk r R k ∧ w0.heap.size ≤ k
theorem MidG.mid {w0 w : World} {S : Nat → Prop} {t r : Nat} {R : RTp} {q : Pl} (h : MidG w0 S t r R q w) : Mid w0 t r R q w := by
  obtain ⟨T, h1, h2, h3, h4, h5, h6, h7, h8, h9⟩ := h
  exact ⟨T, h1, h2, h3, h4, h5, h6, h7, h8⟩
theorem MidG.touch {w0 w w' : World} {S : Nat → Prop} {t r : Nat} {R : RTp} {q : Pl} (h : MidG w0 S t r R q w) (ht : Touch S w w') : MidG w0 S t r R q w' := by
  obtain ⟨T, h1, h2, h3, h4, h5, h6, h7, h8, h9⟩ := h
  exact ⟨T, h1.touch ht (fun k hk hS => (h9 k hS).1 hk), h2, h3.touch ht (fun k hk hS => (h9 k hS).2.1 hk), h4, h5.trans (ht.below (fun i hi => (h9 i hi).2.2) h5.size), h6, h7, h8, h9⟩
theorem TR.tdoG {w0 w w1 : World} {S : Nat → Prop} {t r : Nat} {T : Tp} {R : RTp} (h : TR w0 w t r T R) {q : Pl} (hd : TDoP w t T q w1) (hS : ∀ k, S k → k < w.heap.size ∧ k ∉ T.blocks t ∧ ¬ RBlk r R k ∧ w0.heap.size ≤ k) : MidG w0 S t r R q w1 := by
  obtain ⟨T', h1, h2, h3, h4⟩ := hd
  have hb : Below w0.heap.size w w1 := h3.below h.newT h.below.size
  refine ⟨T', h1, h2, h.ref.touch h3 (fun k hk hT => h.apart k hT hk), h.glob, h.below.trans hb, fun k hk => ?_, h.newR, fun k hk hR => ?_, fun k hk => ⟨fun hT => ?_, (hS k hk).2.2.1, (hS k hk).2.2.2⟩⟩
  · rcases h4 k hk with hk | hk
    · exact h.newT k hk
    · have := h.below.size; omega
  · rcases h4 k hk with hk | hk
    · exact h.apart k hk hR
    · have := h.ref.lt k hR; omega
  · rcases h4 k hT with hT | hT
    · exact (hS k hk).2.1 hT
    · have := (hS k hk).1; omega

def AStep (w0 w : World) (S : Nat → Prop) (t r : Nat) (R : RTp) (q : Pl) (ans : Int) (V : World) (e : Ending) (w' : World) : Prop := e = .returned (.int .i64 ans) ∧ MidG w0 S t r R q w' ∧ (∀ k, w.heap.size ≤ k → k < V.heap.size → w'.heap[k]? = V.heap[k]?) ∧ V.heap.size ≤ w'.heap.size
theorem TR.app {w0 w : World} {t r : Nat} {T : Tp} {R : RTp} (h : TR w0 w t r T R) (seg : Int) {S : Nat → Prop} {A : Option Addr} {m c : Nat} {ls : List (List UInt8)} (hl : ls.flatten.length ≤ 1073741824) (V : World) (hV : Below w.heap.size w V) (hS : ∀ k, S k → w.heap.size ≤ k ∧ k < V.heap.size)
    (hP : ∀ w', V.heap.size ≤ w'.heap.size → (∀ k, w.heap.size ≤ k → k < V.heap.size → w'.heap[k]? = V.heap[k]?) → PIs w' (.slice A m c) ls) : Calls Tryz.prog 22 #[.pointer (some ⟨t, 0, none⟩), .int .i64 seg, .slice A m c] V (AStep w0 w S t r R (doP (plT T) 0 seg 0 ls.flatten).2 (doP (plT T) 0 seg 0 ls.flatten).1 V) :=
  (tappend (h.keep hV).globW (h.tape.below hV) h.far seg 0 hl (fun w' ht => hP w' ht.size (fun k hk hlt => ht.block k hlt (fun hT => by have := h.tape.lt k hT; omega)))).mono fun e w' k => ⟨k.1, (h.keep hV).tdoG k.2 (fun i hi => ⟨(hS i hi).2, fun hT => by have := h.tape.lt i hT; have := (hS i hi).1; omega, fun hR => by have := h.ref.lt i hR; have := (hS i hi).1; omega, by have := h.below.size; have := (hS i hi).1; omega⟩), fun i hi hlt => by
    obtain ⟨T', _, _, h3, _⟩ := k.2
    exact h3.block i hlt (fun hk => by have := h.tape.lt i hk; omega), by
    obtain ⟨T', _, _, h3, _⟩ := k.2
    exact h3.size⟩

end Go.Proofs.YtnegnokielmgkaaGreatDoor
