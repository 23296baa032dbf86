/- The box: Get. The box: when a request is due; it is sent. -/
import Derived.Test.YtfddlhcdlgdofaaGreatDoorZPosC
set_option linter.unusedSimpArgs false
set_option linter.unusedVariables false
set_option linter.unnecessarySimpa false
namespace Go.Proofs.YtfddlhcdlgdofaaGreatDoor
open Go.RowKit Go.Shelf

section
variable {w w' : World} {b mp : Nat} {ev : Int} {L : List Rq} {c : Nat} {R : Nat → Prop}
theorem BoxAt.msg (h : BoxAt w b mp ev L c R) {e : Rq} (he : e ∈ L) : MsgIs w (.agg (cellM e.m e.tA e.tc e.oA e.oc)) e.m :=
  ⟨e.tA, e.tc, e.oA, e.oc, rfl, h.tl e he, h.os e he, h.keys e he⟩
theorem BoxAt.look (h : BoxAt w b mp ev L c R) {j : Nat} {e : Rq} (hj : L[j]? = some e) {n : Int} (hn : e.m.g = n) : (Instr.lookup 141 (.map (some mp)) (.int .i64 n) false).run Tryz.prog w = .ok (.pointer (some ⟨e.rb, 0, none⟩)) w := by
  have hb := mayM_g (h.may e (List.mem_of_getElem? hj))
  exact h.map.look_hit keyedP Tryz.underlying141 (key_g (by omega) (by omega)) (rme_at hj) (by rw [← hn]; rfl) false
theorem BoxAt.lost (h : BoxAt w b mp ev L c R) {n : Int} (hL : ∀ e ∈ L, e.m.g ≠ n) (h0 : -9223372036854775808 ≤ n) (h1 : n ≤ 9223372036854775807) : (Instr.lookup 141 (.map (some mp)) (.int .i64 n) false).run Tryz.prog w = .ok (.pointer none) w :=
  h.map.look_miss keyedP Tryz.underlying141 (zeroReq w) (key_g h0 h1) (rme_miss hL) false
end
theorem mayM_lens {m : MsgV} (h : mayM m = true) : m.tl.length ≤ 8 ∧ m.os.length ≤ 8 := ⟨(mayM_fits h).tl, (mayM_fits h).os⟩
set_option maxRecDepth 100000 in
set_option maxHeartbeats 4000000 in
theorem get_nil {w : World} (n : Int) :
    Calls Tryz.prog 45 #[.pointer none, .int .i64 n] w fun e w' => e = .returned (.tuple #[zeroM, .bool false]) ∧ Below w.heap.size w w' := by
  have hb0 := below_new (w := w) (.cells zeroC 50)
  have HNO := Lib.hid (pnone_nil (w.alloc (.cells zeroC 50)))
  have HB := Lib.hid hb0
  clear hb0
  go_enter Tryz.func45, Tryz.ntmps45
  go_wp2_with fail
  refine (HNO.out).mono ?_
  rintro e w1 ⟨rfl, rfl⟩
  go_wp2_with fail
  exact bodyPost_ret (v := .tuple #[zeroM, .bool false]) (by simp [results, Tryz.results45, go_sem]) rfl ⟨rfl, HB.out⟩
section
variable {w : World} {b mp : Nat} {ev : Int} {L : List Rq} {c : Nat} {R : Nat → Prop}
set_option maxRecDepth 100000 in
set_option maxHeartbeats 4000000 in
theorem get_miss (h : BoxAt w b mp ev L c R) {n : Int} (hL : ∀ e ∈ L, e.m.g ≠ n) (h0 : -9223372036854775808 ≤ n) (h1 : n ≤ 9223372036854775807) :
    Calls Tryz.prog 45 #[.pointer (some ⟨b, 0, none⟩), .int .i64 n] w fun e w' => e = .returned (.tuple #[zeroM, .bool false]) ∧ Below w.heap.size w w' := by
  have hb0 := below_new (w := w) (.cells zeroC 50)
  have h' := h.below hb0
  have HNO := Lib.hid (pnone_any h'.head)
  have hc := cell_of h'.head 1
  simp at hc
  have qL := h'.lost hL h0 h1
  have HB := Lib.hid hb0
  have qE : ∀ w : World, (binOp .eql 150 (.pointer none) (.pointer none)).run Tryz.prog w = .ok (.bool true) w := fun w => by kernel_rfl
  clear hb0 h' h h0 h1 hL
  go_enter Tryz.func45, Tryz.ntmps45
  go_wp2_with fail
  refine (HNO.out).mono ?_
  rintro e w1 ⟨rfl, rfl⟩
  go_wp2_with fail
  exact bodyPost_ret (v := .tuple #[zeroM, .bool false]) (by simp [results, Tryz.results45, go_sem]) rfl ⟨rfl, HB.out⟩
set_option maxRecDepth 100000 in
set_option maxHeartbeats 4000000 in
theorem get_hit (h : BoxAt w b mp ev L c R) {j : Nat} {r : Rq} (hj : L[j]? = some r) {n : Int} (hn : r.m.g = n) :
    Calls Tryz.prog 45 #[.pointer (some ⟨b, 0, none⟩), .int .i64 n] w fun e w' => ∃ v, e = .returned (.tuple #[v, .bool true]) ∧ MsgOwn w' w.heap.size v r.m ∧ Below w.heap.size w w' := by
  subst hn
  have hr : r ∈ L := List.mem_of_getElem? hj
  have hb0 := below_new (w := w) (.cells zeroC 50)
  have h' := h.below hb0
  have HNO := Lib.hid (pnone_any h'.head)
  have hc := cell_of h'.head 1
  simp at hc
  have qL := h'.look hj rfl
  have HB := Lib.hid hb0
  have qE : ∀ (w : World) (p : Addr), (binOp .eql 150 (.pointer (some p)) (.pointer none)).run Tryz.prog w = .ok (.bool false) w := fun w p => by kernel_rfl
  have hrq := h'.req r hr
  unfold Rq.cells at hrq
  have m0 := cell_of hrq 0
  have m1 := cell_of hrq 1
  have m2 := cell_of hrq 2
  have m3 := cell_of hrq 3
  have m4 := cell_of hrq 4
  have m5 := cell_of hrq 5
  have m6 := cell_of hrq 6
  have m7 := cell_of hrq 7
  have m8 := cell_of hrq 8
  have m9 := cell_of hrq 9
  have m10 := cell_of hrq 10
  simp at m0 m1 m2 m3 m4 m5 m6 m7 m8 m9 m10
  have hl := mayM_lens (h.may r hr)
  have HCL := Lib.hid (pclone_any (h'.msg hr) (by omega) (by omega))
  have HAT : Hid (∀ W, Below (w.alloc (.cells zeroC 50)).heap.size (w.alloc (.cells zeroC 50)) W → W.heap[w.heap.size]? = some (.cells zeroC 50 (0, 0))) := Lib.hid (fun W hW => (hW.block _ (by rw [asz]; exact Nat.lt_succ_self _)).trans (alloc_at _ _))
  have HKY := Lib.hid (h.keys r hr)
  clear hb0 h' h hrq hl
  go_enter Tryz.func45, Tryz.ntmps45
  go_wp2_with fail
  refine (HNO.out).mono ?_
  rintro e w1 ⟨rfl, rfl⟩
  go_wp2_with fail
  refine (HCL.out).mono ?_
  rintro e w2 ⟨v2, rfl, ho2, hb2⟩
  have hat2 := HAT.out _ hb2
  obtain ⟨tA, tc, oA, oc, rfl, hn2, hp2, e1, e2⟩ := ho2
  have HB2 := Lib.hid (HB.out.trans (hb2.mono HB.out.size))
  have HZ5 := Lib.hid (setCells_at w.heap.size (cellM r.m tA tc oA oc).toList [] zeroC.toList w2 rfl hat2)
  have HT5 := Lib.hid (setCells_touch (S := fun k => k = w.heap.size) (a := w2) w.heap.size (fun _ => rfl) (cellM r.m tA tc oA oc).toList 0 w2 (Touch.refl _ _))
  have HN2 := Lib.hid (And.intro hn2 (And.intro hp2 (And.intro e1 e2)))
  clear m0 m1 m2 m3 m4 m5 m6 m7 m8 m9 m10 hn2 hp2 e1 e2 qL hc
  have r0 := cell_of hat2 0
  have r1 := cell_of hat2 1
  have r2 := cell_of hat2 2
  have r3 := cell_of hat2 3
  have r4 := cell_of hat2 4
  have r5 := cell_of hat2 5
  have r6 := cell_of hat2 6
  have r7 := cell_of hat2 7
  have r8 := cell_of hat2 8
  have r9 := cell_of hat2 9
  have r10 := cell_of hat2 10
  have f0 := free0 hat2 0
  have f1 := free0 hat2 1
  have f2 := free0 hat2 2
  have f3 := free0 hat2 3
  have f4 := free0 hat2 4
  have f5 := free0 hat2 5
  have f6 := free0 hat2 6
  have f7 := free0 hat2 7
  have f8 := free0 hat2 8
  have f9 := free0 hat2 9
  have f10 := free0 hat2 10
  simp at r0 r1 r2 r3 r4 r5 r6 r7 r8 r9 r10
  have HS1 := Lib.hid (fun b' (hb' : w.heap.size + 1 ≤ b') => (by omega : b' ≠ w.heap.size))
  clear hat2 hb2
  go_wp2_with fail
  change bodyPost _ _ _ _ _ (World.setCells _ w.heap.size 0 (cellM r.m tA tc oA oc).toList)
  simp only [List.length_nil, List.nil_append] at HZ5
  generalize World.setCells _ w.heap.size 0 (cellM r.m tA tc oA oc).toList = W5 at *
  clear r0 r1 r2 r3 r4 r5 r6 r7 r8 r9 r10 f0 f1 f2 f3 f4 f5 f6 f7 f8 f9 f10
  have j0 := cell_of HZ5.out 0
  have j1 := cell_of HZ5.out 1
  have j2 := cell_of HZ5.out 2
  have j3 := cell_of HZ5.out 3
  have j4 := cell_of HZ5.out 4
  have j5 := cell_of HZ5.out 5
  have j6 := cell_of HZ5.out 6
  have j7 := cell_of HZ5.out 7
  have j8 := cell_of HZ5.out 8
  have j9 := cell_of HZ5.out 9
  have j10 := cell_of HZ5.out 10
  simp at j0 j1 j2 j3 j4 j5 j6 j7 j8 j9 j10
  refine bodyPost_ret (v := .tuple #[.agg (cellM r.m tA tc oA oc), .bool true]) (by simp [results, Tryz.results45, go_sem, j0, j1, j2, j3, j4, j5, j6, j7, j8, j9, j10]) rfl ?_
  refine ⟨_, rfl, ⟨tA, tc, oA, oc, rfl, HN2.out.1.touch HT5.out (fun _ a e => ?_), HN2.out.2.1.touch HT5.out (fun _ a e => ?_), fun a e => ⟨?_, Nat.lt_of_lt_of_le (HN2.out.2.2.1 a e).2 HT5.out.size⟩, fun a e => ⟨?_, Nat.lt_of_lt_of_le (HN2.out.2.2.2 a e).2 HT5.out.size⟩⟩, HB2.out.trans (HT5.out.below (fun i e => by omega) HB2.out.size)⟩
  · have := (HN2.out.2.2.1 a e).1
    rw [asz] at this; omega
  · have := (HN2.out.2.2.2 a e).1
    rw [asz] at this; omega
  · have := (HN2.out.2.2.1 a e).1
    rw [asz] at this; omega
  · have := (HN2.out.2.2.2 a e).1
    rw [asz] at this; omega
end
end Go.Proofs.YtfddlhcdlgdofaaGreatDoor

namespace Go.Proofs.YtfddlhcdlgdofaaGreatDoor
open Go.RowKit Go.Shelf

/-- Is a request due? -/
def dueB (ev now : Int) (e : Rq) : Bool := !e.sent || decide (ev ≤ now - e.last)
/-- A request that was sent now. -/
def Rq.fired (e : Rq) (now : Int) : Rq := { e with sent := true, last := now }
section
variable {w : World} {b mp : Nat} {ev : Int} {L : List Rq} {c : Nat} {R : Nat → Prop}
set_option maxRecDepth 100000 in
set_option maxHeartbeats 4000000 in
theorem pdue_any (h : BoxAt w b mp ev L c R) {r : Rq} (hr : r ∈ L) {now : Int} (h1 : r.sent = true → -9223372036854775808 ≤ now - r.last ∧ now - r.last ≤ 9223372036854775807) :
    Calls Tryz.prog 92 #[.pointer (some ⟨r.rb, 0, none⟩), .int .i64 now, .int .i64 ev] w fun e w' => e = .returned (.bool (dueB ev now r)) ∧ w' = w := by
  have hrq := h.req r hr
  obtain ⟨m, tA, tc, oA, oc, sent, last, rb, born⟩ := r
  unfold Rq.cells at hrq
  simp only at hrq h1 ⊢
  have m11 := cell_of hrq 11
  have m12 := cell_of hrq 12
  simp at m11 m12
  clear hrq h hr
  unfold dueB
  simp only
  cases sent with
  | false =>
    clear h1
    go_enter Tryz.func92, Tryz.ntmps92
    go_wp2_with fail
    go_ret
    exact ⟨rfl, rfl⟩
  | true =>
    obtain ⟨ha, hb⟩ := h1 rfl
    clear h1
    obtain ⟨d, hd⟩ : ∃ d, now - last = d := ⟨_, rfl⟩
    rw [hd] at ha hb ⊢
    have hw : IntKind.i64.wrap (now - last) = d := by rw [hd]; exact IntWalk.i64_in _ (by omega)
    have HD := Lib.hid hd
    clear hd ha hb
    go_enter Tryz.func92, Tryz.ntmps92
    go_wp2_with fail
    go_ret
    exact ⟨by simp, rfl⟩
/-- A message's lists beside what is turned. -/
theorem BoxAt.msgT (h : BoxAt w b mp ev L c R) {r : Rq} (hr : r ∈ L) {S : Nat → Prop} {W : World} (ht : Touch S w W) (hS : ∀ k, S k → R k ∨ k = mp) : MsgIs W (.agg (cellM r.m r.tA r.tc r.oA r.oc)) r.m :=
  ⟨r.tA, r.tc, r.oA, r.oc, rfl, (h.tl r hr).touch ht (fun hne a ha hs => by rcases hS _ hs with h1 | h1; exact (h.farT r hr hne a ha).1 h1; exact (h.farT r hr hne a ha).2 h1), (h.os r hr).touch ht (fun hne a ha hs => by rcases hS _ hs with h1 | h1; exact (h.farO r hr hne a ha).1 h1; exact (h.farO r hr hne a ha).2 h1), h.keys r hr⟩
set_option maxRecDepth 100000 in
set_option maxHeartbeats 4000000 in
theorem psend_any (h : BoxAt w b mp ev L c R) {r : Rq} (hr : r ∈ L) {now : Int} :
    Calls Tryz.prog 93 #[.pointer (some ⟨r.rb, 0, none⟩), .int .i64 now] w fun e w' => ∃ v, e = .returned v ∧ MsgOwn w' w.heap.size v r.m ∧ Touch (fun k => k = r.rb) w w' ∧ w'.heap[r.rb]? = some (.cells (r.fired now).cells 155 (0, 0)) := by
  obtain ⟨W2, hW2⟩ : ∃ W, W = ((w.alloc (.cells zeroC 50)).setCell ⟨r.rb, 11, none⟩ (.bool true)).setCell ⟨r.rb, 12, none⟩ (.int .i64 now) := ⟨_, rfl⟩
  have hlt := heap_lt (h.req r hr)
  have hb0 := below_new (w := w) (.cells zeroC 50)
  have hrq0 : (w.alloc (.cells zeroC 50)).heap[r.rb]? = some (.cells r.cells 155 (0, 0)) := (hb0.block _ hlt).trans (h.req r hr)
  have htA : Touch (fun k => k = r.rb) (w.alloc (.cells zeroC 50)) W2 := by rw [hW2]; exact ((Touch.refl (fun k => k = r.rb) (w.alloc (.cells zeroC 50))).setCell ⟨r.rb, 11, none⟩ (fun _ => rfl) _).setCell ⟨r.rb, 12, none⟩ (fun _ => rfl) _
  have ht : Touch (fun k => k = r.rb) w W2 := Touch.ahead hb0 htA
  have hs2 : W2.heap.size = w.heap.size + 1 := by rw [hW2]; simp [World.setCell]
  have hat : W2.heap[r.rb]? = some (.cells (r.fired now).cells 155 (0, 0)) := by rw [hW2]; exact set_at (set_at hrq0 11 _) 12 _
  have hz : W2.heap[w.heap.size]? = some (.cells zeroC 50 (0, 0)) := (htA.block _ (by rw [asz]; omega) (by omega)).trans (alloc_at w _)
  have hl := mayM_lens (h.may r hr)
  have HCL := Lib.hid (pclone_any (h.msgT hr ht (fun k e => .inl (by rw [e]; exact h.inR r hr))) (by omega) (by omega))
  have HKY := Lib.hid (h.keys r hr)
  have HRQ : Hid (∀ W, Below W2.heap.size W2 W → W.heap[r.rb]? = some (.cells (r.fired now).cells 155 (0, 0))) := Lib.hid (fun W hW => (hW.block _ (heap_lt hat)).trans hat)
  have HAT : Hid (∀ W, Below W2.heap.size W2 W → W.heap[w.heap.size]? = some (.cells zeroC 50 (0, 0))) := Lib.hid (fun W hW => (hW.block _ (by omega)).trans hz)
  have HT := Lib.hid ht
  have HLT := Lib.hid hlt
  have HS2 := Lib.hid hs2
  have q0 := cell_of hrq0 11
  have q1 := cell_of hrq0 12
  have g0 := free0 hrq0 11
  have g1 := free0 hrq0 12
  unfold Rq.cells at q0 q1
  simp at q0 q1
  have hat' := hat
  unfold Rq.cells Rq.fired at hat'
  have m0 := cell_of hat' 0
  have m1 := cell_of hat' 1
  have m2 := cell_of hat' 2
  have m3 := cell_of hat' 3
  have m4 := cell_of hat' 4
  have m5 := cell_of hat' 5
  have m6 := cell_of hat' 6
  have m7 := cell_of hat' 7
  have m8 := cell_of hat' 8
  have m9 := cell_of hat' 9
  have m10 := cell_of hat' 10
  simp at m0 m1 m2 m3 m4 m5 m6 m7 m8 m9 m10
  have HW2 := Lib.hid hW2
  clear hrq0 hb0 htA hat hat' hz hl ht hs2 hlt h hr hW2
  go_enter Tryz.func93, Tryz.ntmps93
  go_upto_region 2 with fail
  rw [← HW2.out]
  clear q0 q1 g0 g1
  go_wp2_with fail
  refine (HCL.out).mono ?_
  rintro e w3 ⟨v2, rfl, ho2, hb2⟩
  have hat2 := HAT.out _ hb2
  have HR3 := Lib.hid (HRQ.out _ hb2)
  obtain ⟨tA, tc, oA, oc, rfl, hn2, hp2, e1, e2⟩ := ho2
  have HT3 := Lib.hid (HT.out.after hb2)
  have HZ5 := Lib.hid (setCells_at w.heap.size (cellM r.m tA tc oA oc).toList [] zeroC.toList w3 rfl hat2)
  have HT5 := Lib.hid (setCells_touch (S := fun k => k = w.heap.size) (a := w3) w.heap.size (fun _ => rfl) (cellM r.m tA tc oA oc).toList 0 w3 (Touch.refl _ _))
  have HN2 := Lib.hid (And.intro hn2 (And.intro hp2 (And.intro e1 e2)))
  clear hn2 hp2 e1 e2 m0 m1 m2 m3 m4 m5 m6 m7 m8 m9 m10
  have r0 := cell_of hat2 0
  have r1 := cell_of hat2 1
  have r2 := cell_of hat2 2
  have r3 := cell_of hat2 3
  have r4 := cell_of hat2 4
  have r5 := cell_of hat2 5
  have r6 := cell_of hat2 6
  have r7 := cell_of hat2 7
  have r8 := cell_of hat2 8
  have r9 := cell_of hat2 9
  have r10 := cell_of hat2 10
  simp at r0 r1 r2 r3 r4 r5 r6 r7 r8 r9 r10
  have f0 := free0 hat2 0
  have f1 := free0 hat2 1
  have f2 := free0 hat2 2
  have f3 := free0 hat2 3
  have f4 := free0 hat2 4
  have f5 := free0 hat2 5
  have f6 := free0 hat2 6
  have f7 := free0 hat2 7
  have f8 := free0 hat2 8
  have f9 := free0 hat2 9
  have f10 := free0 hat2 10
  clear hat2 hb2
  go_wp2_with fail
  change bodyPost _ _ _ _ _ (World.setCells _ w.heap.size 0 (cellM r.m tA tc oA oc).toList)
  simp only [List.length_nil, List.nil_append] at HZ5
  generalize World.setCells _ w.heap.size 0 (cellM r.m tA tc oA oc).toList = W5 at *
  clear r0 r1 r2 r3 r4 r5 r6 r7 r8 r9 r10 f0 f1 f2 f3 f4 f5 f6 f7 f8 f9 f10
  have j0 := cell_of HZ5.out 0
  have j1 := cell_of HZ5.out 1
  have j2 := cell_of HZ5.out 2
  have j3 := cell_of HZ5.out 3
  have j4 := cell_of HZ5.out 4
  have j5 := cell_of HZ5.out 5
  have j6 := cell_of HZ5.out 6
  have j7 := cell_of HZ5.out 7
  have j8 := cell_of HZ5.out 8
  have j9 := cell_of HZ5.out 9
  have j10 := cell_of HZ5.out 10
  simp at j0 j1 j2 j3 j4 j5 j6 j7 j8 j9 j10
  refine bodyPost_ret (v := .agg (cellM r.m tA tc oA oc)) (by simp [results, Tryz.results93, go_sem, j0, j1, j2, j3, j4, j5, j6, j7, j8, j9, j10]) rfl ?_
  refine ⟨_, rfl, ⟨tA, tc, oA, oc, rfl, HN2.out.1.touch HT5.out (fun _ a e => ?_), HN2.out.2.1.touch HT5.out (fun _ a e => ?_), fun a e => ⟨?_, Nat.lt_of_lt_of_le (HN2.out.2.2.1 a e).2 HT5.out.size⟩, fun a e => ⟨?_, Nat.lt_of_lt_of_le (HN2.out.2.2.2 a e).2 HT5.out.size⟩⟩, ?_, ?_⟩
  · have := (HN2.out.2.2.1 a e).1; have := HS2.out; omega
  · have := (HN2.out.2.2.2 a e).1; have := HS2.out; omega
  · have := (HN2.out.2.2.1 a e).1; have := HS2.out; omega
  · have := (HN2.out.2.2.2 a e).1; have := HS2.out; omega
  · exact ⟨HT5.out.os.trans HT3.out.os, HT5.out.tape.trans HT3.out.tape, HT5.out.output.trans HT3.out.output, Nat.le_trans HT3.out.size HT5.out.size, fun k hk hn => (HT5.out.block k (Nat.lt_of_lt_of_le hk HT3.out.size) (by omega)).trans (HT3.out.block k hk hn)⟩
  · exact (HT5.out.block _ (Nat.lt_of_lt_of_le HLT.out HT3.out.size) (by have := HLT.out; omega)).trans HR3.out
end
end Go.Proofs.YtfddlhcdlgdofaaGreatDoor
