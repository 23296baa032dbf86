/- The document's own Decode of messages. (genmeic.py wrote it.) -/
import Derived.Test.YtmbonngjkgcijaaGreatDoorZMeiB
import Derived.Test.YtmbonngjkgcijaaGreatDoorZMeeB
set_option linter.unusedSimpArgs false
set_option linter.unusedVariables false
set_option linter.unnecessarySimpa false
namespace Go.Proofs.YtmbonngjkgcijaaGreatDoor
open Go.RowKit Go.Shelf

/-- The same, and that what is read is its own: turning what was there before does not turn it. -/
def RDecO (w : World) (o : Option MsgV) (e : Ending) (w' : World) : Prop :=
  Below w.heap.size w w' ∧ ((o = none ∧ e = .returned (.tuple #[zeroM, .bool false])) ∨ ∃ m v, o = some m ∧ e = .returned (.tuple #[v, .bool true]) ∧ ∀ W', Touch (fun k => k < w.heap.size) w' W' → MsgIs W' v m)
/-- What is laid behind the heads: the reader's state, the box of what was read so far, the named result's box. -/
structure RMid (w w3 W : World) (g b : Nat) (A : Option Addr) (cap : Nat) (bs : List UInt8) (st : Option Nat) (cs : Array Value) : Prop where
  rd : RfS W g A cap bs st
  box : W.heap[b]? = some (.cells cs 37 (0, 0))
  res : W.heap[w.heap.size]? = some (.cells #[.int .i64 0, .int .i64 0, .int .i64 0, .int .i64 0, .int .i64 0, .int .i64 0, .int .i64 0, .int .i64 0, .int .i64 0, .slice none 0 0, .slice none 0 0] 37 (0, 0))
  bel : Below w.heap.size w W
  big : w3.heap.size ≤ W.heap.size
theorem RMid.only {w w3 W W' : World} {g b : Nat} {A : Option Addr} {cap : Nat} {bs : List UInt8} {st st' : Option Nat} {cs : Array Value} (h : RMid w w3 W g b A cap bs st cs) (hr : RfS W' g A cap bs st') (ho : Only g W W') (hb : b ≠ g) (hg : w.heap.size < g) : RMid w w3 W' g b A cap bs st' cs :=
  ⟨hr, ho.block' h.box hb, ho.block' h.res (by omega), h.bel.trans (ho.touch.below (fun i e => by rw [e]; exact Nat.le_of_lt hg) h.bel.size), Nat.le_trans h.big ho.size⟩
theorem RMid.set {w w3 W : World} {g b : Nat} {A : Option Addr} {cap : Nat} {bs : List UInt8} {s0 st : Option Nat} {cs : Array Value} (h : RMid w w3 W g b A cap bs st cs) (h3 : RfS w3 g A cap bs s0) (hA : ∀ a, A = some a → bs ≠ [] → a.block < w3.heap.size) (hb : w3.heap.size ≤ b) (hw : w.heap.size < w3.heap.size) (i : Nat) (v : Value) : RMid w w3 (W.setCell ⟨b, i, none⟩ v) g b A cap bs st (cs.setIfInBounds i v) := by
  have hT := (Touch.refl (fun k => k = b) W).setCell ⟨b, i, none⟩ (fun _ => rfl) v
  have hbb := hT.below (B := w3.heap.size) (fun i e => by rw [e]; exact hb) h.big
  exact ⟨RfS.keepB h3 h.rd hbb hA, set_at h.box i v, (hbb.block _ hw).trans h.res, h.bel.trans (hbb.mono (by omega) |>.mono (Nat.le_refl _)), Nat.le_trans h.big hT.size⟩
theorem RMid.below {w w3 W W' : World} {g b : Nat} {A : Option Addr} {cap : Nat} {bs : List UInt8} {st : Option Nat} {cs : Array Value} (h : RMid w w3 W g b A cap bs st cs) (hb : Below W.heap.size W W') : RMid w w3 W' g b A cap bs st cs :=
  ⟨h.rd.below hb, (hb.block _ (heap_lt h.box)).trans h.box, (hb.block _ (heap_lt h.res)).trans h.res, h.bel.trans (hb.mono h.bel.size), Nat.le_trans h.big hb.size⟩
theorem RMid.row {w w3 W W' : World} {g b : Nat} {A : Option Addr} {cap : Nat} {bs : List UInt8} {s0 st : Option Nat} {cs : Array Value} (h : RMid w w3 W g b A cap bs st cs) (h3 : RfS w3 g A cap bs s0) (hA : ∀ a, A = some a → bs ≠ [] → a.block < w3.heap.size) (hbb : Below (b + 1) W W') (hb : w3.heap.size ≤ b) (hw : w.heap.size < w3.heap.size) : RMid w w3 W' g b A cap bs st cs :=
  ⟨RfS.keepB h3 h.rd (hbb.mono (by omega)) hA, (hbb.block _ (by omega)).trans h.box, (hbb.block _ (by omega)).trans h.res, h.bel.trans (hbb.mono (by omega)), Nat.le_trans h.big hbb.size⟩
theorem numC_snoc (l : List Nat) (a : Nat) : numC (l ++ [a]) = numC l ++ [.int .i64 (numV a)] := by simp [numC]
set_option maxRecDepth 100000 in
set_option maxHeartbeats 16000000 in
theorem rdec_own {w : World} {v : Value} {bs : List UInt8} (h : BIs w v bs) :
    Calls Tryz.prog 97 #[v] w (RDecO w (decR bs)) := by
  have hb0 := below_new (w := w) (.cells #[.int .i64 0, .int .i64 0, .int .i64 0, .int .i64 0, .int .i64 0, .int .i64 0, .int .i64 0, .int .i64 0, .int .i64 0, .slice none 0 0, .slice none 0 0] 37)
  have hat := alloc_at w (.cells #[.int .i64 0, .int .i64 0, .int .i64 0, .int .i64 0, .int .i64 0, .int .i64 0, .int .i64 0, .int .i64 0, .int .i64 0, .slice none 0 0, .slice none 0 0] 37)
  have HPE := Lib.hid (rpeel_any (h.below hb0))
  have HB0 := Lib.hid hb0
  have HAT := Lib.hid hat
  have hLn := h
  obtain ⟨Av, cv, rfl, _⟩ := h
  have HBS := Lib.hid hLn
  obtain ⟨N, hN⟩ : ∃ N, firstP bs = N := ⟨_, rfl⟩
  unfold PeelIs at HPE
  rw [hN] at HPE
  obtain ⟨W0, hW0⟩ : ∃ W, W = w.alloc (.cells #[.int .i64 0, .int .i64 0, .int .i64 0, .int .i64 0, .int .i64 0, .int .i64 0, .int .i64 0, .int .i64 0, .int .i64 0, .slice none 0 0, .slice none 0 0] 37) := ⟨_, rfl⟩
  have HW0 := Lib.hid hW0
  rw [← hW0] at HPE HB0 HAT
  have HNN := Lib.hid hN
  obtain ⟨LB, hLB⟩ : ∃ n, bs.length = n := ⟨_, rfl⟩
  have HLB := Lib.hid hLB
  rw [hLB] at HPE HBS ⊢
  clear hb0 hat hLn hN hW0 hLB
  go_enter Tryz.func97, Tryz.ntmps97
  go_wp2_with fail
  rw [← HW0.out]
  refine (HPE.out).mono ?_
  rintro e w1 ⟨x, rfl, hx0, hx1, hb1⟩
  have HB1 := Lib.hid (HB0.out.trans (hb1.mono HB0.out.size))
  have HR1 : Hid (w1.heap[w.heap.size]? = some (.cells #[.int .i64 0, .int .i64 0, .int .i64 0, .int .i64 0, .int .i64 0, .int .i64 0, .int .i64 0, .int .i64 0, .int .i64 0, .slice none 0 0, .slice none 0 0] 37 (0, 0))) := Lib.hid ((hb1.block _ (heap_lt HAT.out)).trans HAT.out)
  have HX1 := Lib.hid hx1
  clear hx0 hx1 hb1 HPE HB0 HAT
  by_cases hg : N ≠ 0 ∧ N = LB
  · skip
    obtain ⟨hN0, rfl⟩ := hg
    have q3 : ((N : Int) == 0) = false := by simpa using hN0
    have q4 : ((N : Int) != (N : Int)) = false := by simp
    have HDR : Hid (decR bs = match decRB (bodyP bs) with | none => none | some m => if mayM m = true ∧ encM m = bs then some m else none) := Lib.hid (by unfold decR; rw [HNN.out, HLB.out, if_pos ⟨hN0, rfl⟩]; generalize decRB (bodyP bs) = o; cases o <;> rfl)
    obtain ⟨bd, hbd⟩ : ∃ l, l = bodyP bs := ⟨_, rfl⟩
    obtain ⟨hbi, _⟩ := HX1.out hN0
    rw [← hbd] at HDR hbi
    obtain ⟨A, cap, rfl, b1, b2, b3⟩ := hbi
    have HOF := Lib.hid (rf_of b1 b2 b3)
    clear HX1 hbd b1 b2 b3 hN0
    go_wp2_with fail
    refine (HOF.out).mono ?_
    rintro e w2 ⟨g, rfl, hgn, hR, hb2⟩
    have hb3 := below_new (w := w2) (.cells #[.int .i64 0, .int .i64 0, .int .i64 0, .int .i64 0, .int .i64 0, .int .i64 0, .int .i64 0, .int .i64 0, .int .i64 0, .slice none 0 0, .slice none 0 0] 37)
    have hat3 := alloc_at w2 (.cells #[.int .i64 0, .int .i64 0, .int .i64 0, .int .i64 0, .int .i64 0, .int .i64 0, .int .i64 0, .int .i64 0, .int .i64 0, .slice none 0 0, .slice none 0 0] 37)
    have hwl := heap_lt HR1.out
    have HWG : Hid (w.heap.size < g) := Lib.hid (by omega)
    have HGL := Lib.hid hR.lt
    have HBG : Hid (w2.heap.size ≠ g) := Lib.hid (by have := hR.lt; omega)
    have HW2 : Hid (w.heap.size < w2.heap.size) := Lib.hid (by have := hR.lt; omega)
    have HR2 := Lib.hid hR
    have HA2 := Lib.hid hR.adr
    obtain ⟨W3, hW3⟩ : ∃ W, W = w2.alloc (.cells #[.int .i64 0, .int .i64 0, .int .i64 0, .int .i64 0, .int .i64 0, .int .i64 0, .int .i64 0, .int .i64 0, .int .i64 0, .slice none 0 0, .slice none 0 0] 37) := ⟨_, rfl⟩
    rw [← hW3] at hb3 hat3
    have HX := Lib.hid hW3
    have M0 : Hid (RMid w w2 W3 g w2.heap.size A cap bd (some 0) #[.int .i64 0, .int .i64 0, .int .i64 0, .int .i64 0, .int .i64 0, .int .i64 0, .int .i64 0, .int .i64 0, .int .i64 0, .slice none 0 0, .slice none 0 0]) := Lib.hid ⟨hR.below hb3, hat3, (hb3.block _ (Nat.lt_of_lt_of_le hwl hb2.size)).trans ((hb2.block _ hwl).trans HR1.out), (HB1.out.trans (hb2.mono HB1.out.size)).trans (hb3.mono (Nat.le_trans HB1.out.size hb2.size)), hb3.size⟩
    clear hgn hR hb2 hb3 hat3 hwl hW3 HOF HR1
    obtain ⟨a0, s1, e0⟩ : ∃ n s, natS bd (some 0) = (n, s) := ⟨_, _, rfl⟩
    obtain ⟨a1, s2, e1⟩ : ∃ n s, natS bd s1 = (n, s) := ⟨_, _, rfl⟩
    obtain ⟨a2, s3, e2⟩ : ∃ n s, natS bd s2 = (n, s) := ⟨_, _, rfl⟩
    obtain ⟨a3, s4, e3⟩ : ∃ n s, natS bd s3 = (n, s) := ⟨_, _, rfl⟩
    obtain ⟨a4, s5, e4⟩ : ∃ n s, natS bd s4 = (n, s) := ⟨_, _, rfl⟩
    obtain ⟨a5, s6, e5⟩ : ∃ n s, natS bd s5 = (n, s) := ⟨_, _, rfl⟩
    obtain ⟨a6, s7, e6⟩ : ∃ n s, natS bd s6 = (n, s) := ⟨_, _, rfl⟩
    obtain ⟨a7, s8, e7⟩ : ∃ n s, natS bd s7 = (n, s) := ⟨_, _, rfl⟩
    obtain ⟨a8, s9, e8⟩ : ∃ n s, natS bd s8 = (n, s) := ⟨_, _, rfl⟩
    obtain ⟨a9, s10, e9⟩ : ∃ n s, natS bd s9 = (n, s) := ⟨_, _, rfl⟩
    have HHD : Hid (hdS bd 10 (some 0) = ([a0, a1, a2, a3, a4, a5, a6, a7, a8, a9], s10)) := Lib.hid (by simp only [hdS, e0, e1, e2, e3, e4, e5, e6, e7, e8, e9])
    have E0 := Lib.hid e0
    have E1 := Lib.hid e1
    have E2 := Lib.hid e2
    have E3 := Lib.hid e3
    have E4 := Lib.hid e4
    have E5 := Lib.hid e5
    have E6 := Lib.hid e6
    have E7 := Lib.hid e7
    have E8 := Lib.hid e8
    have E9 := Lib.hid e9
    clear e0 e1 e2 e3 e4 e5 e6 e7 e8 e9
    obtain ⟨z0, hz0⟩ : ∃ z, cutR a0 = z := ⟨_, rfl⟩
    have HZ0 := Lib.hid hz0
    clear hz0
    obtain ⟨z1, hz1⟩ : ∃ z, cutR a1 = z := ⟨_, rfl⟩
    have HZ1 := Lib.hid hz1
    clear hz1
    obtain ⟨z2, hz2⟩ : ∃ z, cutR a2 = z := ⟨_, rfl⟩
    have HZ2 := Lib.hid hz2
    clear hz2
    obtain ⟨z3, hz3⟩ : ∃ z, cutR a3 = z := ⟨_, rfl⟩
    have HZ3 := Lib.hid hz3
    clear hz3
    obtain ⟨z4, hz4⟩ : ∃ z, cutR a4 = z := ⟨_, rfl⟩
    have HZ4 := Lib.hid hz4
    clear hz4
    obtain ⟨z5, hz5⟩ : ∃ z, cutR a5 = z := ⟨_, rfl⟩
    have HZ5 := Lib.hid hz5
    clear hz5
    obtain ⟨z6, hz6⟩ : ∃ z, cutR a6 = z := ⟨_, rfl⟩
    have HZ6 := Lib.hid hz6
    clear hz6
    obtain ⟨z7, hz7⟩ : ∃ z, cutR a7 = z := ⟨_, rfl⟩
    have HZ7 := Lib.hid hz7
    clear hz7
    have H0 := Lib.hid (rsmall_u M0.out.rd)
    rw [E0.out] at H0
    simp only at H0
    rw [HZ0.out] at H0
    go_wp2_with fail
    rw [← HX.out]
    refine (H0.out).mono ?_
    rintro e v0 ⟨rfl, hR, hO⟩
    have hM := M0.out.only hR hO HBG.out HWG.out
    have c0 := cell_of hM.box 0; have f0 := free0 hM.box 0
    simp at c0
    have hM2 := hM.set HR2.out HA2.out (Nat.le_refl _) HW2.out 0 (.int .i64 z0)
    obtain ⟨X0, hX⟩ : ∃ W, W = v0.setCell ⟨w2.heap.size, 0, none⟩ (.int .i64 z0) := ⟨_, rfl⟩
    rw [← hX] at hM2
    have HX0 := Lib.hid hX
    have M1 : Hid (RMid w w2 X0 g w2.heap.size A cap bd s1 #[.int .i64 z0, .int .i64 0, .int .i64 0, .int .i64 0, .int .i64 0, .int .i64 0, .int .i64 0, .int .i64 0, .int .i64 0, .slice none 0 0, .slice none 0 0]) := Lib.hid hM2
    clear hR hO hM hM2 hX H0 M0
    have H1 := Lib.hid (rsmall_u M1.out.rd)
    rw [E1.out] at H1
    simp only at H1
    rw [HZ1.out] at H1
    go_wp2_with fail
    rw [← HX0.out]
    clear c0 f0
    refine (H1.out).mono ?_
    rintro e v1 ⟨rfl, hR, hO⟩
    have hM := M1.out.only hR hO HBG.out HWG.out
    have c1 := cell_of hM.box 1; have f1 := free0 hM.box 1
    simp at c1
    have hM2 := hM.set HR2.out HA2.out (Nat.le_refl _) HW2.out 1 (.int .i64 z1)
    obtain ⟨X1, hX⟩ : ∃ W, W = v1.setCell ⟨w2.heap.size, 1, none⟩ (.int .i64 z1) := ⟨_, rfl⟩
    rw [← hX] at hM2
    have HX1 := Lib.hid hX
    have M2 : Hid (RMid w w2 X1 g w2.heap.size A cap bd s2 #[.int .i64 z0, .int .i64 z1, .int .i64 0, .int .i64 0, .int .i64 0, .int .i64 0, .int .i64 0, .int .i64 0, .int .i64 0, .slice none 0 0, .slice none 0 0]) := Lib.hid hM2
    clear hR hO hM hM2 hX H1 M1
    have H2 := Lib.hid (rsmall_u M2.out.rd)
    rw [E2.out] at H2
    simp only at H2
    rw [HZ2.out] at H2
    go_wp2_with fail
    rw [← HX1.out]
    clear c1 f1
    refine (H2.out).mono ?_
    rintro e v2 ⟨rfl, hR, hO⟩
    have hM := M2.out.only hR hO HBG.out HWG.out
    have c2 := cell_of hM.box 2; have f2 := free0 hM.box 2
    simp at c2
    have hM2 := hM.set HR2.out HA2.out (Nat.le_refl _) HW2.out 2 (.int .i64 z2)
    obtain ⟨X2, hX⟩ : ∃ W, W = v2.setCell ⟨w2.heap.size, 2, none⟩ (.int .i64 z2) := ⟨_, rfl⟩
    rw [← hX] at hM2
    have HX2 := Lib.hid hX
    have M3 : Hid (RMid w w2 X2 g w2.heap.size A cap bd s3 #[.int .i64 z0, .int .i64 z1, .int .i64 z2, .int .i64 0, .int .i64 0, .int .i64 0, .int .i64 0, .int .i64 0, .int .i64 0, .slice none 0 0, .slice none 0 0]) := Lib.hid hM2
    clear hR hO hM hM2 hX H2 M2
    have H3 := Lib.hid (rsmall_u M3.out.rd)
    rw [E3.out] at H3
    simp only at H3
    rw [HZ3.out] at H3
    go_wp2_with fail
    rw [← HX2.out]
    clear c2 f2
    refine (H3.out).mono ?_
    rintro e v3 ⟨rfl, hR, hO⟩
    have hM := M3.out.only hR hO HBG.out HWG.out
    have c3 := cell_of hM.box 3; have f3 := free0 hM.box 3
    simp at c3
    have hM2 := hM.set HR2.out HA2.out (Nat.le_refl _) HW2.out 3 (.int .i64 z3)
    obtain ⟨X3, hX⟩ : ∃ W, W = v3.setCell ⟨w2.heap.size, 3, none⟩ (.int .i64 z3) := ⟨_, rfl⟩
    rw [← hX] at hM2
    have HX3 := Lib.hid hX
    have M4 : Hid (RMid w w2 X3 g w2.heap.size A cap bd s4 #[.int .i64 z0, .int .i64 z1, .int .i64 z2, .int .i64 z3, .int .i64 0, .int .i64 0, .int .i64 0, .int .i64 0, .int .i64 0, .slice none 0 0, .slice none 0 0]) := Lib.hid hM2
    clear hR hO hM hM2 hX H3 M3
    have H4 := Lib.hid (rsmall_u M4.out.rd)
    rw [E4.out] at H4
    simp only at H4
    rw [HZ4.out] at H4
    go_wp2_with fail
    rw [← HX3.out]
    clear c3 f3
    refine (H4.out).mono ?_
    rintro e v4 ⟨rfl, hR, hO⟩
    have hM := M4.out.only hR hO HBG.out HWG.out
    have c4 := cell_of hM.box 4; have f4 := free0 hM.box 4
    simp at c4
    have hM2 := hM.set HR2.out HA2.out (Nat.le_refl _) HW2.out 4 (.int .i64 z4)
    obtain ⟨X4, hX⟩ : ∃ W, W = v4.setCell ⟨w2.heap.size, 4, none⟩ (.int .i64 z4) := ⟨_, rfl⟩
    rw [← hX] at hM2
    have HX4 := Lib.hid hX
    have M5 : Hid (RMid w w2 X4 g w2.heap.size A cap bd s5 #[.int .i64 z0, .int .i64 z1, .int .i64 z2, .int .i64 z3, .int .i64 z4, .int .i64 0, .int .i64 0, .int .i64 0, .int .i64 0, .slice none 0 0, .slice none 0 0]) := Lib.hid hM2
    clear hR hO hM hM2 hX H4 M4
    have H5 := Lib.hid (rsmall_u M5.out.rd)
    rw [E5.out] at H5
    simp only at H5
    rw [HZ5.out] at H5
    go_wp2_with fail
    rw [← HX4.out]
    clear c4 f4
    refine (H5.out).mono ?_
    rintro e v5 ⟨rfl, hR, hO⟩
    have hM := M5.out.only hR hO HBG.out HWG.out
    have c5 := cell_of hM.box 5; have f5 := free0 hM.box 5
    simp at c5
    have hM2 := hM.set HR2.out HA2.out (Nat.le_refl _) HW2.out 5 (.int .i64 z5)
    obtain ⟨X5, hX⟩ : ∃ W, W = v5.setCell ⟨w2.heap.size, 5, none⟩ (.int .i64 z5) := ⟨_, rfl⟩
    rw [← hX] at hM2
    have HX5 := Lib.hid hX
    have M6 : Hid (RMid w w2 X5 g w2.heap.size A cap bd s6 #[.int .i64 z0, .int .i64 z1, .int .i64 z2, .int .i64 z3, .int .i64 z4, .int .i64 z5, .int .i64 0, .int .i64 0, .int .i64 0, .slice none 0 0, .slice none 0 0]) := Lib.hid hM2
    clear hR hO hM hM2 hX H5 M5
    have H6 := Lib.hid (rsmall_u M6.out.rd)
    rw [E6.out] at H6
    simp only at H6
    rw [HZ6.out] at H6
    go_wp2_with fail
    rw [← HX5.out]
    clear c5 f5
    refine (H6.out).mono ?_
    rintro e v6 ⟨rfl, hR, hO⟩
    have hM := M6.out.only hR hO HBG.out HWG.out
    have c6 := cell_of hM.box 6; have f6 := free0 hM.box 6
    simp at c6
    have hM2 := hM.set HR2.out HA2.out (Nat.le_refl _) HW2.out 6 (.int .i64 z6)
    obtain ⟨X6, hX⟩ : ∃ W, W = v6.setCell ⟨w2.heap.size, 6, none⟩ (.int .i64 z6) := ⟨_, rfl⟩
    rw [← hX] at hM2
    have HX6 := Lib.hid hX
    have M7 : Hid (RMid w w2 X6 g w2.heap.size A cap bd s7 #[.int .i64 z0, .int .i64 z1, .int .i64 z2, .int .i64 z3, .int .i64 z4, .int .i64 z5, .int .i64 z6, .int .i64 0, .int .i64 0, .slice none 0 0, .slice none 0 0]) := Lib.hid hM2
    clear hR hO hM hM2 hX H6 M6
    have H7 := Lib.hid (rsmall_u M7.out.rd)
    rw [E7.out] at H7
    simp only at H7
    rw [HZ7.out] at H7
    go_wp2_with fail
    rw [← HX6.out]
    clear c6 f6
    refine (H7.out).mono ?_
    rintro e v7 ⟨rfl, hR, hO⟩
    have hM := M7.out.only hR hO HBG.out HWG.out
    have c7 := cell_of hM.box 7; have f7 := free0 hM.box 7
    simp at c7
    have hM2 := hM.set HR2.out HA2.out (Nat.le_refl _) HW2.out 7 (.int .i64 z7)
    obtain ⟨X7, hX⟩ : ∃ W, W = v7.setCell ⟨w2.heap.size, 7, none⟩ (.int .i64 z7) := ⟨_, rfl⟩
    rw [← hX] at hM2
    have HX7 := Lib.hid hX
    have M8 : Hid (RMid w w2 X7 g w2.heap.size A cap bd s8 #[.int .i64 z0, .int .i64 z1, .int .i64 z2, .int .i64 z3, .int .i64 z4, .int .i64 z5, .int .i64 z6, .int .i64 z7, .int .i64 0, .slice none 0 0, .slice none 0 0]) := Lib.hid hM2
    clear hR hO hM hM2 hX H7 M7
    have H8 := Lib.hid (rnat_u M8.out.rd)
    rw [E8.out] at H8
    simp only at H8
    go_wp2_with fail
    rw [← HX7.out]
    clear c7 f7
    refine (H8.out).mono ?_
    rintro e v8 ⟨rfl, hR, hO⟩
    have M9 := Lib.hid (M8.out.only hR hO HBG.out HWG.out)
    have H9 := Lib.hid (rnat_u M9.out.rd)
    rw [E9.out] at H9
    simp only at H9
    clear hR hO H8 M8
    go_wp2_with fail
    refine (H9.out).mono ?_
    rintro e v9 ⟨rfl, hR, hO⟩
    have M10 := Lib.hid (M9.out.only hR hO HBG.out HWG.out)
    clear hR hO H9 M9
    go_upto_block 0 with fail
    obtain ⟨K, hK⟩ : ∃ K, min a9 9 = K := ⟨_, rfl⟩
    go_cut [] from 10 to 73 (fun wx => ∃ (ns : List Nat) (s11 : Option Nat) (Tv : Option Addr) (tcv : Nat), hdS bd K s10 = (ns, s11) ∧ ns.length = K ∧ RMid w w2 wx g w2.heap.size A cap bd s11 #[.int .i64 z0, .int .i64 z1, .int .i64 z2, .int .i64 z3, .int .i64 z4, .int .i64 z5, .int .i64 z6, .int .i64 z7, .int .i64 0, .slice Tv K tcv, .slice none 0 0] ∧ RowN wx (w2.heap.size + 1) 1 (.slice Tv K tcv) K (numC ns))
    · go_wp2_with fail
      go_loopw [10] (fun iv wr => ∃ (i : Nat) (ns : List Nat) (st : Option Nat) (Tv : Option Addr) (tcv : Nat), i ≤ K ∧ iv = .int .u64 i ∧ hdS bd i s10 = (ns, st) ∧ RMid w w2 wr g w2.heap.size A cap bd st #[.int .i64 z0, .int .i64 z1, .int .i64 z2, .int .i64 z3, .int .i64 z4, .int .i64 z5, .int .i64 z6, .int .i64 z7, .int .i64 0, .slice Tv i tcv, .slice none 0 0] ∧ RowN wr (w2.heap.size + 1) 1 (.slice Tv i tcv) i (numC ns)) (fun iv _ => 9 - (intOf iv).toNat)
      case atStart => exact ⟨0, [], s10, none, 0, Nat.zero_le _, rfl, rfl, M10.out, ⟨RowIs.nil _ _, (fun b e => by cases e), fun _ => rfl⟩⟩
      case round =>
        obtain ⟨i, ns, st, Tv, tcv, hi, rfl, hh, hm, hrow⟩ := hrel
        by_cases hlt : i < K
        · have q1 : (i : Int) < (a9 : Int) := by omega
          have q2 : (i : Int) < 9 := by omega
          have hsn := hdS_snoc bd i s10
          rw [hh] at hsn
          simp only at hsn
          obtain ⟨x, s', hx⟩ : ∃ x s', natS bd st = (x, s') := ⟨_, _, rfl⟩
          rw [hx] at hsn
          simp only at hsn
          have hnl : ns.length = i := by have := hdS_len bd i s10; rw [hh] at this; exact this
          have HSN := Lib.hid (And.intro hsn hnl)
          have HXX := Lib.hid hx
          have HLT := Lib.hid hlt
          have hi9 : i + 1 ≤ 9 := by omega
          have hdr := below_drew (Below.refl wr.heap.size wr)
          have N0 := Lib.hid (hm.below hdr)
          have R0 : Hid (RowN wr.drew (w2.heap.size + 1) 1 (.slice Tv i tcv) i (numC ns)) := Lib.hid ⟨hrow.1.below hdr, hrow.2⟩
          clear hsn hnl hx hlt hi hh hm hrow hdr hK
          go_wp2_with fail
          refine wp_only ?_
          refine wp_region_held_drew (S := fun _ => True) (by kernel_rfl) trivial (fun hHeld => ?_)
          generalize wr.drew = D at *
          have HNU := Lib.hid (rnum_u N0.out.rd)
          unfold numS at HNU
          rw [HXX.out] at HNU
          simp only at HNU
          refine tkH (i := 0) (oi := { dst := some 67, op := .fieldAddr 37 (.tmp 7) 9, type := 0, pos := "ref.go:128", after := #[], guard := none }) (v := ?vv1) ?hy1 ?rest1
          case hy1 => (refine Or.inl ⟨by rfl, ?_⟩; intro W hSw; (try dsimp only at hSw); go_simp; (try with_reducible rfl))
          try simp only [Act.put, pzz]
          refine tkH (i := 2) (oi := { dst := some 69, op := .move (.tmp 6), type := 214, pos := "ref.go:128", after := #[], guard := none }) (v := ?vv2) ?hy2 ?rest2
          case hy2 => (refine Or.inl ⟨by rfl, ?_⟩; intro W hSw; (try dsimp only at hSw); go_simp; (try with_reducible rfl))
          try simp only [Act.put, pzz]
          refine wpAnyH_ready (rs := [1, 3]) (by kernel_rfl) (by simp) ?_
          have l9 := cell_of N0.out.box 9
          simp at l9
          refine AllReadyH.cons (o := { dst := some 68, op := .load 34 (.tmp 67), type := 34, pos := "ref.go:128", after := #[⟨0, .data⟩], guard := none }) rfl (fun K hK => ?step3) ?more3
          ((go_simp))
          refine hK.out _ _ ?hS3 (fun hHeld => ?rr3)
          case hS3 => (trivial)
          clear hK K
          try simp only [Act.put, pzz]
          · skip
            refine wpAnyH_ready (rs := [3]) (by kernel_rfl) (by simp) ?_
            refine AllReadyH.cons (o := { dst := some 70, op := .call { callee := .value (.func 138), args := #[.tmp 69], argTypes := #[214] }, type := 2, pos := "ref.go:128", after := #[⟨2, .data⟩], guard := none }) rfl (fun K hK => ?step4) ?more4
            case more4 => exact AllReadyH.nil
            ((go_simp; go_at_call 138; refine (HNU.out).mono ?_; rintro e v2 ⟨rfl, hR, hO⟩; have N1 := Lib.hid (N0.out.only hR hO HBG.out HWG.out); have R1 : Hid (RowN v2 (w2.heap.size + 1) 1 (.slice Tv i tcv) i (numC ns)) := Lib.hid ⟨R0.out.1.touch hO.touch (fun b e hbg => by have := (R0.out.2.1 b e).1; have := HGL.out; omega), R0.out.2⟩; clear hR hO; go_wp2_with fail))
            refine hK.out _ _ ?hS4 (fun hHeld => ?rr4)
            case hS4 => (trivial)
            clear hK K
            try simp only [Act.put, pzz]
            refine wpAnyH_ready (rs := [4]) (by kernel_rfl) (by simp) ?_
            have hbn := below_new (w := v2) (.cells #[.int .i64 (numV x)] 2)
            have hat := alloc_at v2 (.cells #[.int .i64 (numV x)] 2)
            have N2 := Lib.hid (N1.out.below hbn)
            have R2 : Hid (RowN (v2.alloc (.cells #[.int .i64 (numV x)] 2)) (w2.heap.size + 1) 1 (.slice Tv i tcv) i (numC ns)) := Lib.hid ⟨R1.out.1.below hbn, R1.out.2⟩
            have HSR := Lib.hid (src_num hat rfl)
            clear hbn hat
            refine AllReadyH.cons (o := { dst := some 71, op := .buildSlice 34 1 #[(0, .tmp 70)], type := 34, pos := "ref.go:128", after := #[⟨3, .data⟩], guard := none }) rfl (fun K hK => ?step5) ?more5
            case more5 => exact AllReadyH.nil
            ((go_simp))
            refine hK.out _ _ ?hS5 (fun hHeld => ?rr5)
            case hS5 => (trivial)
            clear hK K
            try simp only [Act.put, pzz]
            refine wpAnyH_ready (rs := [5]) (by kernel_rfl) (by simp) ?_
            obtain ⟨v5, w5, hr5, hw5, hg5, ho5⟩ := run_append_row (v2.alloc (.cells #[.int .i64 (numV x)] 2)) 34 2 34 34 Tryz.underlying34 infoI rfl (by decide) (by decide) (.slice Tv i tcv) i 1 (numC ns) [.int .i64 (numV x)] _ R2.out.1 HSR.out (by omega)
            have ht := (Touch.refl (fun k => (Value.slice Tv i tcv).ownBlock = some k) (v2.alloc (.cells #[.int .i64 (numV x)] 2))).grown hg5 (fun k e _ => e)
            have hbig : w2.heap.size + 1 ≤ (v2.alloc (.cells #[.int .i64 (numV x)] 2)).heap.size := heap_lt N2.out.box
            have hbb := ht.below (B := w2.heap.size + 1) (fun b e => (R2.out.2.1 b e).1) hbig
            have N3 := Lib.hid (N2.out.row HR2.out HA2.out hbb (Nat.le_refl _) HW2.out)
            rw [← numC_snoc] at hw5
            have R3 := Lib.hid (R2.out.grown hbig hw5 ho5 (numC_first (by simp)))
            obtain ⟨Tn, tcn, rfl, _⟩ := hw5.form
            have HRN := Lib.hid hr5
            clear hr5 hw5 hg5 ho5 ht hbig hbb
            refine AllReadyH.cons (o := { dst := some 72, op := .call { callee := .builtin .append, args := #[.tmp 68, .tmp 71], argTypes := #[34, 34] }, type := 34, pos := "ref.go:128", after := #[⟨1, .data⟩, ⟨4, .data⟩, ⟨3, .chain⟩], guard := none }) rfl (fun K hK => ?step6) ?more6
            case more6 => exact AllReadyH.nil
            ((refine oper_app_run _ _ _ _ rfl rfl rfl HRN.out ?_ (by kernel_rfl)))
            refine hK.out _ _ ?hS6 (fun hHeld => ?rr6)
            case hS6 => (trivial)
            clear hK K
            try simp only [Act.put, pzz]
            refine tkH (i := 6) (oi := { dst := some 73, op := .fieldAddr 37 (.tmp 7) 9, type := 0, pos := "ref.go:128", after := #[⟨0, .phase⟩, ⟨1, .phase⟩, ⟨2, .phase⟩, ⟨3, .phase⟩, ⟨4, .phase⟩, ⟨5, .phase⟩], guard := none }) (v := ?vv7) ?hy7 ?rest7
            case hy7 => (refine Or.inl ⟨by rfl, ?_⟩; intro W hSw; (try dsimp only at hSw); go_simp; (try with_reducible rfl))
            try simp only [Act.put, pzz]
            refine wpAnyH_ready (rs := [7]) (by kernel_rfl) (by simp) ?_
            have c9 := cell_of N3.out.box 9; have f9 := free0 N3.out.box 9
            simp at c9
            have hM2 := N3.out.set HR2.out HA2.out (Nat.le_refl _) HW2.out 9 (.slice Tn (i + 1) tcn)
            have hT := (Touch.refl (fun k => k = w2.heap.size) w5).setCell ⟨w2.heap.size, 9, none⟩ (fun _ => rfl) (.slice Tn (i + 1) tcn)
            have hRW : RowN (w5.setCell ⟨w2.heap.size, 9, none⟩ (.slice Tn (i + 1) tcn)) (w2.heap.size + 1) 1 (.slice Tn (i + 1) tcn) (i + 1) (numC (ns ++ [x])) := ⟨R3.out.1.touch hT (fun b e hbg => by have := (R3.out.2.1 b e).1; omega), R3.out.2⟩
            have HM2 := Lib.hid hM2
            have HRW := Lib.hid hRW
            clear hM2 hT hRW
            refine AllReadyH.cons (o := { dst := none, op := .store 34 (.tmp 73) (.tmp 72), type := 0, pos := "ref.go:128", after := #[⟨6, .data⟩, ⟨5, .data⟩, ⟨5, .chain⟩, ⟨0, .phase⟩, ⟨1, .phase⟩, ⟨2, .phase⟩, ⟨3, .phase⟩, ⟨4, .phase⟩, ⟨5, .phase⟩], guard := none }) rfl (fun K hK => ?step8) ?more8
            case more8 => exact AllReadyH.nil
            ((go_simp))
            refine hK.out _ _ ?hS8 (fun hHeld => ?rr8)
            case hS8 => (trivial)
            clear hK K
            try simp only [Act.put, pzz]
            refine wpAnyH_done (by kernel_rfl) ?_ _
            clear hHeld c9 f9 l9
            dsimp only [onlyN]
            go_wp2_with fail
            go_roundw
            case rel => exact ⟨i + 1, ns ++ [x], s', Tn, tcn, HLT.out, by go_num, HSN.out.1, HM2.out, HRW.out⟩
            case measure => simp [intOf]; omega
          · skip
            clear l9
            refine AllReadyH.cons (o := { dst := some 70, op := .call { callee := .value (.func 138), args := #[.tmp 69], argTypes := #[214] }, type := 2, pos := "ref.go:128", after := #[⟨2, .data⟩], guard := none }) rfl (fun K hK => ?step9) ?more9
            case more9 => exact AllReadyH.nil
            ((go_simp; go_at_call 138; refine (HNU.out).mono ?_; rintro e v2 ⟨rfl, hR, hO⟩; have N1 := Lib.hid (N0.out.only hR hO HBG.out HWG.out); have R1 : Hid (RowN v2 (w2.heap.size + 1) 1 (.slice Tv i tcv) i (numC ns)) := Lib.hid ⟨R0.out.1.touch hO.touch (fun b e hbg => by have := (R0.out.2.1 b e).1; have := HGL.out; omega), R0.out.2⟩; clear hR hO; go_wp2_with fail))
            refine hK.out _ _ ?hS9 (fun hHeld => ?rr9)
            case hS9 => (trivial)
            clear hK K
            try simp only [Act.put, pzz]
            refine wpAnyH_ready (rs := [1, 4]) (by kernel_rfl) (by simp) ?_
            have l9 := cell_of N1.out.box 9
            simp at l9
            refine AllReadyH.cons (o := { dst := some 68, op := .load 34 (.tmp 67), type := 34, pos := "ref.go:128", after := #[⟨0, .data⟩], guard := none }) rfl (fun K hK => ?step10) ?more10
            ((go_simp))
            refine hK.out _ _ ?hS10 (fun hHeld => ?rr10)
            case hS10 => (trivial)
            clear hK K
            try simp only [Act.put, pzz]
            · skip
              refine wpAnyH_ready (rs := [4]) (by kernel_rfl) (by simp) ?_
              have hbn := below_new (w := v2) (.cells #[.int .i64 (numV x)] 2)
              have hat := alloc_at v2 (.cells #[.int .i64 (numV x)] 2)
              have N2 := Lib.hid (N1.out.below hbn)
              have R2 : Hid (RowN (v2.alloc (.cells #[.int .i64 (numV x)] 2)) (w2.heap.size + 1) 1 (.slice Tv i tcv) i (numC ns)) := Lib.hid ⟨R1.out.1.below hbn, R1.out.2⟩
              have HSR := Lib.hid (src_num hat rfl)
              clear hbn hat
              refine AllReadyH.cons (o := { dst := some 71, op := .buildSlice 34 1 #[(0, .tmp 70)], type := 34, pos := "ref.go:128", after := #[⟨3, .data⟩], guard := none }) rfl (fun K hK => ?step11) ?more11
              case more11 => exact AllReadyH.nil
              ((go_simp))
              refine hK.out _ _ ?hS11 (fun hHeld => ?rr11)
              case hS11 => (trivial)
              clear hK K
              try simp only [Act.put, pzz]
              refine wpAnyH_ready (rs := [5]) (by kernel_rfl) (by simp) ?_
              obtain ⟨v5, w5, hr5, hw5, hg5, ho5⟩ := run_append_row (v2.alloc (.cells #[.int .i64 (numV x)] 2)) 34 2 34 34 Tryz.underlying34 infoI rfl (by decide) (by decide) (.slice Tv i tcv) i 1 (numC ns) [.int .i64 (numV x)] _ R2.out.1 HSR.out (by omega)
              have ht := (Touch.refl (fun k => (Value.slice Tv i tcv).ownBlock = some k) (v2.alloc (.cells #[.int .i64 (numV x)] 2))).grown hg5 (fun k e _ => e)
              have hbig : w2.heap.size + 1 ≤ (v2.alloc (.cells #[.int .i64 (numV x)] 2)).heap.size := heap_lt N2.out.box
              have hbb := ht.below (B := w2.heap.size + 1) (fun b e => (R2.out.2.1 b e).1) hbig
              have N3 := Lib.hid (N2.out.row HR2.out HA2.out hbb (Nat.le_refl _) HW2.out)
              rw [← numC_snoc] at hw5
              have R3 := Lib.hid (R2.out.grown hbig hw5 ho5 (numC_first (by simp)))
              obtain ⟨Tn, tcn, rfl, _⟩ := hw5.form
              have HRN := Lib.hid hr5
              clear hr5 hw5 hg5 ho5 ht hbig hbb
              refine AllReadyH.cons (o := { dst := some 72, op := .call { callee := .builtin .append, args := #[.tmp 68, .tmp 71], argTypes := #[34, 34] }, type := 34, pos := "ref.go:128", after := #[⟨1, .data⟩, ⟨4, .data⟩, ⟨3, .chain⟩], guard := none }) rfl (fun K hK => ?step12) ?more12
              case more12 => exact AllReadyH.nil
              ((refine oper_app_run _ _ _ _ rfl rfl rfl HRN.out ?_ (by kernel_rfl)))
              refine hK.out _ _ ?hS12 (fun hHeld => ?rr12)
              case hS12 => (trivial)
              clear hK K
              try simp only [Act.put, pzz]
              refine tkH (i := 6) (oi := { dst := some 73, op := .fieldAddr 37 (.tmp 7) 9, type := 0, pos := "ref.go:128", after := #[⟨0, .phase⟩, ⟨1, .phase⟩, ⟨2, .phase⟩, ⟨3, .phase⟩, ⟨4, .phase⟩, ⟨5, .phase⟩], guard := none }) (v := ?vv13) ?hy13 ?rest13
              case hy13 => (refine Or.inl ⟨by rfl, ?_⟩; intro W hSw; (try dsimp only at hSw); go_simp; (try with_reducible rfl))
              try simp only [Act.put, pzz]
              refine wpAnyH_ready (rs := [7]) (by kernel_rfl) (by simp) ?_
              have c9 := cell_of N3.out.box 9; have f9 := free0 N3.out.box 9
              simp at c9
              have hM2 := N3.out.set HR2.out HA2.out (Nat.le_refl _) HW2.out 9 (.slice Tn (i + 1) tcn)
              have hT := (Touch.refl (fun k => k = w2.heap.size) w5).setCell ⟨w2.heap.size, 9, none⟩ (fun _ => rfl) (.slice Tn (i + 1) tcn)
              have hRW : RowN (w5.setCell ⟨w2.heap.size, 9, none⟩ (.slice Tn (i + 1) tcn)) (w2.heap.size + 1) 1 (.slice Tn (i + 1) tcn) (i + 1) (numC (ns ++ [x])) := ⟨R3.out.1.touch hT (fun b e hbg => by have := (R3.out.2.1 b e).1; omega), R3.out.2⟩
              have HM2 := Lib.hid hM2
              have HRW := Lib.hid hRW
              clear hM2 hT hRW
              refine AllReadyH.cons (o := { dst := none, op := .store 34 (.tmp 73) (.tmp 72), type := 0, pos := "ref.go:128", after := #[⟨6, .data⟩, ⟨5, .data⟩, ⟨5, .chain⟩, ⟨0, .phase⟩, ⟨1, .phase⟩, ⟨2, .phase⟩, ⟨3, .phase⟩, ⟨4, .phase⟩, ⟨5, .phase⟩], guard := none }) rfl (fun K hK => ?step14) ?more14
              case more14 => exact AllReadyH.nil
              ((go_simp))
              refine hK.out _ _ ?hS14 (fun hHeld => ?rr14)
              case hS14 => (trivial)
              clear hK K
              try simp only [Act.put, pzz]
              refine wpAnyH_done (by kernel_rfl) ?_ _
              clear hHeld c9 f9 l9
              dsimp only [onlyN]
              go_wp2_with fail
              go_roundw
              case rel => exact ⟨i + 1, ns ++ [x], s', Tn, tcn, HLT.out, by go_num, HSN.out.1, HM2.out, HRW.out⟩
              case measure => simp [intOf]; omega
            · skip
              clear l9
              have hbn := below_new (w := v2) (.cells #[.int .i64 (numV x)] 2)
              have hat := alloc_at v2 (.cells #[.int .i64 (numV x)] 2)
              have N2 := Lib.hid (N1.out.below hbn)
              have R2 : Hid (RowN (v2.alloc (.cells #[.int .i64 (numV x)] 2)) (w2.heap.size + 1) 1 (.slice Tv i tcv) i (numC ns)) := Lib.hid ⟨R1.out.1.below hbn, R1.out.2⟩
              have HSR := Lib.hid (src_num hat rfl)
              clear hbn hat
              refine AllReadyH.cons (o := { dst := some 71, op := .buildSlice 34 1 #[(0, .tmp 70)], type := 34, pos := "ref.go:128", after := #[⟨3, .data⟩], guard := none }) rfl (fun K hK => ?step15) ?more15
              case more15 => exact AllReadyH.nil
              ((go_simp))
              refine hK.out _ _ ?hS15 (fun hHeld => ?rr15)
              case hS15 => (trivial)
              clear hK K
              try simp only [Act.put, pzz]
              refine wpAnyH_ready (rs := [1]) (by kernel_rfl) (by simp) ?_
              have l9 := cell_of N2.out.box 9
              simp at l9
              refine AllReadyH.cons (o := { dst := some 68, op := .load 34 (.tmp 67), type := 34, pos := "ref.go:128", after := #[⟨0, .data⟩], guard := none }) rfl (fun K hK => ?step16) ?more16
              case more16 => exact AllReadyH.nil
              ((go_simp))
              refine hK.out _ _ ?hS16 (fun hHeld => ?rr16)
              case hS16 => (trivial)
              clear hK K
              try simp only [Act.put, pzz]
              refine wpAnyH_ready (rs := [5]) (by kernel_rfl) (by simp) ?_
              obtain ⟨v5, w5, hr5, hw5, hg5, ho5⟩ := run_append_row (v2.alloc (.cells #[.int .i64 (numV x)] 2)) 34 2 34 34 Tryz.underlying34 infoI rfl (by decide) (by decide) (.slice Tv i tcv) i 1 (numC ns) [.int .i64 (numV x)] _ R2.out.1 HSR.out (by omega)
              have ht := (Touch.refl (fun k => (Value.slice Tv i tcv).ownBlock = some k) (v2.alloc (.cells #[.int .i64 (numV x)] 2))).grown hg5 (fun k e _ => e)
              have hbig : w2.heap.size + 1 ≤ (v2.alloc (.cells #[.int .i64 (numV x)] 2)).heap.size := heap_lt N2.out.box
              have hbb := ht.below (B := w2.heap.size + 1) (fun b e => (R2.out.2.1 b e).1) hbig
              have N3 := Lib.hid (N2.out.row HR2.out HA2.out hbb (Nat.le_refl _) HW2.out)
              rw [← numC_snoc] at hw5
              have R3 := Lib.hid (R2.out.grown hbig hw5 ho5 (numC_first (by simp)))
              obtain ⟨Tn, tcn, rfl, _⟩ := hw5.form
              have HRN := Lib.hid hr5
              clear hr5 hw5 hg5 ho5 ht hbig hbb
              refine AllReadyH.cons (o := { dst := some 72, op := .call { callee := .builtin .append, args := #[.tmp 68, .tmp 71], argTypes := #[34, 34] }, type := 34, pos := "ref.go:128", after := #[⟨1, .data⟩, ⟨4, .data⟩, ⟨3, .chain⟩], guard := none }) rfl (fun K hK => ?step17) ?more17
              case more17 => exact AllReadyH.nil
              ((refine oper_app_run _ _ _ _ rfl rfl rfl HRN.out ?_ (by kernel_rfl)))
              refine hK.out _ _ ?hS17 (fun hHeld => ?rr17)
              case hS17 => (trivial)
              clear hK K
              try simp only [Act.put, pzz]
              refine tkH (i := 6) (oi := { dst := some 73, op := .fieldAddr 37 (.tmp 7) 9, type := 0, pos := "ref.go:128", after := #[⟨0, .phase⟩, ⟨1, .phase⟩, ⟨2, .phase⟩, ⟨3, .phase⟩, ⟨4, .phase⟩, ⟨5, .phase⟩], guard := none }) (v := ?vv18) ?hy18 ?rest18
              case hy18 => (refine Or.inl ⟨by rfl, ?_⟩; intro W hSw; (try dsimp only at hSw); go_simp; (try with_reducible rfl))
              try simp only [Act.put, pzz]
              refine wpAnyH_ready (rs := [7]) (by kernel_rfl) (by simp) ?_
              have c9 := cell_of N3.out.box 9; have f9 := free0 N3.out.box 9
              simp at c9
              have hM2 := N3.out.set HR2.out HA2.out (Nat.le_refl _) HW2.out 9 (.slice Tn (i + 1) tcn)
              have hT := (Touch.refl (fun k => k = w2.heap.size) w5).setCell ⟨w2.heap.size, 9, none⟩ (fun _ => rfl) (.slice Tn (i + 1) tcn)
              have hRW : RowN (w5.setCell ⟨w2.heap.size, 9, none⟩ (.slice Tn (i + 1) tcn)) (w2.heap.size + 1) 1 (.slice Tn (i + 1) tcn) (i + 1) (numC (ns ++ [x])) := ⟨R3.out.1.touch hT (fun b e hbg => by have := (R3.out.2.1 b e).1; omega), R3.out.2⟩
              have HM2 := Lib.hid hM2
              have HRW := Lib.hid hRW
              clear hM2 hT hRW
              refine AllReadyH.cons (o := { dst := none, op := .store 34 (.tmp 73) (.tmp 72), type := 0, pos := "ref.go:128", after := #[⟨6, .data⟩, ⟨5, .data⟩, ⟨5, .chain⟩, ⟨0, .phase⟩, ⟨1, .phase⟩, ⟨2, .phase⟩, ⟨3, .phase⟩, ⟨4, .phase⟩, ⟨5, .phase⟩], guard := none }) rfl (fun K hK => ?step19) ?more19
              case more19 => exact AllReadyH.nil
              ((go_simp))
              refine hK.out _ _ ?hS19 (fun hHeld => ?rr19)
              case hS19 => (trivial)
              clear hK K
              try simp only [Act.put, pzz]
              refine wpAnyH_done (by kernel_rfl) ?_ _
              clear hHeld c9 f9 l9
              dsimp only [onlyN]
              go_wp2_with fail
              go_roundw
              case rel => exact ⟨i + 1, ns ++ [x], s', Tn, tcn, HLT.out, by go_num, HSN.out.1, HM2.out, HRW.out⟩
              case measure => simp [intOf]; omega
        · obtain rfl : i = K := by omega
          have hnl : ns.length = i := by have := hdS_len bd i s10; rw [hh] at this; exact this
          have H := Lib.hid (And.intro hh (And.intro hnl (And.intro hm hrow)))
          have hcs : ((i : Int) < (a9 : Int) ∧ ¬ (i : Int) < 9) ∨ ¬ (i : Int) < (a9 : Int) := by omega
          clear hh hnl hm hrow hlt hi hK
          rcases hcs with ⟨q1, q2⟩ | q1
          · go_wp2_with fail
            go_meet
            exact ⟨ns, st, Tv, tcv, H.out.1, H.out.2.1, H.out.2.2.1, H.out.2.2.2⟩
          · go_wp2_with fail
            go_meet
            exact ⟨ns, st, Tv, tcv, H.out.1, H.out.2.1, H.out.2.2.1, H.out.2.2.2⟩
    · obtain ⟨ns, s11, Tv, tcv, hh, hnl, hm, hrow⟩ := hcut
      obtain ⟨raw, s12, hraw⟩ : ∃ n s, strS 400 bd s11 = (n, s) := ⟨_, _, rfl⟩
      have hrl : raw.size ≤ 400 := by have := (strS_le : (strS 400 bd s11).1.size ≤ 400); rw [hraw] at this; exact this
      have hkm : manyS [a0, a1, a2, a3, a4, a5, a6, a7, a8, a9] = K := hK
      have h8g : ([a0, a1, a2, a3, a4, a5, a6, a7, a8, a9])[8]?.getD 0 = a8 := rfl
      have h9g : ([a0, a1, a2, a3, a4, a5, a6, a7, a8, a9])[9]?.getD 0 = a9 := rfl
      have hmr : ∀ l, msgR [a0, a1, a2, a3, a4, a5, a6, a7, a8, a9] ns l = ⟨z0, z1, z2, z3, z4, z5, z6, z7, (a8 : Int), ns.map numV, l⟩ := fun l => by
        rw [← HZ0.out, ← HZ1.out, ← HZ2.out, ← HZ3.out, ← HZ4.out, ← HZ5.out, ← HZ6.out, ← HZ7.out]
        rfl
      have HRB : Hid (decRB bd = match decO raw.data.toList with | none => none | some l => if s12 = some bd.length ∧ a9 ≤ 8 ∧ a8 ≤ 9223372036854775807 then some ⟨z0, z1, z2, z3, z4, z5, z6, z7, (a8 : Int), ns.map numV, l⟩ else none) := Lib.hid (by
        unfold decRB
        rw [HHD.out]
        simp only
        rw [hkm, hh]
        simp only
        rw [hraw]
        simp only
        rw [h8g, h9g]
        cases decO raw.data.toList with
        | none => rfl
        | some l => simp only; rw [hmr])
      have HNI : Hid (∀ x ∈ ns.map numV, -9223372036854775808 ≤ x ∧ x ≤ 9223372036854775807) := Lib.hid (fun x hx => by
        obtain ⟨y, hy, rfl⟩ := List.mem_map.1 hx
        exact numV_in (by have := hdS_le bd K s10 y; rw [hh] at this; exact this hy))
      have HNL := Lib.hid hnl
      have HST := Lib.hid (rstr_u (most := 400) (by omega) hm.rd)
      rw [hraw] at HST
      simp only at HST
      have M11 := Lib.hid hm
      have R11 := Lib.hid hrow
      clear hh hnl hm hrow hraw hkm h8g h9g hmr hK M10
      go_wp2_with fail
      refine (HST.out).mono ?_
      rintro e w5 ⟨rfl, hR, hO⟩
      have hM5 := M11.out.only hR hO HBG.out HWG.out
      have hR5 : RowN w5 (w2.heap.size + 1) 1 (.slice Tv K tcv) K (numC ns) := ⟨R11.out.1.touch hO.touch (fun b e hbg => by have := (R11.out.2.1 b e).1; have := HGL.out; omega), R11.out.2⟩
      have hcv := Lib.run_convert_string_bytes (P := Tryz.prog) w5 9 54 5 raw Tryz.underlying9 Tryz.underlying54 Tryz.underlying5
      have hbb := bytes_conv w5 raw (by omega)
      have hb6 := Lib.bytesWorld_below w5 5 raw
      have HDO := Lib.hid (ropsdec_any hbb)
      rw [decO_eq] at HDO
      generalize Lib.bytesWorld w5 5 raw = w6 at *
      generalize grownCap w5 raw.size 0 5 = cap6 at *
      have M6 := Lib.hid (hM5.below hb6)
      have R6 : Hid (RowN w6 (w2.heap.size + 1) 1 (.slice Tv K tcv) K (numC ns)) := Lib.hid ⟨hR5.1.below hb6, hR5.2⟩
      clear hR hO hM5 hR5 hbb hb6 HST M11 R11
      go_wp2_with fail
      clear hcv
      refine (HDO.out).mono ?_
      rintro e w7 ⟨hb7, hcase⟩
      have M7 := Lib.hid (M6.out.below hb7)
      have R7 : Hid (RowN w7 (w2.heap.size + 1) 1 (.slice Tv K tcv) K (numC ns)) := Lib.hid ⟨R6.out.1.below hb7, R6.out.2⟩
      have HEN := Lib.hid (rend_u M7.out.rd)
      have HS6 : Hid (w2.heap.size + 1 ≤ w6.heap.size) := Lib.hid (heap_lt M6.out.box)
      clear hb7 M6 R6 HDO
      rcases hcase with ⟨hdo, rfl⟩ | ⟨l, Ao, oc, hdo, rfl, hro, hkl⟩
      · have HNO : Hid (decR bs = none) := Lib.hid (by rw [HDR.out, HRB.out, hdo])
        go_wp2_with fail
        refine (HEN.out).mono ?_
        rintro e w8 ⟨y, rfl, hy, hO⟩
        have M8 : Hid (w8.heap[w.heap.size]? = some (.cells #[.int .i64 0, .int .i64 0, .int .i64 0, .int .i64 0, .int .i64 0, .int .i64 0, .int .i64 0, .int .i64 0, .int .i64 0, .slice none 0 0, .slice none 0 0] 37 (0, 0)) ∧ Below w.heap.size w w8) := Lib.hid ⟨hO.block' M7.out.res (by have := HWG.out; omega), M7.out.bel.trans (hO.touch.below (fun i e => by rw [e]; exact Nat.le_of_lt HWG.out) M7.out.bel.size)⟩
        obtain ⟨yb, hyb⟩ : ∃ b, (y != 0) = b := ⟨_, rfl⟩
        clear hy hO hdo
        cases yb with
        | true =>
          have hzw := M8.out.1
          have c0 := cell_of hzw 0; have c1 := cell_of hzw 1; have c2 := cell_of hzw 2; have c3 := cell_of hzw 3; have c4 := cell_of hzw 4; have c5 := cell_of hzw 5; have c6 := cell_of hzw 6; have c7 := cell_of hzw 7; have c8 := cell_of hzw 8; have c9 := cell_of hzw 9; have c10 := cell_of hzw 10; have f0 := free0 hzw 0; have f1 := free0 hzw 1; have f2 := free0 hzw 2; have f3 := free0 hzw 3; have f4 := free0 hzw 4; have f5 := free0 hzw 5; have f6 := free0 hzw 6; have f7 := free0 hzw 7; have f8 := free0 hzw 8; have f9 := free0 hzw 9; have f10 := free0 hzw 10
          simp at c0 c1 c2 c3 c4 c5 c6 c7 c8 c9 c10
          have HZ5 := Lib.hid (setCells_at w.heap.size [.int .i64 0, .int .i64 0, .int .i64 0, .int .i64 0, .int .i64 0, .int .i64 0, .int .i64 0, .int .i64 0, .int .i64 0, .slice none 0 0, .slice none 0 0] [] [.int .i64 0, .int .i64 0, .int .i64 0, .int .i64 0, .int .i64 0, .int .i64 0, .int .i64 0, .int .i64 0, .int .i64 0, .slice none 0 0, .slice none 0 0] w8 rfl hzw)
          have HT5 := Lib.hid (setCells_touch (S := fun k => k = w.heap.size) (a := w8) w.heap.size (fun _ => rfl) [.int .i64 0, .int .i64 0, .int .i64 0, .int .i64 0, .int .i64 0, .int .i64 0, .int .i64 0, .int .i64 0, .int .i64 0, .slice none 0 0, .slice none 0 0] 0 w8 (Touch.refl _ _))
          clear hzw
          go_wp2_with fail
          change bodyPost _ _ _ _ _ (World.setCells _ w.heap.size 0 [.int .i64 0, .int .i64 0, .int .i64 0, .int .i64 0, .int .i64 0, .int .i64 0, .int .i64 0, .int .i64 0, .int .i64 0, .slice none 0 0, .slice none 0 0])
          simp only [List.length_nil, List.nil_append] at HZ5
          generalize World.setCells _ w.heap.size 0 [.int .i64 0, .int .i64 0, .int .i64 0, .int .i64 0, .int .i64 0, .int .i64 0, .int .i64 0, .int .i64 0, .int .i64 0, .slice none 0 0, .slice none 0 0] = W5 at *
          clear c0 c1 c2 c3 c4 c5 c6 c7 c8 c9 c10 f0 f1 f2 f3 f4 f5 f6 f7 f8 f9 f10
          have j0 := cell_of HZ5.out 0; have j1 := cell_of HZ5.out 1; have j2 := cell_of HZ5.out 2; have j3 := cell_of HZ5.out 3; have j4 := cell_of HZ5.out 4; have j5 := cell_of HZ5.out 5; have j6 := cell_of HZ5.out 6; have j7 := cell_of HZ5.out 7; have j8 := cell_of HZ5.out 8; have j9 := cell_of HZ5.out 9; have j10 := cell_of HZ5.out 10
          simp at j0 j1 j2 j3 j4 j5 j6 j7 j8 j9 j10
          refine bodyPost_ret (v := .tuple #[.agg #[.int .i64 0, .int .i64 0, .int .i64 0, .int .i64 0, .int .i64 0, .int .i64 0, .int .i64 0, .int .i64 0, .int .i64 0, .slice none 0 0, .slice none 0 0], .bool false]) (by simp [results, Tryz.results97, go_sem, j0, j1, j2, j3, j4, j5, j6, j7, j8, j9, j10]) rfl ?_
          exact ⟨M8.out.2.trans (HT5.out.below (fun i e => by rw [e]; exact Nat.le_refl _) M8.out.2.size), .inl ⟨HNO.out, rfl⟩⟩
        | false =>
          have hzw := M8.out.1
          have c0 := cell_of hzw 0; have c1 := cell_of hzw 1; have c2 := cell_of hzw 2; have c3 := cell_of hzw 3; have c4 := cell_of hzw 4; have c5 := cell_of hzw 5; have c6 := cell_of hzw 6; have c7 := cell_of hzw 7; have c8 := cell_of hzw 8; have c9 := cell_of hzw 9; have c10 := cell_of hzw 10; have f0 := free0 hzw 0; have f1 := free0 hzw 1; have f2 := free0 hzw 2; have f3 := free0 hzw 3; have f4 := free0 hzw 4; have f5 := free0 hzw 5; have f6 := free0 hzw 6; have f7 := free0 hzw 7; have f8 := free0 hzw 8; have f9 := free0 hzw 9; have f10 := free0 hzw 10
          simp at c0 c1 c2 c3 c4 c5 c6 c7 c8 c9 c10
          have HZ5 := Lib.hid (setCells_at w.heap.size [.int .i64 0, .int .i64 0, .int .i64 0, .int .i64 0, .int .i64 0, .int .i64 0, .int .i64 0, .int .i64 0, .int .i64 0, .slice none 0 0, .slice none 0 0] [] [.int .i64 0, .int .i64 0, .int .i64 0, .int .i64 0, .int .i64 0, .int .i64 0, .int .i64 0, .int .i64 0, .int .i64 0, .slice none 0 0, .slice none 0 0] w8 rfl hzw)
          have HT5 := Lib.hid (setCells_touch (S := fun k => k = w.heap.size) (a := w8) w.heap.size (fun _ => rfl) [.int .i64 0, .int .i64 0, .int .i64 0, .int .i64 0, .int .i64 0, .int .i64 0, .int .i64 0, .int .i64 0, .int .i64 0, .slice none 0 0, .slice none 0 0] 0 w8 (Touch.refl _ _))
          clear hzw
          go_wp2_with fail
          change bodyPost _ _ _ _ _ (World.setCells _ w.heap.size 0 [.int .i64 0, .int .i64 0, .int .i64 0, .int .i64 0, .int .i64 0, .int .i64 0, .int .i64 0, .int .i64 0, .int .i64 0, .slice none 0 0, .slice none 0 0])
          simp only [List.length_nil, List.nil_append] at HZ5
          generalize World.setCells _ w.heap.size 0 [.int .i64 0, .int .i64 0, .int .i64 0, .int .i64 0, .int .i64 0, .int .i64 0, .int .i64 0, .int .i64 0, .int .i64 0, .slice none 0 0, .slice none 0 0] = W5 at *
          clear c0 c1 c2 c3 c4 c5 c6 c7 c8 c9 c10 f0 f1 f2 f3 f4 f5 f6 f7 f8 f9 f10
          have j0 := cell_of HZ5.out 0; have j1 := cell_of HZ5.out 1; have j2 := cell_of HZ5.out 2; have j3 := cell_of HZ5.out 3; have j4 := cell_of HZ5.out 4; have j5 := cell_of HZ5.out 5; have j6 := cell_of HZ5.out 6; have j7 := cell_of HZ5.out 7; have j8 := cell_of HZ5.out 8; have j9 := cell_of HZ5.out 9; have j10 := cell_of HZ5.out 10
          simp at j0 j1 j2 j3 j4 j5 j6 j7 j8 j9 j10
          refine bodyPost_ret (v := .tuple #[.agg #[.int .i64 0, .int .i64 0, .int .i64 0, .int .i64 0, .int .i64 0, .int .i64 0, .int .i64 0, .int .i64 0, .int .i64 0, .slice none 0 0, .slice none 0 0], .bool false]) (by simp [results, Tryz.results97, go_sem, j0, j1, j2, j3, j4, j5, j6, j7, j8, j9, j10]) rfl ?_
          exact ⟨M8.out.2.trans (HT5.out.below (fun i e => by rw [e]; exact Nat.le_refl _) M8.out.2.size), .inl ⟨HNO.out, rfl⟩⟩
      · have HNO : Hid (¬ (s12 = some bd.length ∧ a9 ≤ 8 ∧ a8 ≤ 9223372036854775807) → decR bs = none) := Lib.hid (fun h => by rw [HDR.out, HRB.out, hdo]; simp only; rw [if_neg h])
        have HOK := Lib.hid hdo
        have HRO := Lib.hid hro
        have HKL := Lib.hid hkl
        clear hdo hro hkl
        go_wp2_with fail
        refine (HEN.out).mono ?_
        rintro e w8 ⟨y, rfl, hy, hO⟩
        have M8 : Hid (w8.heap[w.heap.size]? = some (.cells #[.int .i64 0, .int .i64 0, .int .i64 0, .int .i64 0, .int .i64 0, .int .i64 0, .int .i64 0, .int .i64 0, .int .i64 0, .slice none 0 0, .slice none 0 0] 37 (0, 0)) ∧ Below w.heap.size w w8) := Lib.hid ⟨hO.block' M7.out.res (by have := HWG.out; omega), M7.out.bel.trans (hO.touch.below (fun i e => by rw [e]; exact Nat.le_of_lt HWG.out) M7.out.bel.size)⟩
        have HBX : Hid (w8.heap[w2.heap.size]? = some (.cells #[.int .i64 z0, .int .i64 z1, .int .i64 z2, .int .i64 z3, .int .i64 z4, .int .i64 z5, .int .i64 z6, .int .i64 z7, .int .i64 0, .slice Tv K tcv, .slice none 0 0] 37 (0, 0))) := Lib.hid (hO.block' M7.out.box HBG.out)
        by_cases he : s12 = some bd.length
        · obtain rfl : y = 0 := by simpa [he] using hy
          by_cases h9 : a9 ≤ 8
          · have q9 : ¬ (8 : Int) < (a9 : Int) := by omega
            by_cases h8 : a8 ≤ 9223372036854775807
            · have q8 : ¬ (9223372036854775807 : Int) < (a8 : Int) := by omega
              have q8w : IntKind.i64.wrap (a8 : Int) = (a8 : Int) := by rw [IntWalk.i64_in _ (by omega)]
              obtain ⟨mm, hmm⟩ : ∃ m : MsgV, m = ⟨z0, z1, z2, z3, z4, z5, z6, z7, (a8 : Int), ns.map numV, l⟩ := ⟨_, rfl⟩
              have HDM : Hid (decR bs = if mayM mm = true ∧ encM mm = bs then some mm else none) := Lib.hid (by rw [HDR.out, HRB.out, HOK.out]; simp only; rw [if_pos ⟨he, h9, h8⟩, hmm])
              have hmi : MsgIn mm := by rw [hmm]; exact ⟨HNI.out, fun o ho => ((decO_only HOK.out).2.2 o ho).2⟩
              have hmt : mm.ti ≤ 9223372036854775807 := by rw [hmm]; show (a8 : Int) ≤ _; omega
              have hro8 : RowIs w8 4 (.slice Ao l.length oc) l.length (opC l) ∧ ∀ b, (Value.slice Ao l.length oc).ownBlock = some b → w2.heap.size + 1 ≤ b := ⟨HRO.out.1.touch hO.touch (fun b e hbg => by have := (HRO.out.2.1 b e).1; have := HS6.out; have := HGL.out; omega), fun b e => Nat.le_trans HS6.out (HRO.out.2.1 b e).1⟩
              have hr8 : RowIs w8 1 (.slice Tv K tcv) K (numC ns) ∧ ∀ b, (Value.slice Tv K tcv).ownBlock = some b → w2.heap.size + 1 ≤ b := ⟨R7.out.1.touch hO.touch (fun b e hbg => by have := (R7.out.2.1 b e).1; have := HGL.out; omega), fun b e => (R7.out.2.1 b e).1⟩
              have hz8 := HBX.out
              have c8 := cell_of hz8 8; have f8 := free0 hz8 8
              simp at c8
              have hb8 : w2.heap.size ≤ w8.heap.size := Nat.le_of_lt (heap_lt hz8)
              have hT8 := (Touch.refl (fun k => k = w2.heap.size) w8).setCell ⟨w2.heap.size, 8, none⟩ (fun _ => rfl) (.int .i64 (a8 : Int))
              have hZ9 := set_at hz8 8 (.int .i64 (a8 : Int))
              obtain ⟨W9, hW9⟩ : ∃ W, W = w8.setCell ⟨w2.heap.size, 8, none⟩ (.int .i64 (a8 : Int)) := ⟨_, rfl⟩
              have HW9 := Lib.hid hW9
              rw [← hW9] at hT8 hZ9
              have hZ9 : W9.heap[w2.heap.size]? = some (.cells #[.int .i64 z0, .int .i64 z1, .int .i64 z2, .int .i64 z3, .int .i64 z4, .int .i64 z5, .int .i64 z6, .int .i64 z7, .int .i64 (a8 : Int), .slice Tv K tcv, .slice none 0 0] 37 (0, 0)) := hZ9
              have hT9 := hT8.setCell ⟨w2.heap.size, 10, none⟩ (fun _ => rfl) (.slice Ao l.length oc)
              have hZ10 := set_at hZ9 10 (.slice Ao l.length oc)
              obtain ⟨W10, hW10⟩ : ∃ W, W = W9.setCell ⟨w2.heap.size, 10, none⟩ (.slice Ao l.length oc) := ⟨_, rfl⟩
              have HW10 := Lib.hid hW10
              rw [← hW10] at hT9 hZ10
              have hZ10 : W10.heap[w2.heap.size]? = some (.cells #[.int .i64 z0, .int .i64 z1, .int .i64 z2, .int .i64 z3, .int .i64 z4, .int .i64 z5, .int .i64 z6, .int .i64 z7, .int .i64 (a8 : Int), .slice Tv K tcv, .slice Ao l.length oc] 37 (0, 0)) := hZ10
              have hbt := hT9.below (B := w2.heap.size) (fun i e => by rw [e]; exact Nat.le_refl _) hb8
              have HRES : Hid (W10.heap[w.heap.size]? = some (.cells #[.int .i64 0, .int .i64 0, .int .i64 0, .int .i64 0, .int .i64 0, .int .i64 0, .int .i64 0, .int .i64 0, .int .i64 0, .slice none 0 0, .slice none 0 0] 37 (0, 0)) ∧ Below w.heap.size w W10) := Lib.hid ⟨(hbt.block _ HW2.out).trans M8.out.1, M8.out.2.trans (hbt.mono (Nat.le_of_lt HW2.out))⟩
              have HRT : Hid (RowIs W10 1 (.slice Tv K tcv) K (numC ns) ∧ RowIs W10 4 (.slice Ao l.length oc) l.length (opC l)) := Lib.hid ⟨hr8.1.touch hT9 (fun b e hbg => by have := hr8.2 b e; omega), hro8.1.touch hT9 (fun b e hbg => by have := hro8.2 b e; omega)⟩
              have HNUM : Hid (∀ W, RowIs W 1 (.slice Tv K tcv) K (numC ns) → RowIs W 4 (.slice Ao l.length oc) l.length (opC l) → MsgIs W (.agg #[.int .i64 z0, .int .i64 z1, .int .i64 z2, .int .i64 z3, .int .i64 z4, .int .i64 z5, .int .i64 z6, .int .i64 z7, .int .i64 (a8 : Int), .slice Tv K tcv, .slice Ao l.length oc]) mm) := Lib.hid (fun W h1 h2 => by
                have hn : NumsAt W (.slice Tv K tcv) (ns.map numV) := RowN.nums (B := 0) ⟨h1, fun b e => ⟨Nat.zero_le _, (R7.out.2.1 b e).2⟩, R7.out.2.2⟩ HNL.out
                have hlen : (ns.map numV).length = K := by rw [List.length_map]; exact HNL.out
                rw [hmm]
                exact ⟨Tv, tcv, Ao, oc, by simp only [hlen], by simp only [hlen]; exact hn, h2.ops rfl, HKL.out⟩)
              have HZ10 := Lib.hid hZ10
              have HBI : Hid (BIs W10 (.slice Av N cv) bs) := Lib.hid (HBS.out.below HRES.out.2)
              have hz9 := hZ9
              have HZ9 := Lib.hid hZ9
              clear hy hO hro8 hr8 hz8 hb8 hT8 hZ9 hW9 hT9 hZ10 hW10 hbt hz9
              have HMI := Lib.hid hmi
              have HMT := Lib.hid hmt
              clear hmi hmt hmm
              go_upto_region 25 with fail
              rw [← HW9.out]
              clear c8 f8
              have c10 := cell_of HZ9.out 10; have f10 := free0 HZ9.out 10
              simp at c10
              go_upto_region 26 with fail
              rw [← HW10.out]
              clear c10 f10
              have HMW : Hid (∀ W, Below W10.heap.size W10 W → MsgIs W (.agg #[.int .i64 z0, .int .i64 z1, .int .i64 z2, .int .i64 z3, .int .i64 z4, .int .i64 z5, .int .i64 z6, .int .i64 z7, .int .i64 (a8 : Int), .slice Tv K tcv, .slice Ao l.length oc]) mm) := Lib.hid (fun W hW => HNUM.out W (HRT.out.1.below hW) (HRT.out.2.below hW))
              have HRM := Lib.hid (fun W (hW : Below W10.heap.size W10 W) => rMay_any (HMW.out W hW) HMT.out)
              have HRE := Lib.hid (fun W (hW : Below W10.heap.size W10 W) => rEnc_any (HMW.out W hW) HMI.out HMT.out)
              obtain ⟨mb, hmb⟩ : ∃ b, mayM mm = b := ⟨_, rfl⟩
              obtain ⟨E, hE⟩ : ∃ l, encB mm = l := ⟨_, rfl⟩
              rw [hmb] at HRM
              rw [hE] at HRE
              have HD0 : Hid (mb = false → decR bs = none) := Lib.hid (fun h => by rw [HDM.out, if_neg]; intro hc; rw [hmb, h] at hc; cases hc.1)
              have HD1 : Hid (mb = true → E ≠ bs → decR bs = none) := Lib.hid (fun h h2 => by rw [HDM.out, if_neg]; intro hc; apply h2; rw [← hE, ← hc.2]; unfold encB; rw [if_pos hc.1])
              have HD2 : Hid (mb = true → E = bs → decR bs = some mm) := Lib.hid (fun h h2 => by rw [HDM.out, if_pos ⟨by rw [hmb, h], by rw [← h2, ← hE]; unfold encB; rw [if_pos (by rw [hmb, h])]⟩])
              have HSC : Hid (∀ W, Below W10.heap.size W10 W → (W.cell? ⟨w2.heap.size, 0, none⟩ = some (.int .i64 z0) ∧ W.cell? ⟨w2.heap.size, 1, none⟩ = some (.int .i64 z1) ∧ W.cell? ⟨w2.heap.size, 2, none⟩ = some (.int .i64 z2) ∧ W.cell? ⟨w2.heap.size, 3, none⟩ = some (.int .i64 z3) ∧ W.cell? ⟨w2.heap.size, 4, none⟩ = some (.int .i64 z4) ∧ W.cell? ⟨w2.heap.size, 5, none⟩ = some (.int .i64 z5) ∧ W.cell? ⟨w2.heap.size, 6, none⟩ = some (.int .i64 z6) ∧ W.cell? ⟨w2.heap.size, 7, none⟩ = some (.int .i64 z7) ∧ W.cell? ⟨w2.heap.size, 8, none⟩ = some (.int .i64 (a8 : Int)) ∧ W.cell? ⟨w2.heap.size, 9, none⟩ = some (.slice Tv K tcv) ∧ W.cell? ⟨w2.heap.size, 10, none⟩ = some (.slice Ao l.length oc)) ∧ BIs W (.slice Av N cv) bs) := Lib.hid (fun W hW => by
                have hm := (hW.block _ (heap_lt HZ10.out)).trans HZ10.out
                exact ⟨⟨cell_of hm 0, cell_of hm 1, cell_of hm 2, cell_of hm 3, cell_of hm 4, cell_of hm 5, cell_of hm 6, cell_of hm 7, cell_of hm 8, cell_of hm 9, cell_of hm 10⟩, HBI.out.below hW⟩)
              clear hmb hE
              refine wp_only ?_
              refine wp_region_held_drew (S := fun W => (W.cell? ⟨w2.heap.size, 0, none⟩ = some (.int .i64 z0) ∧ W.cell? ⟨w2.heap.size, 1, none⟩ = some (.int .i64 z1) ∧ W.cell? ⟨w2.heap.size, 2, none⟩ = some (.int .i64 z2) ∧ W.cell? ⟨w2.heap.size, 3, none⟩ = some (.int .i64 z3) ∧ W.cell? ⟨w2.heap.size, 4, none⟩ = some (.int .i64 z4) ∧ W.cell? ⟨w2.heap.size, 5, none⟩ = some (.int .i64 z5) ∧ W.cell? ⟨w2.heap.size, 6, none⟩ = some (.int .i64 z6) ∧ W.cell? ⟨w2.heap.size, 7, none⟩ = some (.int .i64 z7) ∧ W.cell? ⟨w2.heap.size, 8, none⟩ = some (.int .i64 (a8 : Int)) ∧ W.cell? ⟨w2.heap.size, 9, none⟩ = some (.slice Tv K tcv) ∧ W.cell? ⟨w2.heap.size, 10, none⟩ = some (.slice Ao l.length oc)) ∧ BIs W (.slice Av N cv) bs) (by kernel_rfl) (HSC.out _ (below_drew (Below.refl _ _))) (fun hHeld => ?_)
              refine tkH (i := 0) (oi := { dst := some 103, op := .load 37 (.tmp 7), type := 37, pos := "ref.go:137", after := #[], guard := none }) (v := ?vv20) ?hy20 ?rest20
              case hy20 => (refine Or.inl ⟨by rfl, ?_⟩; intro W hSw; (try dsimp only at hSw); go_simp; (try with_reducible rfl))
              try simp only [Act.put, pzz]
              refine wpAnyH_ready (rs := [1]) (by kernel_rfl) (by simp) ?_
              refine AllReadyH.cons (o := { dst := some 104, op := .call { callee := .value (.func 88), args := #[.tmp 103], argTypes := #[37] }, type := 4, pos := "ref.go:137", after := #[⟨0, .data⟩], guard := none }) rfl (fun K hK => ?step21) ?more21
              case more21 => exact AllReadyH.nil
              ((go_simp; go_at_call 88; refine (HRM.out _ (below_drew (Below.refl _ _))).mono ?_; rintro e x1 ⟨rfl, hbn⟩; have X1 := Lib.hid (below_of_drew hbn); clear hbn; go_wp2_with fail))
              refine hK.out _ _ ?hS21 (fun hHeld => ?rr21)
              case hS21 => (exact HSC.out _ X1.out)
              clear hK K
              try simp only [Act.put, pzz]
              cases mb with
              | false =>
                refine tkH (i := 2) (oi := { dst := some 105, op := .unOp .not 4 (.tmp 104), type := 4, pos := "ref.go:137", after := #[⟨1, .data⟩], guard := none }) (v := (.bool true)) ?hy22 ?rest22
                case hy22 => ((refine Or.inl ⟨by rfl, ?_⟩; intro W hSw; (try dsimp only at hSw); go_simp; (try simp)))
                try simp only [Act.put, pzz]
                refine tkH (i := 3) (oi := { dst := some 106, op := .move (.tmp 105), type := 4, pos := "ref.go:137", after := #[⟨2, .data⟩, ⟨1, .chain⟩], guard := none }) (v := ?vv23) ?hy23 ?rest23
                case hy23 => (refine Or.inl ⟨by rfl, ?_⟩; intro W hSw; (try dsimp only at hSw); go_simp; (try with_reducible rfl))
                try simp only [Act.put, pzz]
                refine tkH (i := 4) (oi := { dst := some 107, op := .load 37 (.tmp 7), type := 37, pos := "ref.go:137", after := #[⟨3, .guard⟩], guard := some (3, false) }) (v := undef) ?hy24 ?rest24
                case hy24 => (exact Or.inr ⟨by rfl, rfl⟩)
                try simp only [Act.put, pzz]
                refine tkH (i := 5) (oi := { dst := some 108, op := .call { callee := .value (.func 95), args := #[.tmp 107], argTypes := #[37] }, type := 54, pos := "ref.go:137", after := #[⟨4, .data⟩, ⟨3, .chain⟩, ⟨3, .guard⟩], guard := some (3, false) }) (v := undef) ?hy25 ?rest25
                case hy25 => (exact Or.inr ⟨by rfl, rfl⟩)
                try simp only [Act.put, pzz]
                refine tkH (i := 6) (oi := { dst := some 109, op := .convert 54 9 (.tmp 108), type := 9, pos := "ref.go:137", after := #[⟨5, .data⟩, ⟨3, .guard⟩], guard := some (3, false) }) (v := undef) ?hy26 ?rest26
                case hy26 => (exact Or.inr ⟨by rfl, rfl⟩)
                try simp only [Act.put, pzz]
                refine tkH (i := 7) (oi := { dst := some 110, op := .move (.tmp 0), type := 54, pos := "ref.go:137", after := #[⟨3, .guard⟩], guard := some (3, false) }) (v := undef) ?hy27 ?rest27
                case hy27 => (exact Or.inr ⟨by rfl, rfl⟩)
                try simp only [Act.put, pzz]
                refine tkH (i := 8) (oi := { dst := some 111, op := .convert 54 9 (.tmp 110), type := 9, pos := "ref.go:137", after := #[⟨7, .data⟩, ⟨3, .guard⟩], guard := some (3, false) }) (v := undef) ?hy28 ?rest28
                case hy28 => (exact Or.inr ⟨by rfl, rfl⟩)
                try simp only [Act.put, pzz]
                refine tkH (i := 9) (oi := { dst := some 112, op := .binOp .neq 9 (.tmp 109) (.tmp 111) 9, type := 4, pos := "ref.go:137", after := #[⟨6, .data⟩, ⟨8, .data⟩, ⟨3, .guard⟩], guard := some (3, false) }) (v := undef) ?hy29 ?rest29
                case hy29 => (exact Or.inr ⟨by rfl, rfl⟩)
                try simp only [Act.put, pzz]
                refine tkH (i := 10) (oi := { dst := some 113, op := .pick (.tmp 106) (.const (.bool true)) (.tmp 112), type := 4, pos := "ref.go:137", after := #[⟨3, .data⟩, ⟨9, .data⟩], guard := none }) (v := ?vv30) ?hy30 ?rest30
                case hy30 => (refine Or.inl ⟨by rfl, ?_⟩; intro W hSw; (try dsimp only at hSw); go_simp; (try with_reducible rfl))
                try simp only [Act.put, pzz]
                refine wpAnyH_done (by kernel_rfl) ?_ _
                clear hHeld
                dsimp only [onlyN]
                have HNO := Lib.hid (HD0.out (by simp))
                have HRX : Hid (x1.heap[w.heap.size]? = some (.cells #[.int .i64 0, .int .i64 0, .int .i64 0, .int .i64 0, .int .i64 0, .int .i64 0, .int .i64 0, .int .i64 0, .int .i64 0, .slice none 0 0, .slice none 0 0] 37 (0, 0)) ∧ Below w.heap.size w x1) := Lib.hid ⟨(X1.out.block _ (heap_lt HRES.out.1)).trans HRES.out.1, HRES.out.2.trans (X1.out.mono HRES.out.2.size)⟩
                have hzw := HRX.out.1
                have c0 := cell_of hzw 0; have c1 := cell_of hzw 1; have c2 := cell_of hzw 2; have c3 := cell_of hzw 3; have c4 := cell_of hzw 4; have c5 := cell_of hzw 5; have c6 := cell_of hzw 6; have c7 := cell_of hzw 7; have c8 := cell_of hzw 8; have c9 := cell_of hzw 9; have c10 := cell_of hzw 10; have f0 := free0 hzw 0; have f1 := free0 hzw 1; have f2 := free0 hzw 2; have f3 := free0 hzw 3; have f4 := free0 hzw 4; have f5 := free0 hzw 5; have f6 := free0 hzw 6; have f7 := free0 hzw 7; have f8 := free0 hzw 8; have f9 := free0 hzw 9; have f10 := free0 hzw 10
                simp at c0 c1 c2 c3 c4 c5 c6 c7 c8 c9 c10
                have HZ5 := Lib.hid (setCells_at w.heap.size [.int .i64 0, .int .i64 0, .int .i64 0, .int .i64 0, .int .i64 0, .int .i64 0, .int .i64 0, .int .i64 0, .int .i64 0, .slice none 0 0, .slice none 0 0] [] [.int .i64 0, .int .i64 0, .int .i64 0, .int .i64 0, .int .i64 0, .int .i64 0, .int .i64 0, .int .i64 0, .int .i64 0, .slice none 0 0, .slice none 0 0] x1 rfl hzw)
                have HT5 := Lib.hid (setCells_touch (S := fun k => k = w.heap.size) (a := x1) w.heap.size (fun _ => rfl) [.int .i64 0, .int .i64 0, .int .i64 0, .int .i64 0, .int .i64 0, .int .i64 0, .int .i64 0, .int .i64 0, .int .i64 0, .slice none 0 0, .slice none 0 0] 0 x1 (Touch.refl _ _))
                clear hzw
                go_wp2_with fail
                change bodyPost _ _ _ _ _ (World.setCells _ w.heap.size 0 [.int .i64 0, .int .i64 0, .int .i64 0, .int .i64 0, .int .i64 0, .int .i64 0, .int .i64 0, .int .i64 0, .int .i64 0, .slice none 0 0, .slice none 0 0])
                simp only [List.length_nil, List.nil_append] at HZ5
                generalize World.setCells _ w.heap.size 0 [.int .i64 0, .int .i64 0, .int .i64 0, .int .i64 0, .int .i64 0, .int .i64 0, .int .i64 0, .int .i64 0, .int .i64 0, .slice none 0 0, .slice none 0 0] = W5 at *
                clear c0 c1 c2 c3 c4 c5 c6 c7 c8 c9 c10 f0 f1 f2 f3 f4 f5 f6 f7 f8 f9 f10
                have j0 := cell_of HZ5.out 0; have j1 := cell_of HZ5.out 1; have j2 := cell_of HZ5.out 2; have j3 := cell_of HZ5.out 3; have j4 := cell_of HZ5.out 4; have j5 := cell_of HZ5.out 5; have j6 := cell_of HZ5.out 6; have j7 := cell_of HZ5.out 7; have j8 := cell_of HZ5.out 8; have j9 := cell_of HZ5.out 9; have j10 := cell_of HZ5.out 10
                simp at j0 j1 j2 j3 j4 j5 j6 j7 j8 j9 j10
                refine bodyPost_ret (v := .tuple #[.agg #[.int .i64 0, .int .i64 0, .int .i64 0, .int .i64 0, .int .i64 0, .int .i64 0, .int .i64 0, .int .i64 0, .int .i64 0, .slice none 0 0, .slice none 0 0], .bool false]) (by simp [results, Tryz.results97, go_sem, j0, j1, j2, j3, j4, j5, j6, j7, j8, j9, j10]) rfl ?_
                exact ⟨HRX.out.2.trans (HT5.out.below (fun i e => by rw [e]; exact Nat.le_refl _) HRX.out.2.size), .inl ⟨HNO.out, rfl⟩⟩
              | true =>
                refine tkH (i := 2) (oi := { dst := some 105, op := .unOp .not 4 (.tmp 104), type := 4, pos := "ref.go:137", after := #[⟨1, .data⟩], guard := none }) (v := (.bool false)) ?hy31 ?rest31
                case hy31 => ((refine Or.inl ⟨by rfl, ?_⟩; intro W hSw; (try dsimp only at hSw); go_simp; (try simp)))
                try simp only [Act.put, pzz]
                refine tkH (i := 3) (oi := { dst := some 106, op := .move (.tmp 105), type := 4, pos := "ref.go:137", after := #[⟨2, .data⟩, ⟨1, .chain⟩], guard := none }) (v := ?vv32) ?hy32 ?rest32
                case hy32 => (refine Or.inl ⟨by rfl, ?_⟩; intro W hSw; (try dsimp only at hSw); go_simp; (try with_reducible rfl))
                try simp only [Act.put, pzz]
                refine tkH (i := 4) (oi := { dst := some 107, op := .load 37 (.tmp 7), type := 37, pos := "ref.go:137", after := #[⟨3, .guard⟩], guard := some (3, false) }) (v := ?vv33) ?hy33 ?rest33
                case hy33 => (refine Or.inl ⟨by rfl, ?_⟩; intro W hSw; (try dsimp only at hSw); go_simp; (try with_reducible rfl))
                try simp only [Act.put, pzz]
                refine tkH (i := 7) (oi := { dst := some 110, op := .move (.tmp 0), type := 54, pos := "ref.go:137", after := #[⟨3, .guard⟩], guard := some (3, false) }) (v := ?vv34) ?hy34 ?rest34
                case hy34 => (refine Or.inl ⟨by rfl, ?_⟩; intro W hSw; (try dsimp only at hSw); go_simp; (try with_reducible rfl))
                try simp only [Act.put, pzz]
                refine tkH (i := 8) (oi := { dst := some 111, op := .convert 54 9 (.tmp 110), type := 9, pos := "ref.go:137", after := #[⟨7, .data⟩, ⟨3, .guard⟩], guard := some (3, false) }) (v := (.string ⟨bs.toArray⟩)) ?hy35 ?rest35
                case hy35 => ((refine Or.inl ⟨by rfl, ?_⟩; intro W hSw; have hcv := bis_string hSw.2; clear hSw; go_simp))
                try simp only [Act.put, pzz]
                refine wpAnyH_ready (rs := [5]) (by kernel_rfl) (by simp) ?_
                refine AllReadyH.cons (o := { dst := some 108, op := .call { callee := .value (.func 95), args := #[.tmp 107], argTypes := #[37] }, type := 54, pos := "ref.go:137", after := #[⟨4, .data⟩, ⟨3, .chain⟩, ⟨3, .guard⟩], guard := some (3, false) }) rfl (fun K hK => ?step36) ?more36
                case more36 => exact AllReadyH.nil
                ((go_simp; go_at_call 95; refine (HRE.out _ X1.out).mono ?_; rintro e x2 ⟨v2, rfl, ho, hbn⟩; have X2 := Lib.hid (X1.out.trans (hbn.mono X1.out.size)); obtain ⟨A2, d2, rfl⟩ := ho.len; have HCV := Lib.hid (bis_string ho.bis); clear hbn ho; go_wp2_with fail))
                refine hK.out _ _ ?hS36 (fun hHeld => ?rr36)
                case hS36 => (exact HSC.out _ X2.out)
                clear hK K
                try simp only [Act.put, pzz]
                refine wpAnyH_ready (rs := [6]) (by kernel_rfl) (by simp) ?_
                have hcv := HCV.out
                refine AllReadyH.cons (o := { dst := some 109, op := .convert 54 9 (.tmp 108), type := 9, pos := "ref.go:137", after := #[⟨5, .data⟩, ⟨3, .guard⟩], guard := some (3, false) }) rfl (fun K hK => ?step37) ?more37
                case more37 => exact AllReadyH.nil
                ((go_simp))
                refine hK.out _ _ ?hS37 (fun hHeld => ?rr37)
                case hS37 => (exact HSC.out _ X2.out)
                clear hK K
                try simp only [Act.put, pzz]
                clear hcv
                have HRX : Hid (x2.heap[w.heap.size]? = some (.cells #[.int .i64 0, .int .i64 0, .int .i64 0, .int .i64 0, .int .i64 0, .int .i64 0, .int .i64 0, .int .i64 0, .int .i64 0, .slice none 0 0, .slice none 0 0] 37 (0, 0)) ∧ Below w.heap.size w x2) := Lib.hid ⟨(X2.out.block _ (heap_lt HRES.out.1)).trans HRES.out.1, HRES.out.2.trans (X2.out.mono HRES.out.2.size)⟩
                by_cases heq : E = bs
                · have HF := Lib.hid (HD2.out (by simp) heq)
                  subst heq
                  refine tkH (i := 9) (oi := { dst := some 112, op := .binOp .neq 9 (.tmp 109) (.tmp 111) 9, type := 4, pos := "ref.go:137", after := #[⟨6, .data⟩, ⟨8, .data⟩, ⟨3, .guard⟩], guard := some (3, false) }) (v := (.bool false)) ?hy38 ?rest38
                  case hy38 => ((refine Or.inl ⟨by rfl, ?_⟩; intro W hSw; (try dsimp only at hSw); go_simp; (try simp)))
                  try simp only [Act.put, pzz]
                  refine tkH (i := 10) (oi := { dst := some 113, op := .pick (.tmp 106) (.const (.bool true)) (.tmp 112), type := 4, pos := "ref.go:137", after := #[⟨3, .data⟩, ⟨9, .data⟩], guard := none }) (v := ?vv39) ?hy39 ?rest39
                  case hy39 => (refine Or.inl ⟨by rfl, ?_⟩; intro W hSw; (try dsimp only at hSw); go_simp; (try with_reducible rfl))
                  try simp only [Act.put, pzz]
                  refine wpAnyH_done (by kernel_rfl) ?_ _
                  clear hHeld
                  dsimp only [onlyN]
                  obtain ⟨⟨l0, l1, l2, l3, l4, l5, l6, l7, l8, l9, l10⟩, _⟩ := HSC.out _ X2.out
                  have hzw := HRX.out.1
                  have c0 := cell_of hzw 0; have c1 := cell_of hzw 1; have c2 := cell_of hzw 2; have c3 := cell_of hzw 3; have c4 := cell_of hzw 4; have c5 := cell_of hzw 5; have c6 := cell_of hzw 6; have c7 := cell_of hzw 7; have c8 := cell_of hzw 8; have c9 := cell_of hzw 9; have c10 := cell_of hzw 10; have f0 := free0 hzw 0; have f1 := free0 hzw 1; have f2 := free0 hzw 2; have f3 := free0 hzw 3; have f4 := free0 hzw 4; have f5 := free0 hzw 5; have f6 := free0 hzw 6; have f7 := free0 hzw 7; have f8 := free0 hzw 8; have f9 := free0 hzw 9; have f10 := free0 hzw 10
                  simp at c0 c1 c2 c3 c4 c5 c6 c7 c8 c9 c10
                  have HZ5 : Hid ((x2.setCells w.heap.size 0 [.int .i64 z0, .int .i64 z1, .int .i64 z2, .int .i64 z3, .int .i64 z4, .int .i64 z5, .int .i64 z6, .int .i64 z7, .int .i64 (a8 : Int), .slice Tv K tcv, .slice Ao l.length oc]).heap[w.heap.size]? = some (.cells #[.int .i64 z0, .int .i64 z1, .int .i64 z2, .int .i64 z3, .int .i64 z4, .int .i64 z5, .int .i64 z6, .int .i64 z7, .int .i64 (a8 : Int), .slice Tv K tcv, .slice Ao l.length oc] 37 (0, 0))) := Lib.hid (setCells_at w.heap.size [.int .i64 z0, .int .i64 z1, .int .i64 z2, .int .i64 z3, .int .i64 z4, .int .i64 z5, .int .i64 z6, .int .i64 z7, .int .i64 (a8 : Int), .slice Tv K tcv, .slice Ao l.length oc] [] [.int .i64 0, .int .i64 0, .int .i64 0, .int .i64 0, .int .i64 0, .int .i64 0, .int .i64 0, .int .i64 0, .int .i64 0, .slice none 0 0, .slice none 0 0] x2 rfl hzw)
                  have HT5 := Lib.hid (setCells_touch (S := fun k => k = w.heap.size) (a := x2) w.heap.size (fun _ => rfl) [.int .i64 z0, .int .i64 z1, .int .i64 z2, .int .i64 z3, .int .i64 z4, .int .i64 z5, .int .i64 z6, .int .i64 z7, .int .i64 (a8 : Int), .slice Tv K tcv, .slice Ao l.length oc] 0 x2 (Touch.refl _ _))
                  have HRL : Hid (RowIs x2 1 (.slice Tv K tcv) K (numC ns) ∧ RowIs x2 4 (.slice Ao l.length oc) l.length (opC l)) := Lib.hid ⟨HRT.out.1.below X2.out, HRT.out.2.below X2.out⟩
                  clear hzw
                  go_wp2_with fail
                  change bodyPost _ _ _ _ _ (World.setCells _ w.heap.size 0 [.int .i64 z0, .int .i64 z1, .int .i64 z2, .int .i64 z3, .int .i64 z4, .int .i64 z5, .int .i64 z6, .int .i64 z7, .int .i64 (a8 : Int), .slice Tv K tcv, .slice Ao l.length oc])
                  generalize World.setCells _ w.heap.size 0 [.int .i64 z0, .int .i64 z1, .int .i64 z2, .int .i64 z3, .int .i64 z4, .int .i64 z5, .int .i64 z6, .int .i64 z7, .int .i64 (a8 : Int), .slice Tv K tcv, .slice Ao l.length oc] = W5 at *
                  clear c0 c1 c2 c3 c4 c5 c6 c7 c8 c9 c10 f0 f1 f2 f3 f4 f5 f6 f7 f8 f9 f10 l0 l1 l2 l3 l4 l5 l6 l7 l8 l9 l10
                  have j0 := cell_of HZ5.out 0; have j1 := cell_of HZ5.out 1; have j2 := cell_of HZ5.out 2; have j3 := cell_of HZ5.out 3; have j4 := cell_of HZ5.out 4; have j5 := cell_of HZ5.out 5; have j6 := cell_of HZ5.out 6; have j7 := cell_of HZ5.out 7; have j8 := cell_of HZ5.out 8; have j9 := cell_of HZ5.out 9; have j10 := cell_of HZ5.out 10
                  simp at j0 j1 j2 j3 j4 j5 j6 j7 j8 j9 j10
                  refine bodyPost_ret (v := .tuple #[.agg #[.int .i64 z0, .int .i64 z1, .int .i64 z2, .int .i64 z3, .int .i64 z4, .int .i64 z5, .int .i64 z6, .int .i64 z7, .int .i64 (a8 : Int), .slice Tv K tcv, .slice Ao l.length oc], .bool true]) (by simp [results, Tryz.results97, go_sem, j0, j1, j2, j3, j4, j5, j6, j7, j8, j9, j10]) rfl ?_
                  exact ⟨HRX.out.2.trans (HT5.out.below (fun i e => by rw [e]; exact Nat.le_refl _) HRX.out.2.size), .inr ⟨mm, _, HF.out, rfl, fun W' hT' => HNUM.out _ ((HRL.out.1.touch HT5.out (fun b e hbg => by have := (R7.out.2.1 b e).1; have := HW2.out; omega)).touch hT' (fun b e hbg => by have := (R7.out.2.1 b e).1; have := HW2.out; omega)) ((HRL.out.2.touch HT5.out (fun b e hbg => by have := (HRO.out.2.1 b e).1; have := HS6.out; have := HW2.out; omega)).touch hT' (fun b e hbg => by have := (HRO.out.2.1 b e).1; have := HS6.out; have := HW2.out; omega))⟩⟩
                · have HNO := Lib.hid (HD1.out (by simp) heq)
                  refine tkH (i := 9) (oi := { dst := some 112, op := .binOp .neq 9 (.tmp 109) (.tmp 111) 9, type := 4, pos := "ref.go:137", after := #[⟨6, .data⟩, ⟨8, .data⟩, ⟨3, .guard⟩], guard := some (3, false) }) (v := (.bool true)) ?hy40 ?rest40
                  case hy40 => ((refine Or.inl ⟨by rfl, ?_⟩; intro W hSw; (try dsimp only at hSw); go_simp; (try simp [heq])))
                  try simp only [Act.put, pzz]
                  refine tkH (i := 10) (oi := { dst := some 113, op := .pick (.tmp 106) (.const (.bool true)) (.tmp 112), type := 4, pos := "ref.go:137", after := #[⟨3, .data⟩, ⟨9, .data⟩], guard := none }) (v := ?vv41) ?hy41 ?rest41
                  case hy41 => (refine Or.inl ⟨by rfl, ?_⟩; intro W hSw; (try dsimp only at hSw); go_simp; (try with_reducible rfl))
                  try simp only [Act.put, pzz]
                  refine wpAnyH_done (by kernel_rfl) ?_ _
                  clear hHeld heq
                  dsimp only [onlyN]
                  have hzw := HRX.out.1
                  have c0 := cell_of hzw 0; have c1 := cell_of hzw 1; have c2 := cell_of hzw 2; have c3 := cell_of hzw 3; have c4 := cell_of hzw 4; have c5 := cell_of hzw 5; have c6 := cell_of hzw 6; have c7 := cell_of hzw 7; have c8 := cell_of hzw 8; have c9 := cell_of hzw 9; have c10 := cell_of hzw 10; have f0 := free0 hzw 0; have f1 := free0 hzw 1; have f2 := free0 hzw 2; have f3 := free0 hzw 3; have f4 := free0 hzw 4; have f5 := free0 hzw 5; have f6 := free0 hzw 6; have f7 := free0 hzw 7; have f8 := free0 hzw 8; have f9 := free0 hzw 9; have f10 := free0 hzw 10
                  simp at c0 c1 c2 c3 c4 c5 c6 c7 c8 c9 c10
                  have HZ5 := Lib.hid (setCells_at w.heap.size [.int .i64 0, .int .i64 0, .int .i64 0, .int .i64 0, .int .i64 0, .int .i64 0, .int .i64 0, .int .i64 0, .int .i64 0, .slice none 0 0, .slice none 0 0] [] [.int .i64 0, .int .i64 0, .int .i64 0, .int .i64 0, .int .i64 0, .int .i64 0, .int .i64 0, .int .i64 0, .int .i64 0, .slice none 0 0, .slice none 0 0] x2 rfl hzw)
                  have HT5 := Lib.hid (setCells_touch (S := fun k => k = w.heap.size) (a := x2) w.heap.size (fun _ => rfl) [.int .i64 0, .int .i64 0, .int .i64 0, .int .i64 0, .int .i64 0, .int .i64 0, .int .i64 0, .int .i64 0, .int .i64 0, .slice none 0 0, .slice none 0 0] 0 x2 (Touch.refl _ _))
                  clear hzw
                  go_wp2_with fail
                  change bodyPost _ _ _ _ _ (World.setCells _ w.heap.size 0 [.int .i64 0, .int .i64 0, .int .i64 0, .int .i64 0, .int .i64 0, .int .i64 0, .int .i64 0, .int .i64 0, .int .i64 0, .slice none 0 0, .slice none 0 0])
                  simp only [List.length_nil, List.nil_append] at HZ5
                  generalize World.setCells _ w.heap.size 0 [.int .i64 0, .int .i64 0, .int .i64 0, .int .i64 0, .int .i64 0, .int .i64 0, .int .i64 0, .int .i64 0, .int .i64 0, .slice none 0 0, .slice none 0 0] = W5 at *
                  clear c0 c1 c2 c3 c4 c5 c6 c7 c8 c9 c10 f0 f1 f2 f3 f4 f5 f6 f7 f8 f9 f10
                  have j0 := cell_of HZ5.out 0; have j1 := cell_of HZ5.out 1; have j2 := cell_of HZ5.out 2; have j3 := cell_of HZ5.out 3; have j4 := cell_of HZ5.out 4; have j5 := cell_of HZ5.out 5; have j6 := cell_of HZ5.out 6; have j7 := cell_of HZ5.out 7; have j8 := cell_of HZ5.out 8; have j9 := cell_of HZ5.out 9; have j10 := cell_of HZ5.out 10
                  simp at j0 j1 j2 j3 j4 j5 j6 j7 j8 j9 j10
                  refine bodyPost_ret (v := .tuple #[.agg #[.int .i64 0, .int .i64 0, .int .i64 0, .int .i64 0, .int .i64 0, .int .i64 0, .int .i64 0, .int .i64 0, .int .i64 0, .slice none 0 0, .slice none 0 0], .bool false]) (by simp [results, Tryz.results97, go_sem, j0, j1, j2, j3, j4, j5, j6, j7, j8, j9, j10]) rfl ?_
                  exact ⟨HRX.out.2.trans (HT5.out.below (fun i e => by rw [e]; exact Nat.le_refl _) HRX.out.2.size), .inl ⟨HNO.out, rfl⟩⟩
            · have q8 : (9223372036854775807 : Int) < (a8 : Int) := by omega
              have HNO := Lib.hid (HNO.out (fun h => h8 h.2.2))
              clear hy hO
              have hzw := M8.out.1
              have c0 := cell_of hzw 0; have c1 := cell_of hzw 1; have c2 := cell_of hzw 2; have c3 := cell_of hzw 3; have c4 := cell_of hzw 4; have c5 := cell_of hzw 5; have c6 := cell_of hzw 6; have c7 := cell_of hzw 7; have c8 := cell_of hzw 8; have c9 := cell_of hzw 9; have c10 := cell_of hzw 10; have f0 := free0 hzw 0; have f1 := free0 hzw 1; have f2 := free0 hzw 2; have f3 := free0 hzw 3; have f4 := free0 hzw 4; have f5 := free0 hzw 5; have f6 := free0 hzw 6; have f7 := free0 hzw 7; have f8 := free0 hzw 8; have f9 := free0 hzw 9; have f10 := free0 hzw 10
              simp at c0 c1 c2 c3 c4 c5 c6 c7 c8 c9 c10
              have HZ5 := Lib.hid (setCells_at w.heap.size [.int .i64 0, .int .i64 0, .int .i64 0, .int .i64 0, .int .i64 0, .int .i64 0, .int .i64 0, .int .i64 0, .int .i64 0, .slice none 0 0, .slice none 0 0] [] [.int .i64 0, .int .i64 0, .int .i64 0, .int .i64 0, .int .i64 0, .int .i64 0, .int .i64 0, .int .i64 0, .int .i64 0, .slice none 0 0, .slice none 0 0] w8 rfl hzw)
              have HT5 := Lib.hid (setCells_touch (S := fun k => k = w.heap.size) (a := w8) w.heap.size (fun _ => rfl) [.int .i64 0, .int .i64 0, .int .i64 0, .int .i64 0, .int .i64 0, .int .i64 0, .int .i64 0, .int .i64 0, .int .i64 0, .slice none 0 0, .slice none 0 0] 0 w8 (Touch.refl _ _))
              clear hzw
              go_wp2_with fail
              change bodyPost _ _ _ _ _ (World.setCells _ w.heap.size 0 [.int .i64 0, .int .i64 0, .int .i64 0, .int .i64 0, .int .i64 0, .int .i64 0, .int .i64 0, .int .i64 0, .int .i64 0, .slice none 0 0, .slice none 0 0])
              simp only [List.length_nil, List.nil_append] at HZ5
              generalize World.setCells _ w.heap.size 0 [.int .i64 0, .int .i64 0, .int .i64 0, .int .i64 0, .int .i64 0, .int .i64 0, .int .i64 0, .int .i64 0, .int .i64 0, .slice none 0 0, .slice none 0 0] = W5 at *
              clear c0 c1 c2 c3 c4 c5 c6 c7 c8 c9 c10 f0 f1 f2 f3 f4 f5 f6 f7 f8 f9 f10
              have j0 := cell_of HZ5.out 0; have j1 := cell_of HZ5.out 1; have j2 := cell_of HZ5.out 2; have j3 := cell_of HZ5.out 3; have j4 := cell_of HZ5.out 4; have j5 := cell_of HZ5.out 5; have j6 := cell_of HZ5.out 6; have j7 := cell_of HZ5.out 7; have j8 := cell_of HZ5.out 8; have j9 := cell_of HZ5.out 9; have j10 := cell_of HZ5.out 10
              simp at j0 j1 j2 j3 j4 j5 j6 j7 j8 j9 j10
              refine bodyPost_ret (v := .tuple #[.agg #[.int .i64 0, .int .i64 0, .int .i64 0, .int .i64 0, .int .i64 0, .int .i64 0, .int .i64 0, .int .i64 0, .int .i64 0, .slice none 0 0, .slice none 0 0], .bool false]) (by simp [results, Tryz.results97, go_sem, j0, j1, j2, j3, j4, j5, j6, j7, j8, j9, j10]) rfl ?_
              exact ⟨M8.out.2.trans (HT5.out.below (fun i e => by rw [e]; exact Nat.le_refl _) M8.out.2.size), .inl ⟨HNO.out, rfl⟩⟩
          · have q9 : (8 : Int) < (a9 : Int) := by omega
            have HNO := Lib.hid (HNO.out (fun h => h9 h.2.1))
            clear hy hO
            have hzw := M8.out.1
            have c0 := cell_of hzw 0; have c1 := cell_of hzw 1; have c2 := cell_of hzw 2; have c3 := cell_of hzw 3; have c4 := cell_of hzw 4; have c5 := cell_of hzw 5; have c6 := cell_of hzw 6; have c7 := cell_of hzw 7; have c8 := cell_of hzw 8; have c9 := cell_of hzw 9; have c10 := cell_of hzw 10; have f0 := free0 hzw 0; have f1 := free0 hzw 1; have f2 := free0 hzw 2; have f3 := free0 hzw 3; have f4 := free0 hzw 4; have f5 := free0 hzw 5; have f6 := free0 hzw 6; have f7 := free0 hzw 7; have f8 := free0 hzw 8; have f9 := free0 hzw 9; have f10 := free0 hzw 10
            simp at c0 c1 c2 c3 c4 c5 c6 c7 c8 c9 c10
            have HZ5 := Lib.hid (setCells_at w.heap.size [.int .i64 0, .int .i64 0, .int .i64 0, .int .i64 0, .int .i64 0, .int .i64 0, .int .i64 0, .int .i64 0, .int .i64 0, .slice none 0 0, .slice none 0 0] [] [.int .i64 0, .int .i64 0, .int .i64 0, .int .i64 0, .int .i64 0, .int .i64 0, .int .i64 0, .int .i64 0, .int .i64 0, .slice none 0 0, .slice none 0 0] w8 rfl hzw)
            have HT5 := Lib.hid (setCells_touch (S := fun k => k = w.heap.size) (a := w8) w.heap.size (fun _ => rfl) [.int .i64 0, .int .i64 0, .int .i64 0, .int .i64 0, .int .i64 0, .int .i64 0, .int .i64 0, .int .i64 0, .int .i64 0, .slice none 0 0, .slice none 0 0] 0 w8 (Touch.refl _ _))
            clear hzw
            go_wp2_with fail
            change bodyPost _ _ _ _ _ (World.setCells _ w.heap.size 0 [.int .i64 0, .int .i64 0, .int .i64 0, .int .i64 0, .int .i64 0, .int .i64 0, .int .i64 0, .int .i64 0, .int .i64 0, .slice none 0 0, .slice none 0 0])
            simp only [List.length_nil, List.nil_append] at HZ5
            generalize World.setCells _ w.heap.size 0 [.int .i64 0, .int .i64 0, .int .i64 0, .int .i64 0, .int .i64 0, .int .i64 0, .int .i64 0, .int .i64 0, .int .i64 0, .slice none 0 0, .slice none 0 0] = W5 at *
            clear c0 c1 c2 c3 c4 c5 c6 c7 c8 c9 c10 f0 f1 f2 f3 f4 f5 f6 f7 f8 f9 f10
            have j0 := cell_of HZ5.out 0; have j1 := cell_of HZ5.out 1; have j2 := cell_of HZ5.out 2; have j3 := cell_of HZ5.out 3; have j4 := cell_of HZ5.out 4; have j5 := cell_of HZ5.out 5; have j6 := cell_of HZ5.out 6; have j7 := cell_of HZ5.out 7; have j8 := cell_of HZ5.out 8; have j9 := cell_of HZ5.out 9; have j10 := cell_of HZ5.out 10
            simp at j0 j1 j2 j3 j4 j5 j6 j7 j8 j9 j10
            refine bodyPost_ret (v := .tuple #[.agg #[.int .i64 0, .int .i64 0, .int .i64 0, .int .i64 0, .int .i64 0, .int .i64 0, .int .i64 0, .int .i64 0, .int .i64 0, .slice none 0 0, .slice none 0 0], .bool false]) (by simp [results, Tryz.results97, go_sem, j0, j1, j2, j3, j4, j5, j6, j7, j8, j9, j10]) rfl ?_
            exact ⟨M8.out.2.trans (HT5.out.below (fun i e => by rw [e]; exact Nat.le_refl _) M8.out.2.size), .inl ⟨HNO.out, rfl⟩⟩
        · have hy0 : (y == 0) = false := by simpa [he] using hy
          have hy1 : ¬ y = 0 := by simpa using hy0
          have hy2 : (y != 0) = true := by simpa using hy1
          have HNO := Lib.hid (HNO.out (fun h => he h.1))
          clear hy hO
          have hzw := M8.out.1
          have c0 := cell_of hzw 0; have c1 := cell_of hzw 1; have c2 := cell_of hzw 2; have c3 := cell_of hzw 3; have c4 := cell_of hzw 4; have c5 := cell_of hzw 5; have c6 := cell_of hzw 6; have c7 := cell_of hzw 7; have c8 := cell_of hzw 8; have c9 := cell_of hzw 9; have c10 := cell_of hzw 10; have f0 := free0 hzw 0; have f1 := free0 hzw 1; have f2 := free0 hzw 2; have f3 := free0 hzw 3; have f4 := free0 hzw 4; have f5 := free0 hzw 5; have f6 := free0 hzw 6; have f7 := free0 hzw 7; have f8 := free0 hzw 8; have f9 := free0 hzw 9; have f10 := free0 hzw 10
          simp at c0 c1 c2 c3 c4 c5 c6 c7 c8 c9 c10
          have HZ5 := Lib.hid (setCells_at w.heap.size [.int .i64 0, .int .i64 0, .int .i64 0, .int .i64 0, .int .i64 0, .int .i64 0, .int .i64 0, .int .i64 0, .int .i64 0, .slice none 0 0, .slice none 0 0] [] [.int .i64 0, .int .i64 0, .int .i64 0, .int .i64 0, .int .i64 0, .int .i64 0, .int .i64 0, .int .i64 0, .int .i64 0, .slice none 0 0, .slice none 0 0] w8 rfl hzw)
          have HT5 := Lib.hid (setCells_touch (S := fun k => k = w.heap.size) (a := w8) w.heap.size (fun _ => rfl) [.int .i64 0, .int .i64 0, .int .i64 0, .int .i64 0, .int .i64 0, .int .i64 0, .int .i64 0, .int .i64 0, .int .i64 0, .slice none 0 0, .slice none 0 0] 0 w8 (Touch.refl _ _))
          clear hzw
          go_wp2_with fail
          change bodyPost _ _ _ _ _ (World.setCells _ w.heap.size 0 [.int .i64 0, .int .i64 0, .int .i64 0, .int .i64 0, .int .i64 0, .int .i64 0, .int .i64 0, .int .i64 0, .int .i64 0, .slice none 0 0, .slice none 0 0])
          simp only [List.length_nil, List.nil_append] at HZ5
          generalize World.setCells _ w.heap.size 0 [.int .i64 0, .int .i64 0, .int .i64 0, .int .i64 0, .int .i64 0, .int .i64 0, .int .i64 0, .int .i64 0, .int .i64 0, .slice none 0 0, .slice none 0 0] = W5 at *
          clear c0 c1 c2 c3 c4 c5 c6 c7 c8 c9 c10 f0 f1 f2 f3 f4 f5 f6 f7 f8 f9 f10
          have j0 := cell_of HZ5.out 0; have j1 := cell_of HZ5.out 1; have j2 := cell_of HZ5.out 2; have j3 := cell_of HZ5.out 3; have j4 := cell_of HZ5.out 4; have j5 := cell_of HZ5.out 5; have j6 := cell_of HZ5.out 6; have j7 := cell_of HZ5.out 7; have j8 := cell_of HZ5.out 8; have j9 := cell_of HZ5.out 9; have j10 := cell_of HZ5.out 10
          simp at j0 j1 j2 j3 j4 j5 j6 j7 j8 j9 j10
          refine bodyPost_ret (v := .tuple #[.agg #[.int .i64 0, .int .i64 0, .int .i64 0, .int .i64 0, .int .i64 0, .int .i64 0, .int .i64 0, .int .i64 0, .int .i64 0, .slice none 0 0, .slice none 0 0], .bool false]) (by simp [results, Tryz.results97, go_sem, j0, j1, j2, j3, j4, j5, j6, j7, j8, j9, j10]) rfl ?_
          exact ⟨M8.out.2.trans (HT5.out.below (fun i e => by rw [e]; exact Nat.le_refl _) M8.out.2.size), .inl ⟨HNO.out, rfl⟩⟩
  · have HNO : Hid (decR bs = none) := Lib.hid (by
      unfold decR
      rw [HNN.out, HLB.out, if_neg hg])
    have hcs : (N : Int) = 0 ∨ (¬ (N : Int) = 0 ∧ ¬ (N : Int) = (LB : Int)) := by omega
    rcases hcs with q1 | ⟨q1, q2⟩
    · have q3 : ((N : Int) == 0) = true := by simpa using q1
      obtain rfl : N = 0 := by omega
      clear q1 q3
      have hzw := HR1.out
      have c0 := cell_of hzw 0; have c1 := cell_of hzw 1; have c2 := cell_of hzw 2; have c3 := cell_of hzw 3; have c4 := cell_of hzw 4; have c5 := cell_of hzw 5; have c6 := cell_of hzw 6; have c7 := cell_of hzw 7; have c8 := cell_of hzw 8; have c9 := cell_of hzw 9; have c10 := cell_of hzw 10; have f0 := free0 hzw 0; have f1 := free0 hzw 1; have f2 := free0 hzw 2; have f3 := free0 hzw 3; have f4 := free0 hzw 4; have f5 := free0 hzw 5; have f6 := free0 hzw 6; have f7 := free0 hzw 7; have f8 := free0 hzw 8; have f9 := free0 hzw 9; have f10 := free0 hzw 10
      simp at c0 c1 c2 c3 c4 c5 c6 c7 c8 c9 c10
      have HZ5 := Lib.hid (setCells_at w.heap.size [.int .i64 0, .int .i64 0, .int .i64 0, .int .i64 0, .int .i64 0, .int .i64 0, .int .i64 0, .int .i64 0, .int .i64 0, .slice none 0 0, .slice none 0 0] [] [.int .i64 0, .int .i64 0, .int .i64 0, .int .i64 0, .int .i64 0, .int .i64 0, .int .i64 0, .int .i64 0, .int .i64 0, .slice none 0 0, .slice none 0 0] w1 rfl hzw)
      have HT5 := Lib.hid (setCells_touch (S := fun k => k = w.heap.size) (a := w1) w.heap.size (fun _ => rfl) [.int .i64 0, .int .i64 0, .int .i64 0, .int .i64 0, .int .i64 0, .int .i64 0, .int .i64 0, .int .i64 0, .int .i64 0, .slice none 0 0, .slice none 0 0] 0 w1 (Touch.refl _ _))
      clear hzw
      go_wp2_with fail
      change bodyPost _ _ _ _ _ (World.setCells _ w.heap.size 0 [.int .i64 0, .int .i64 0, .int .i64 0, .int .i64 0, .int .i64 0, .int .i64 0, .int .i64 0, .int .i64 0, .int .i64 0, .slice none 0 0, .slice none 0 0])
      simp only [List.length_nil, List.nil_append] at HZ5
      generalize World.setCells _ w.heap.size 0 [.int .i64 0, .int .i64 0, .int .i64 0, .int .i64 0, .int .i64 0, .int .i64 0, .int .i64 0, .int .i64 0, .int .i64 0, .slice none 0 0, .slice none 0 0] = W5 at *
      clear c0 c1 c2 c3 c4 c5 c6 c7 c8 c9 c10 f0 f1 f2 f3 f4 f5 f6 f7 f8 f9 f10
      have j0 := cell_of HZ5.out 0; have j1 := cell_of HZ5.out 1; have j2 := cell_of HZ5.out 2; have j3 := cell_of HZ5.out 3; have j4 := cell_of HZ5.out 4; have j5 := cell_of HZ5.out 5; have j6 := cell_of HZ5.out 6; have j7 := cell_of HZ5.out 7; have j8 := cell_of HZ5.out 8; have j9 := cell_of HZ5.out 9; have j10 := cell_of HZ5.out 10
      simp at j0 j1 j2 j3 j4 j5 j6 j7 j8 j9 j10
      refine bodyPost_ret (v := .tuple #[.agg #[.int .i64 0, .int .i64 0, .int .i64 0, .int .i64 0, .int .i64 0, .int .i64 0, .int .i64 0, .int .i64 0, .int .i64 0, .slice none 0 0, .slice none 0 0], .bool false]) (by simp [results, Tryz.results97, go_sem, j0, j1, j2, j3, j4, j5, j6, j7, j8, j9, j10]) rfl ?_
      exact ⟨HB1.out.trans (HT5.out.below (fun i e => by rw [e]; exact Nat.le_refl _) HB1.out.size), .inl ⟨HNO.out, rfl⟩⟩
    · have q3 : ((N : Int) == 0) = false := by simpa using q1
      have q4 : ((N : Int) != (LB : Int)) = true := by simpa using q2
      have hzw := HR1.out
      have c0 := cell_of hzw 0; have c1 := cell_of hzw 1; have c2 := cell_of hzw 2; have c3 := cell_of hzw 3; have c4 := cell_of hzw 4; have c5 := cell_of hzw 5; have c6 := cell_of hzw 6; have c7 := cell_of hzw 7; have c8 := cell_of hzw 8; have c9 := cell_of hzw 9; have c10 := cell_of hzw 10; have f0 := free0 hzw 0; have f1 := free0 hzw 1; have f2 := free0 hzw 2; have f3 := free0 hzw 3; have f4 := free0 hzw 4; have f5 := free0 hzw 5; have f6 := free0 hzw 6; have f7 := free0 hzw 7; have f8 := free0 hzw 8; have f9 := free0 hzw 9; have f10 := free0 hzw 10
      simp at c0 c1 c2 c3 c4 c5 c6 c7 c8 c9 c10
      have HZ5 := Lib.hid (setCells_at w.heap.size [.int .i64 0, .int .i64 0, .int .i64 0, .int .i64 0, .int .i64 0, .int .i64 0, .int .i64 0, .int .i64 0, .int .i64 0, .slice none 0 0, .slice none 0 0] [] [.int .i64 0, .int .i64 0, .int .i64 0, .int .i64 0, .int .i64 0, .int .i64 0, .int .i64 0, .int .i64 0, .int .i64 0, .slice none 0 0, .slice none 0 0] w1 rfl hzw)
      have HT5 := Lib.hid (setCells_touch (S := fun k => k = w.heap.size) (a := w1) w.heap.size (fun _ => rfl) [.int .i64 0, .int .i64 0, .int .i64 0, .int .i64 0, .int .i64 0, .int .i64 0, .int .i64 0, .int .i64 0, .int .i64 0, .slice none 0 0, .slice none 0 0] 0 w1 (Touch.refl _ _))
      clear hzw
      go_wp2_with fail
      change bodyPost _ _ _ _ _ (World.setCells _ w.heap.size 0 [.int .i64 0, .int .i64 0, .int .i64 0, .int .i64 0, .int .i64 0, .int .i64 0, .int .i64 0, .int .i64 0, .int .i64 0, .slice none 0 0, .slice none 0 0])
      simp only [List.length_nil, List.nil_append] at HZ5
      generalize World.setCells _ w.heap.size 0 [.int .i64 0, .int .i64 0, .int .i64 0, .int .i64 0, .int .i64 0, .int .i64 0, .int .i64 0, .int .i64 0, .int .i64 0, .slice none 0 0, .slice none 0 0] = W5 at *
      clear c0 c1 c2 c3 c4 c5 c6 c7 c8 c9 c10 f0 f1 f2 f3 f4 f5 f6 f7 f8 f9 f10
      have j0 := cell_of HZ5.out 0; have j1 := cell_of HZ5.out 1; have j2 := cell_of HZ5.out 2; have j3 := cell_of HZ5.out 3; have j4 := cell_of HZ5.out 4; have j5 := cell_of HZ5.out 5; have j6 := cell_of HZ5.out 6; have j7 := cell_of HZ5.out 7; have j8 := cell_of HZ5.out 8; have j9 := cell_of HZ5.out 9; have j10 := cell_of HZ5.out 10
      simp at j0 j1 j2 j3 j4 j5 j6 j7 j8 j9 j10
      refine bodyPost_ret (v := .tuple #[.agg #[.int .i64 0, .int .i64 0, .int .i64 0, .int .i64 0, .int .i64 0, .int .i64 0, .int .i64 0, .int .i64 0, .int .i64 0, .slice none 0 0, .slice none 0 0], .bool false]) (by simp [results, Tryz.results97, go_sem, j0, j1, j2, j3, j4, j5, j6, j7, j8, j9, j10]) rfl ?_
      exact ⟨HB1.out.trans (HT5.out.below (fun i e => by rw [e]; exact Nat.le_refl _) HB1.out.size), .inl ⟨HNO.out, rfl⟩⟩
end Go.Proofs.YtmbonngjkgcijaaGreatDoor
