/- ops.next; mess.read. -/
import Derived.Test.YtfaaeacgmlklhaaDoorZMeeA
set_option linter.unusedSimpArgs false
set_option linter.unusedVariables false
set_option linter.unnecessarySimpa false
namespace Go.Proofs.YtfaaeacgmlklhaaDoor
open Go.RowKit Go.Shelf

theorem Only.block' {g : Nat} {w w' : World} (h : Only g w w') {k : Nat} {o : Obj} (hk : w.heap[k]? = some o) (hne : k ≠ g) : w'.heap[k]? = some o := (h.block k (heap_lt hk) hne).trans hk
set_option maxRecDepth 100000 in
set_option maxHeartbeats 4000000 in
theorem next_u {w : World} {g : Nat} {A : Option Addr} {cap : Nat} {bs : List UInt8} {st : Option Nat} (h : RdS w g A cap bs st) :
    Calls Tryd.prog 42 #[.pointer (some ⟨g, 0, none⟩)] w fun e w' => e = .returned (opV (opS 7 bs st).1) ∧ RdS w' g A cap bs (opS 7 bs st).2 ∧ Only g w w' := by
  have hgl := h.lt
  have hb0 := below_new (w := w) (.cells #[.int .i64 0, .string ⟨#[]⟩, .int .i64 0, .int .i64 0] 43)
  have hat := alloc_at w (.cells #[.int .i64 0, .string ⟨#[]⟩, .int .i64 0, .int .i64 0] 43)
  have HN := Lib.hid (nat_u (h.below hb0))
  have HO0 := Lib.hid (Only.of_below (bt := g) hb0)
  have HAT := Lib.hid hat
  have hle := natS_le bs st
  unfold opS
  obtain ⟨n, s1, hn⟩ : ∃ n s, natS bs st = (n, s) := ⟨_, _, rfl⟩
  rw [hn] at HN hle ⊢
  simp only at HN hle ⊢
  obtain ⟨ks, s2, hs⟩ : ∃ n s, strS 16 bs s1 = (n, s) := ⟨_, _, rfl⟩
  rw [hs]
  simp only
  obtain ⟨x, s3, hx⟩ : ∃ n s, numS bs s2 = (n, s) := ⟨_, _, rfl⟩
  rw [hx]
  simp only
  obtain ⟨y, s4, hy⟩ : ∃ n s, numS bs s3 = (n, s) := ⟨_, _, rfl⟩
  rw [hy]
  simp only
  have HC : IntKind.i64.wrap (min (n : Int) 7) = ((min n 7 : Nat) : Int) := by
    rw [IntWalk.i64_in _ (by omega)]
    omega
  have HH := Lib.hid (And.intro hs (And.intro hx hy))
  generalize ((min n 7 : Nat) : Int) = kd at HC ⊢
  clear h hn hle hb0 hat hs hx hy
  go_enter Tryd.func42, Tryd.ntmps42
  go_wp2_with fail
  refine (HN.out).mono ?_
  rintro e w1 ⟨rfl, h1, h2⟩
  have HS := Lib.hid (str_u (most := 16) (by omega) h1)
  rw [HH.out.1] at HS
  have HO1 := Lib.hid (HO0.out.trans h2)
  have HZ1 := Lib.hid (h2.block' HAT.out (by omega))
  clear h1 h2 HN
  go_wp2_with fail
  refine (HS.out).mono ?_
  rintro e w2 ⟨rfl, h1, h2⟩
  have HX := Lib.hid (num_u h1)
  rw [HH.out.2.1] at HX
  have HO2 := Lib.hid (HO1.out.trans h2)
  have HZ2 := Lib.hid (h2.block' HZ1.out (by omega))
  clear h1 h2 HS
  go_wp2_with fail
  refine (HX.out).mono ?_
  rintro e w3 ⟨rfl, h1, h2⟩
  have HY := Lib.hid (num_u h1)
  rw [HH.out.2.2] at HY
  have HO3 := Lib.hid (HO2.out.trans h2)
  have HZ3 := Lib.hid (h2.block' HZ2.out (by omega))
  clear h1 h2 HX
  go_wp2_with fail
  refine (HY.out).mono ?_
  rintro e w4 ⟨rfl, h1, h2⟩
  have hz := h2.block' HZ3.out (by omega)
  have HR := Lib.hid h1
  have HO4 := Lib.hid (HO3.out.trans h2)
  have c0 := cell_of hz 0
  have c1 := cell_of hz 1
  have c2 := cell_of hz 2
  have c3 := cell_of hz 3
  have f0 := free0 hz 0
  have f1 := free0 hz 1
  have f2 := free0 hz 2
  have f3 := free0 hz 3
  simp at c0 c1 c2 c3
  have hz5 := setCells_at w.heap.size [.int .i64 kd, .string ks, .int .i64 x, .int .i64 y] [] [.int .i64 0, .string ⟨#[]⟩, .int .i64 0, .int .i64 0] w4 rfl hz
  have HZ5 := Lib.hid hz5
  have HT5 := Lib.hid (setCells_touch (S := fun k => k = w.heap.size) (a := w4) w.heap.size (fun _ => rfl) [.int .i64 kd, .string ks, .int .i64 x, .int .i64 y] 0 w4 (Touch.refl _ _))
  have HC0 := Lib.hid c0
  clear h1 h2 hz hz5 HY
  go_wp2_with fail
  change bodyPost _ _ _ _ _ (w4.setCells w.heap.size 0 [.int .i64 kd, .string ks, .int .i64 x, .int .i64 y])
  simp only [List.length_nil, List.nil_append] at HZ5
  generalize w4.setCells w.heap.size 0 [.int .i64 kd, .string ks, .int .i64 x, .int .i64 y] = W5 at *
  clear c0 c1 c2 c3 f0 f1 f2 f3
  have j0 := cell_of HZ5.out 0
  have j1 := cell_of HZ5.out 1
  have j2 := cell_of HZ5.out 2
  have j3 := cell_of HZ5.out 3
  simp at j0 j1 j2 j3
  refine bodyPost_ret (v := opV ⟨kd, ks, x, y⟩) (by simp [results, Tryd.results42, go_sem, j0, j1, j2, j3]) rfl ?_
  exact ⟨rfl, HR.out.apart HC0.out HT5.out, HO4.out.below_after (B := w.heap.size) (HT5.out.below (fun i e => by rw [e]; exact Nat.le_refl _) HO4.out.size) (Nat.le_refl _)⟩
theorem RowN.nums {w : World} {B : Nat} {v : Value} {l : List Nat} {n : Nat} (h : RowN w B 1 v n (numC l)) (hl : l.length = n) : NumsAt w v (l.map numV) := by
  subst hl
  obtain ⟨A, cap, rfl, h1, h2, _, _, h3⟩ := h.1.form
  refine ⟨A, cap, by rw [List.length_map], by rw [List.length_map]; exact h1, h2, fun i x hi => ?_⟩
  obtain ⟨g, rfl, hc⟩ := h3 i (.int .i64 x) (by
    rw [List.getElem?_map] at hi
    unfold numC
    rw [List.getElem?_map]
    cases hx : l[i]? with
    | none => rw [hx] at hi; cases hi
    | some y => rw [hx] at hi; cases hi; rfl)
  exact ⟨_, rfl, World.block_lt_of_cell? w ⟨g, i, none⟩ hc, by rw [add0]; exact hc⟩
theorem wrap_wrapS (n : Nat) (hn : n ≤ 18446744073709551615) : IntKind.i64.wrap (n : Int) = wrapS n := by
  rw [IntKind.wrap_i64]
  unfold wrapS
  split <;> omega
/-- What read leaves. -/
def ReadPost (w : World) (g : Nat) (A : Option Addr) (cap : Nat) (bs : List UInt8) (a : List Nat) (ns : List Nat) (st : Option Nat) (e : Ending) (w' : World) : Prop :=
  ∃ tA tc B, g < B ∧ w.heap.size ≤ B ∧ e = .returned (.agg #[.int .i64 (msgOf a ns []).kd, .int .i64 (msgOf a ns []).fr, .int .i64 (msgOf a ns []).tt, .int .i64 (msgOf a ns []).g, .int .i64 (msgOf a ns []).nd, .int .i64 (msgOf a ns []).tr, .int .i64 (msgOf a ns []).lw, .int .i64 (msgOf a ns []).co, .int .i64 (msgOf a ns []).ti, .slice tA ns.length tc, .slice none 0 0]) ∧ RowN w' B 1 (.slice tA ns.length tc) ns.length (numC ns) ∧ RdS w' g A cap bs st ∧ Only g w w'
set_option maxRecDepth 100000 in
set_option maxHeartbeats 8000000 in
theorem read_u {w : World} {g : Nat} {A : Option Addr} {cap : Nat} {bs : List UInt8} {st : Option Nat} (h : RdS w g A cap bs st) :
    Calls Tryd.prog 21 #[.pointer (some ⟨g, 0, none⟩)] w (ReadPost w g A cap bs (hdS bs 10 st).1 (hdS bs (manyS (hdS bs 10 st).1) (hdS bs 10 st).2).1 (hdS bs (manyS (hdS bs 10 st).1) (hdS bs 10 st).2).2) := by
  have hgl := h.lt
  have hb0 := below_new (w := w) (.cells #[.int .i64 0, .int .i64 0, .int .i64 0, .int .i64 0, .int .i64 0, .int .i64 0, .int .i64 0, .int .i64 0, .int .i64 0, .slice none 0 0, .slice none 0 0] 31)
  have hat := alloc_at w (.cells #[.int .i64 0, .int .i64 0, .int .i64 0, .int .i64 0, .int .i64 0, .int .i64 0, .int .i64 0, .int .i64 0, .int .i64 0, .slice none 0 0, .slice none 0 0] 31)
  have H0 := Lib.hid (small_u (h.below hb0))
  have HO0 := Lib.hid (Only.of_below (bt := g) hb0)
  have HAT := Lib.hid hat
  have h10 : hdS bs 10 st = hdS bs 10 st := rfl
  obtain ⟨a0, s1, e0⟩ : ∃ n s, natS bs st = (n, s) := ⟨_, _, rfl⟩
  obtain ⟨a1, s2, e1⟩ : ∃ n s, natS bs s1 = (n, s) := ⟨_, _, rfl⟩
  obtain ⟨a2, s3, e2⟩ : ∃ n s, natS bs s2 = (n, s) := ⟨_, _, rfl⟩
  obtain ⟨a3, s4, e3⟩ : ∃ n s, natS bs s3 = (n, s) := ⟨_, _, rfl⟩
  obtain ⟨a4, s5, e4⟩ : ∃ n s, natS bs s4 = (n, s) := ⟨_, _, rfl⟩
  obtain ⟨a5, s6, e5⟩ : ∃ n s, natS bs s5 = (n, s) := ⟨_, _, rfl⟩
  obtain ⟨a6, s7, e6⟩ : ∃ n s, natS bs s6 = (n, s) := ⟨_, _, rfl⟩
  obtain ⟨a7, s8, e7⟩ : ∃ n s, natS bs s7 = (n, s) := ⟨_, _, rfl⟩
  obtain ⟨a8, s9, e8⟩ : ∃ n s, natS bs s8 = (n, s) := ⟨_, _, rfl⟩
  obtain ⟨a9, s10, e9⟩ : ∃ n s, natS bs s9 = (n, s) := ⟨_, _, rfl⟩
  have hh : hdS bs 10 st = ([a0, a1, a2, a3, a4, a5, a6, a7, a8, a9], s10) := by
    simp only [hdS, e0, e1, e2, e3, e4, e5, e6, e7, e8, e9]
  rw [hh]
  simp only
  obtain ⟨k, hk⟩ : ∃ k, manyS [a0, a1, a2, a3, a4, a5, a6, a7, a8, a9] = k := ⟨_, rfl⟩
  have hkm : min a9 9 = k := hk
  rw [hk]
  obtain ⟨ns, s11, hns⟩ : ∃ n s, hdS bs k s10 = (n, s) := ⟨_, _, rfl⟩
  have hnl : ns.length = k := by have := hdS_len bs k s10; rw [hns] at this; exact this
  rw [hns]
  have h8 : a8 ≤ 18446744073709551615 := by have := natS_le bs s8; rw [e8] at this; exact this
  have HW : IntKind.i64.wrap (a8 : Int) = wrapS a8 := wrap_wrapS a8 h8
  have E0 := Lib.hid e0
  have E1 := Lib.hid e1
  have E2 := Lib.hid e2
  have E3 := Lib.hid e3
  have E4 := Lib.hid e4
  have E5 := Lib.hid e5
  have E6 := Lib.hid e6
  have E7 := Lib.hid e7
  have E8 := Lib.hid e8
  have E9 := Lib.hid (And.intro e9 (And.intro hkm (And.intro hns hnl)))
  rw [E0.out] at H0
  simp only at H0
  generalize hw8 : wrapS a8 = v8 at HW
  have HV8 := Lib.hid hw8
  clear h hb0 hat h10 hh hk hkm hns hnl h8 e0 e1 e2 e3 e4 e5 e6 e7 e8 e9 hw8
  go_enter Tryd.func21, Tryd.ntmps21
  go_wp2_with fail
  refine (H0.out).mono ?_
  rintro e w1 ⟨rfl, h1, h2⟩
  have H1 := Lib.hid (small_u h1)
  rw [E1.out] at H1
  simp only at H1
  have HO1 := Lib.hid (HO0.out.trans h2)
  have HZ1 := Lib.hid (h2.block' HAT.out (by omega))
  clear h1 h2 H0
  go_wp2_with fail
  refine (H1.out).mono ?_
  rintro e w2 ⟨rfl, h1, h2⟩
  have H2 := Lib.hid (small_u h1)
  rw [E2.out] at H2
  simp only at H2
  have HO2 := Lib.hid (HO1.out.trans h2)
  have HZ2 := Lib.hid (h2.block' HZ1.out (by omega))
  clear h1 h2 H1
  go_wp2_with fail
  refine (H2.out).mono ?_
  rintro e w3 ⟨rfl, h1, h2⟩
  have H3 := Lib.hid (small_u h1)
  rw [E3.out] at H3
  simp only at H3
  have HO3 := Lib.hid (HO2.out.trans h2)
  have HZ3 := Lib.hid (h2.block' HZ2.out (by omega))
  clear h1 h2 H2
  go_wp2_with fail
  refine (H3.out).mono ?_
  rintro e w4 ⟨rfl, h1, h2⟩
  have H4 := Lib.hid (small_u h1)
  rw [E4.out] at H4
  simp only at H4
  have HO4 := Lib.hid (HO3.out.trans h2)
  have HZ4 := Lib.hid (h2.block' HZ3.out (by omega))
  clear h1 h2 H3
  go_wp2_with fail
  refine (H4.out).mono ?_
  rintro e w5 ⟨rfl, h1, h2⟩
  have H5 := Lib.hid (small_u h1)
  rw [E5.out] at H5
  simp only at H5
  have HO5 := Lib.hid (HO4.out.trans h2)
  have HZ5 := Lib.hid (h2.block' HZ4.out (by omega))
  clear h1 h2 H4
  go_wp2_with fail
  refine (H5.out).mono ?_
  rintro e w6 ⟨rfl, h1, h2⟩
  have H6 := Lib.hid (small_u h1)
  rw [E6.out] at H6
  simp only at H6
  have HO6 := Lib.hid (HO5.out.trans h2)
  have HZ6 := Lib.hid (h2.block' HZ5.out (by omega))
  clear h1 h2 H5
  go_wp2_with fail
  refine (H6.out).mono ?_
  rintro e w7 ⟨rfl, h1, h2⟩
  have H7 := Lib.hid (small_u h1)
  rw [E7.out] at H7
  simp only at H7
  have HO7 := Lib.hid (HO6.out.trans h2)
  have HZ7 := Lib.hid (h2.block' HZ6.out (by omega))
  clear h1 h2 H6
  go_wp2_with fail
  refine (H7.out).mono ?_
  rintro e w8 ⟨rfl, h1, h2⟩
  have H8 := Lib.hid (nat_u h1)
  rw [E8.out] at H8
  simp only at H8
  have HO8 := Lib.hid (HO7.out.trans h2)
  have HZ8 := Lib.hid (h2.block' HZ7.out (by omega))
  clear h1 h2 H7
  go_wp2_with fail
  refine (H8.out).mono ?_
  rintro e w9 ⟨rfl, h1, h2⟩
  have H9 := Lib.hid (told_u h1)
  rw [E9.out.1] at H9
  simp only at H9
  rw [E9.out.2.1, E9.out.2.2.1] at H9
  simp only at H9
  have HO9 := Lib.hid (HO8.out.trans h2)
  have HZ9 := Lib.hid (h2.block' HZ8.out (by omega))
  clear h1 h2 H8
  go_wp2_with fail
  refine (H9.out).mono ?_
  rintro e w4 ⟨v, rfl, hrow, h1, h2⟩
  have hz := h2.block' HZ9.out (by omega)
  have HR := Lib.hid h1
  have HRW := Lib.hid hrow
  have HO10 := Lib.hid (HO9.out.trans h2)
  have hsz9 : w.heap.size < w9.heap.size := heap_lt HZ9.out
  obtain ⟨Al, cl, rfl, _⟩ := hrow.1.form
  have c0 := cell_of hz 0
  have c1 := cell_of hz 1
  have c2 := cell_of hz 2
  have c3 := cell_of hz 3
  have c4 := cell_of hz 4
  have c5 := cell_of hz 5
  have c6 := cell_of hz 6
  have c7 := cell_of hz 7
  have c8 := cell_of hz 8
  have c9 := cell_of hz 9
  have c10 := cell_of hz 10
  have f0 := free0 hz 0
  have f1 := free0 hz 1
  have f2 := free0 hz 2
  have f3 := free0 hz 3
  have f4 := free0 hz 4
  have f5 := free0 hz 5
  have f6 := free0 hz 6
  have f7 := free0 hz 7
  have f8 := free0 hz 8
  have f9 := free0 hz 9
  have f10 := free0 hz 10
  simp at c0 c1 c2 c3 c4 c5 c6 c7 c8 c9 c10
  have hz5 := setCells_at w.heap.size [.int .i64 (cutS a0), .int .i64 (cutS a1), .int .i64 (cutS a2), .int .i64 (cutS a3), .int .i64 (cutS a4), .int .i64 (cutS a5), .int .i64 (cutS a6), .int .i64 (cutS a7), .int .i64 v8, .slice Al k cl, .slice none 0 0] [] [.int .i64 0, .int .i64 0, .int .i64 0, .int .i64 0, .int .i64 0, .int .i64 0, .int .i64 0, .int .i64 0, .int .i64 0, .slice none 0 0, .slice none 0 0] w4 rfl hz
  have HZ5 := Lib.hid hz5
  have HT5 := Lib.hid (setCells_touch (S := fun k => k = w.heap.size) (a := w4) w.heap.size (fun _ => rfl) [.int .i64 (cutS a0), .int .i64 (cutS a1), .int .i64 (cutS a2), .int .i64 (cutS a3), .int .i64 (cutS a4), .int .i64 (cutS a5), .int .i64 (cutS a6), .int .i64 (cutS a7), .int .i64 v8, .slice Al k cl, .slice none 0 0] 0 w4 (Touch.refl _ _))
  have HC0 := Lib.hid c0
  clear h1 h2 hz hz5 H9 hrow
  go_wp2_with fail
  change bodyPost _ _ _ _ _ (w4.setCells w.heap.size 0 [.int .i64 (cutS a0), .int .i64 (cutS a1), .int .i64 (cutS a2), .int .i64 (cutS a3), .int .i64 (cutS a4), .int .i64 (cutS a5), .int .i64 (cutS a6), .int .i64 (cutS a7), .int .i64 v8, .slice Al k cl, .slice none 0 0])
  simp only [List.length_nil, List.nil_append] at HZ5
  generalize w4.setCells w.heap.size 0 [.int .i64 (cutS a0), .int .i64 (cutS a1), .int .i64 (cutS a2), .int .i64 (cutS a3), .int .i64 (cutS a4), .int .i64 (cutS a5), .int .i64 (cutS a6), .int .i64 (cutS a7), .int .i64 v8, .slice Al k cl, .slice none 0 0] = W5 at *
  clear c0 c1 c2 c3 c4 c5 c6 c7 c8 c9 c10 f0 f1 f2 f3 f4 f5 f6 f7 f8 f9 f10
  have j0 := cell_of HZ5.out 0
  have j1 := cell_of HZ5.out 1
  have j2 := cell_of HZ5.out 2
  have j3 := cell_of HZ5.out 3
  have j4 := cell_of HZ5.out 4
  have j5 := cell_of HZ5.out 5
  have j6 := cell_of HZ5.out 6
  have j7 := cell_of HZ5.out 7
  have j8 := cell_of HZ5.out 8
  have j9 := cell_of HZ5.out 9
  have j10 := cell_of HZ5.out 10
  simp at j0 j1 j2 j3 j4 j5 j6 j7 j8 j9 j10
  refine bodyPost_ret (v := .agg #[.int .i64 (cutS a0), .int .i64 (cutS a1), .int .i64 (cutS a2), .int .i64 (cutS a3), .int .i64 (cutS a4), .int .i64 (cutS a5), .int .i64 (cutS a6), .int .i64 (cutS a7), .int .i64 v8, .slice Al k cl, .slice none 0 0]) (by simp [results, Tryd.results21, go_sem, j0, j1, j2, j3, j4, j5, j6, j7, j8, j9, j10]) rfl ?_
  refine ⟨Al, cl, w9.heap.size, by omega, by omega, ?_, ?_, HR.out.apart HC0.out HT5.out, HO10.out.below_after (B := w.heap.size) (HT5.out.below (fun i e => by rw [e]; exact Nat.le_refl _) HO10.out.size) (Nat.le_refl _)⟩
  · simp only [msgOf, HV8.out, E9.out.2.2.2]
  · have hr := HRW.out
    rw [E9.out.2.2.2]
    exact ⟨hr.1.touch HT5.out (fun b e hb => by have := (hr.2.1 b e).1; omega), hr.2⟩
end Go.Proofs.YtfaaeacgmlklhaaDoor
