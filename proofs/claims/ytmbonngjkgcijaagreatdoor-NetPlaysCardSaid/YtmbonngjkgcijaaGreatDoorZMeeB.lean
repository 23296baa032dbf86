/- ops.next; mess.read. ops.Decode. crc.One: the body of bytes that are just one frame. (CrcO's, without the law's own functions.) mess.Decode. (genmeed.py wrote its walk.) -/
import Derived.Test.YtmbonngjkgcijaaGreatDoorZMecE
import Derived.Test.YtmbonngjkgcijaaGreatDoorZCrcE
import Derived.Test.YtmbonngjkgcijaaGreatDoorZMecD
import Derived.Laws.IdiomStrings
import Derived.Lib.AtoiErrMem
set_option linter.unusedSimpArgs false
set_option linter.unusedVariables false
set_option linter.unnecessarySimpa false
namespace Go.Proofs.YtmbonngjkgcijaaGreatDoor
open Go.RowKit Go.Shelf

theorem Only.block' {g : Nat} {w w' : World} (h : Only g w w') {k : Nat} {o : Obj} (hk : w.heap[k]? = some o) (hne : k ≠ g) : w'.heap[k]? = some o := (h.block k (heap_lt hk) hne).trans hk
set_option maxRecDepth 100000 in
set_option maxHeartbeats 4000000 in
theorem next_u {w : World} {g : Nat} {A : Option Addr} {cap : Nat} {bs : List UInt8} {st : Option Nat} (h : RdS w g A cap bs st) :
    Calls Tryz.prog 105 #[.pointer (some ⟨g, 0, none⟩)] w fun e w' => e = .returned (opV (opS 7 bs st).1) ∧ RdS w' g A cap bs (opS 7 bs st).2 ∧ Only g w w' := by
  have hgl := h.lt
  have hb0 := below_new (w := w) (.cells #[.int .i64 0, .string ⟨#[]⟩, .int .i64 0, .int .i64 0] 168)
  have hat := alloc_at w (.cells #[.int .i64 0, .string ⟨#[]⟩, .int .i64 0, .int .i64 0] 168)
  have HN := Lib.hid (nat_u (h.below hb0))
  have HO0 := Lib.hid (Only.of_below (bt := g) hb0)
  have HAT := Lib.hid hat
  have hle := natS_le bs st
  unfold opS
  obtain ⟨n, s1, hn⟩ : ∃ n s, natS bs st = (n, s) := ⟨_, _, rfl⟩
  rw [hn] at HN hle ⊢
  simp only at HN hle ⊢
  obtain ⟨ks, s2, hs⟩ : ∃ n s, strS 16 bs s1 = (n, s) := ⟨_, _, rfl⟩
  rw [hs]
  simp only
  obtain ⟨x, s3, hx⟩ : ∃ n s, numS bs s2 = (n, s) := ⟨_, _, rfl⟩
  rw [hx]
  simp only
  obtain ⟨y, s4, hy⟩ : ∃ n s, numS bs s3 = (n, s) := ⟨_, _, rfl⟩
  rw [hy]
  simp only
  have HC : IntKind.i64.wrap (min (n : Int) 7) = ((min n 7 : Nat) : Int) := by
    rw [IntWalk.i64_in _ (by omega)]
    omega
  have HH := Lib.hid (And.intro hs (And.intro hx hy))
  generalize ((min n 7 : Nat) : Int) = kd at HC ⊢
  clear h hn hle hb0 hat hs hx hy
  go_enter Tryz.func105, Tryz.ntmps105
  go_wp2_with fail
  refine (HN.out).mono ?_
  rintro e w1 ⟨rfl, h1, h2⟩
  have HS := Lib.hid (str_u (most := 16) (by omega) h1)
  rw [HH.out.1] at HS
  have HO1 := Lib.hid (HO0.out.trans h2)
  have HZ1 := Lib.hid (h2.block' HAT.out (by omega))
  clear h1 h2 HN
  go_wp2_with fail
  refine (HS.out).mono ?_
  rintro e w2 ⟨rfl, h1, h2⟩
  have HX := Lib.hid (num_u h1)
  rw [HH.out.2.1] at HX
  have HO2 := Lib.hid (HO1.out.trans h2)
  have HZ2 := Lib.hid (h2.block' HZ1.out (by omega))
  clear h1 h2 HS
  go_wp2_with fail
  refine (HX.out).mono ?_
  rintro e w3 ⟨rfl, h1, h2⟩
  have HY := Lib.hid (num_u h1)
  rw [HH.out.2.2] at HY
  have HO3 := Lib.hid (HO2.out.trans h2)
  have HZ3 := Lib.hid (h2.block' HZ2.out (by omega))
  clear h1 h2 HX
  go_wp2_with fail
  refine (HY.out).mono ?_
  rintro e w4 ⟨rfl, h1, h2⟩
  have hz := h2.block' HZ3.out (by omega)
  have HR := Lib.hid h1
  have HO4 := Lib.hid (HO3.out.trans h2)
  have c0 := cell_of hz 0; have c1 := cell_of hz 1; have c2 := cell_of hz 2; have c3 := cell_of hz 3; have f0 := free0 hz 0; have f1 := free0 hz 1; have f2 := free0 hz 2; have f3 := free0 hz 3
  simp at c0 c1 c2 c3
  have hz5 := setCells_at w.heap.size [.int .i64 kd, .string ks, .int .i64 x, .int .i64 y] [] [.int .i64 0, .string ⟨#[]⟩, .int .i64 0, .int .i64 0] w4 rfl hz
  have HZ5 := Lib.hid hz5
  have HT5 := Lib.hid (setCells_touch (S := fun k => k = w.heap.size) (a := w4) w.heap.size (fun _ => rfl) [.int .i64 kd, .string ks, .int .i64 x, .int .i64 y] 0 w4 (Touch.refl _ _))
  have HC0 := Lib.hid c0
  clear h1 h2 hz hz5 HY
  go_wp2_with fail
  change bodyPost _ _ _ _ _ (w4.setCells w.heap.size 0 [.int .i64 kd, .string ks, .int .i64 x, .int .i64 y])
  simp only [List.length_nil, List.nil_append] at HZ5
  generalize w4.setCells w.heap.size 0 [.int .i64 kd, .string ks, .int .i64 x, .int .i64 y] = W5 at *
  clear c0 c1 c2 c3 f0 f1 f2 f3
  have j0 := cell_of HZ5.out 0; have j1 := cell_of HZ5.out 1; have j2 := cell_of HZ5.out 2; have j3 := cell_of HZ5.out 3
  simp at j0 j1 j2 j3
  refine bodyPost_ret (v := opV ⟨kd, ks, x, y⟩) (by simp [results, Tryz.results105, go_sem, j0, j1, j2, j3]) rfl ?_
  exact ⟨rfl, HR.out.apart HC0.out HT5.out, HO4.out.below_after (B := w.heap.size) (HT5.out.below (fun i e => by rw [e]; exact Nat.le_refl _) HO4.out.size) (Nat.le_refl _)⟩
theorem RowN.nums {w : World} {B : Nat} {v : Value} {l : List Nat} {n : Nat} (h : RowN w B 1 v n (numC l)) (hl : l.length = n) : NumsAt w v (l.map numV) := by
  subst hl
  obtain ⟨A, cap, rfl, h1, h2, _, _, h3⟩ := h.1.form
  refine ⟨A, cap, by rw [List.length_map], by rw [List.length_map]; exact h1, h2, fun i x hi => ?_⟩
  obtain ⟨g, rfl, hc⟩ := h3 i (.int .i64 x) (by
    rw [List.getElem?_map] at hi
    unfold numC
    rw [List.getElem?_map]
    cases hx : l[i]? with
    | none => rw [hx] at hi; cases hi
    | some y => rw [hx] at hi; cases hi; rfl)
  exact ⟨_, rfl, World.block_lt_of_cell? w ⟨g, i, none⟩ hc, by rw [add0]; exact hc⟩
theorem wrap_wrapS (n : Nat) (hn : n ≤ 18446744073709551615) : IntKind.i64.wrap (n : Int) = wrapS n := by
  rw [IntKind.wrap_i64]
  unfold wrapS
  split <;> omega
/-- What read leaves. -/
def ReadPost (w : World) (g : Nat) (A : Option Addr) (cap : Nat) (bs : List UInt8) (a : List Nat) (ns : List Nat) (st : Option Nat) (e : Ending) (w' : World) : Prop :=
  ∃ tA tc B, g < B ∧ w.heap.size ≤ B ∧ e = .returned (.agg #[.int .i64 (msgOf a ns []).kd, .int .i64 (msgOf a ns []).fr, .int .i64 (msgOf a ns []).tt, .int .i64 (msgOf a ns []).g, .int .i64 (msgOf a ns []).nd, .int .i64 (msgOf a ns []).tr, .int .i64 (msgOf a ns []).lw, .int .i64 (msgOf a ns []).co, .int .i64 (msgOf a ns []).ti, .slice tA ns.length tc, .slice none 0 0]) ∧ RowN w' B 1 (.slice tA ns.length tc) ns.length (numC ns) ∧ RdS w' g A cap bs st ∧ Only g w w'
set_option maxRecDepth 100000 in
set_option maxHeartbeats 8000000 in
theorem read_u {w : World} {g : Nat} {A : Option Addr} {cap : Nat} {bs : List UInt8} {st : Option Nat} (h : RdS w g A cap bs st) :
    Calls Tryz.prog 59 #[.pointer (some ⟨g, 0, none⟩)] w (ReadPost w g A cap bs (hdS bs 10 st).1 (hdS bs (manyS (hdS bs 10 st).1) (hdS bs 10 st).2).1 (hdS bs (manyS (hdS bs 10 st).1) (hdS bs 10 st).2).2) := by
  have hgl := h.lt
  have hb0 := below_new (w := w) (.cells #[.int .i64 0, .int .i64 0, .int .i64 0, .int .i64 0, .int .i64 0, .int .i64 0, .int .i64 0, .int .i64 0, .int .i64 0, .slice none 0 0, .slice none 0 0] 50)
  have hat := alloc_at w (.cells #[.int .i64 0, .int .i64 0, .int .i64 0, .int .i64 0, .int .i64 0, .int .i64 0, .int .i64 0, .int .i64 0, .int .i64 0, .slice none 0 0, .slice none 0 0] 50)
  have H0 := Lib.hid (small_u (h.below hb0))
  have HO0 := Lib.hid (Only.of_below (bt := g) hb0)
  have HAT := Lib.hid hat
  have h10 : hdS bs 10 st = hdS bs 10 st := rfl
  obtain ⟨a0, s1, e0⟩ : ∃ n s, natS bs st = (n, s) := ⟨_, _, rfl⟩
  obtain ⟨a1, s2, e1⟩ : ∃ n s, natS bs s1 = (n, s) := ⟨_, _, rfl⟩
  obtain ⟨a2, s3, e2⟩ : ∃ n s, natS bs s2 = (n, s) := ⟨_, _, rfl⟩
  obtain ⟨a3, s4, e3⟩ : ∃ n s, natS bs s3 = (n, s) := ⟨_, _, rfl⟩
  obtain ⟨a4, s5, e4⟩ : ∃ n s, natS bs s4 = (n, s) := ⟨_, _, rfl⟩
  obtain ⟨a5, s6, e5⟩ : ∃ n s, natS bs s5 = (n, s) := ⟨_, _, rfl⟩
  obtain ⟨a6, s7, e6⟩ : ∃ n s, natS bs s6 = (n, s) := ⟨_, _, rfl⟩
  obtain ⟨a7, s8, e7⟩ : ∃ n s, natS bs s7 = (n, s) := ⟨_, _, rfl⟩
  obtain ⟨a8, s9, e8⟩ : ∃ n s, natS bs s8 = (n, s) := ⟨_, _, rfl⟩
  obtain ⟨a9, s10, e9⟩ : ∃ n s, natS bs s9 = (n, s) := ⟨_, _, rfl⟩
  have hh : hdS bs 10 st = ([a0, a1, a2, a3, a4, a5, a6, a7, a8, a9], s10) := by
    simp only [hdS, e0, e1, e2, e3, e4, e5, e6, e7, e8, e9]
  rw [hh]
  simp only
  obtain ⟨k, hk⟩ : ∃ k, manyS [a0, a1, a2, a3, a4, a5, a6, a7, a8, a9] = k := ⟨_, rfl⟩
  have hkm : min a9 9 = k := hk
  rw [hk]
  obtain ⟨ns, s11, hns⟩ : ∃ n s, hdS bs k s10 = (n, s) := ⟨_, _, rfl⟩
  have hnl : ns.length = k := by have := hdS_len bs k s10; rw [hns] at this; exact this
  rw [hns]
  have h8 : a8 ≤ 18446744073709551615 := by have := natS_le bs s8; rw [e8] at this; exact this
  have HW : IntKind.i64.wrap (a8 : Int) = wrapS a8 := wrap_wrapS a8 h8
  have E0 := Lib.hid e0
  have E1 := Lib.hid e1
  have E2 := Lib.hid e2
  have E3 := Lib.hid e3
  have E4 := Lib.hid e4
  have E5 := Lib.hid e5
  have E6 := Lib.hid e6
  have E7 := Lib.hid e7
  have E8 := Lib.hid e8
  have E9 := Lib.hid (And.intro e9 (And.intro hkm (And.intro hns hnl)))
  rw [E0.out] at H0
  simp only at H0
  generalize hw8 : wrapS a8 = v8 at HW
  have HV8 := Lib.hid hw8
  clear h hb0 hat h10 hh hk hkm hns hnl h8 e0 e1 e2 e3 e4 e5 e6 e7 e8 e9 hw8
  go_enter Tryz.func59, Tryz.ntmps59
  go_wp2_with fail
  refine (H0.out).mono ?_
  rintro e w1 ⟨rfl, h1, h2⟩
  have H1 := Lib.hid (small_u h1)
  rw [E1.out] at H1
  simp only at H1
  have HO1 := Lib.hid (HO0.out.trans h2)
  have HZ1 := Lib.hid (h2.block' HAT.out (by omega))
  clear h1 h2 H0
  go_wp2_with fail
  refine (H1.out).mono ?_
  rintro e w2 ⟨rfl, h1, h2⟩
  have H2 := Lib.hid (small_u h1)
  rw [E2.out] at H2
  simp only at H2
  have HO2 := Lib.hid (HO1.out.trans h2)
  have HZ2 := Lib.hid (h2.block' HZ1.out (by omega))
  clear h1 h2 H1
  go_wp2_with fail
  refine (H2.out).mono ?_
  rintro e w3 ⟨rfl, h1, h2⟩
  have H3 := Lib.hid (small_u h1)
  rw [E3.out] at H3
  simp only at H3
  have HO3 := Lib.hid (HO2.out.trans h2)
  have HZ3 := Lib.hid (h2.block' HZ2.out (by omega))
  clear h1 h2 H2
  go_wp2_with fail
  refine (H3.out).mono ?_
  rintro e w4 ⟨rfl, h1, h2⟩
  have H4 := Lib.hid (small_u h1)
  rw [E4.out] at H4
  simp only at H4
  have HO4 := Lib.hid (HO3.out.trans h2)
  have HZ4 := Lib.hid (h2.block' HZ3.out (by omega))
  clear h1 h2 H3
  go_wp2_with fail
  refine (H4.out).mono ?_
  rintro e w5 ⟨rfl, h1, h2⟩
  have H5 := Lib.hid (small_u h1)
  rw [E5.out] at H5
  simp only at H5
  have HO5 := Lib.hid (HO4.out.trans h2)
  have HZ5 := Lib.hid (h2.block' HZ4.out (by omega))
  clear h1 h2 H4
  go_wp2_with fail
  refine (H5.out).mono ?_
  rintro e w6 ⟨rfl, h1, h2⟩
  have H6 := Lib.hid (small_u h1)
  rw [E6.out] at H6
  simp only at H6
  have HO6 := Lib.hid (HO5.out.trans h2)
  have HZ6 := Lib.hid (h2.block' HZ5.out (by omega))
  clear h1 h2 H5
  go_wp2_with fail
  refine (H6.out).mono ?_
  rintro e w7 ⟨rfl, h1, h2⟩
  have H7 := Lib.hid (small_u h1)
  rw [E7.out] at H7
  simp only at H7
  have HO7 := Lib.hid (HO6.out.trans h2)
  have HZ7 := Lib.hid (h2.block' HZ6.out (by omega))
  clear h1 h2 H6
  go_wp2_with fail
  refine (H7.out).mono ?_
  rintro e w8 ⟨rfl, h1, h2⟩
  have H8 := Lib.hid (nat_u h1)
  rw [E8.out] at H8
  simp only at H8
  have HO8 := Lib.hid (HO7.out.trans h2)
  have HZ8 := Lib.hid (h2.block' HZ7.out (by omega))
  clear h1 h2 H7
  go_wp2_with fail
  refine (H8.out).mono ?_
  rintro e w9 ⟨rfl, h1, h2⟩
  have H9 := Lib.hid (told_u h1)
  rw [E9.out.1] at H9
  simp only at H9
  rw [E9.out.2.1, E9.out.2.2.1] at H9
  simp only at H9
  have HO9 := Lib.hid (HO8.out.trans h2)
  have HZ9 := Lib.hid (h2.block' HZ8.out (by omega))
  clear h1 h2 H8
  go_wp2_with fail
  refine (H9.out).mono ?_
  rintro e w4 ⟨v, rfl, hrow, h1, h2⟩
  have hz := h2.block' HZ9.out (by omega)
  have HR := Lib.hid h1
  have HRW := Lib.hid hrow
  have HO10 := Lib.hid (HO9.out.trans h2)
  have hsz9 : w.heap.size < w9.heap.size := heap_lt HZ9.out
  obtain ⟨Al, cl, rfl, _⟩ := hrow.1.form
  have c0 := cell_of hz 0; have c1 := cell_of hz 1; have c2 := cell_of hz 2; have c3 := cell_of hz 3; have c4 := cell_of hz 4; have c5 := cell_of hz 5; have c6 := cell_of hz 6; have c7 := cell_of hz 7; have c8 := cell_of hz 8; have c9 := cell_of hz 9; have c10 := cell_of hz 10; have f0 := free0 hz 0; have f1 := free0 hz 1; have f2 := free0 hz 2; have f3 := free0 hz 3; have f4 := free0 hz 4; have f5 := free0 hz 5; have f6 := free0 hz 6; have f7 := free0 hz 7; have f8 := free0 hz 8; have f9 := free0 hz 9; have f10 := free0 hz 10
  simp at c0 c1 c2 c3 c4 c5 c6 c7 c8 c9 c10
  have hz5 := setCells_at w.heap.size [.int .i64 (cutS a0), .int .i64 (cutS a1), .int .i64 (cutS a2), .int .i64 (cutS a3), .int .i64 (cutS a4), .int .i64 (cutS a5), .int .i64 (cutS a6), .int .i64 (cutS a7), .int .i64 v8, .slice Al k cl, .slice none 0 0] [] [.int .i64 0, .int .i64 0, .int .i64 0, .int .i64 0, .int .i64 0, .int .i64 0, .int .i64 0, .int .i64 0, .int .i64 0, .slice none 0 0, .slice none 0 0] w4 rfl hz
  have HZ5 := Lib.hid hz5
  have HT5 := Lib.hid (setCells_touch (S := fun k => k = w.heap.size) (a := w4) w.heap.size (fun _ => rfl) [.int .i64 (cutS a0), .int .i64 (cutS a1), .int .i64 (cutS a2), .int .i64 (cutS a3), .int .i64 (cutS a4), .int .i64 (cutS a5), .int .i64 (cutS a6), .int .i64 (cutS a7), .int .i64 v8, .slice Al k cl, .slice none 0 0] 0 w4 (Touch.refl _ _))
  have HC0 := Lib.hid c0
  clear h1 h2 hz hz5 H9 hrow
  go_wp2_with fail
  change bodyPost _ _ _ _ _ (w4.setCells w.heap.size 0 [.int .i64 (cutS a0), .int .i64 (cutS a1), .int .i64 (cutS a2), .int .i64 (cutS a3), .int .i64 (cutS a4), .int .i64 (cutS a5), .int .i64 (cutS a6), .int .i64 (cutS a7), .int .i64 v8, .slice Al k cl, .slice none 0 0])
  simp only [List.length_nil, List.nil_append] at HZ5
  generalize w4.setCells w.heap.size 0 [.int .i64 (cutS a0), .int .i64 (cutS a1), .int .i64 (cutS a2), .int .i64 (cutS a3), .int .i64 (cutS a4), .int .i64 (cutS a5), .int .i64 (cutS a6), .int .i64 (cutS a7), .int .i64 v8, .slice Al k cl, .slice none 0 0] = W5 at *
  clear c0 c1 c2 c3 c4 c5 c6 c7 c8 c9 c10 f0 f1 f2 f3 f4 f5 f6 f7 f8 f9 f10
  have j0 := cell_of HZ5.out 0; have j1 := cell_of HZ5.out 1; have j2 := cell_of HZ5.out 2; have j3 := cell_of HZ5.out 3; have j4 := cell_of HZ5.out 4; have j5 := cell_of HZ5.out 5; have j6 := cell_of HZ5.out 6; have j7 := cell_of HZ5.out 7; have j8 := cell_of HZ5.out 8; have j9 := cell_of HZ5.out 9; have j10 := cell_of HZ5.out 10
  simp at j0 j1 j2 j3 j4 j5 j6 j7 j8 j9 j10
  refine bodyPost_ret (v := .agg #[.int .i64 (cutS a0), .int .i64 (cutS a1), .int .i64 (cutS a2), .int .i64 (cutS a3), .int .i64 (cutS a4), .int .i64 (cutS a5), .int .i64 (cutS a6), .int .i64 (cutS a7), .int .i64 v8, .slice Al k cl, .slice none 0 0]) (by simp [results, Tryz.results59, go_sem, j0, j1, j2, j3, j4, j5, j6, j7, j8, j9, j10]) rfl ?_
  refine ⟨Al, cl, w9.heap.size, by omega, by omega, ?_, ?_, HR.out.apart HC0.out HT5.out, HO10.out.below_after (B := w.heap.size) (HT5.out.below (fun i e => by rw [e]; exact Nat.le_refl _) HO10.out.size) (Nat.le_refl _)⟩
  · simp only [msgOf, HV8.out, E9.out.2.2.2]
  · have hr := HRW.out
    rw [E9.out.2.2.2]
    exact ⟨hr.1.touch HT5.out (fun b e hb => by have := (hr.2.1 b e).1; omega), hr.2⟩
end Go.Proofs.YtmbonngjkgcijaaGreatDoor

namespace Go.Proofs.YtmbonngjkgcijaaGreatDoor
open Go.RowKit Go.Shelf

def opC (l : List OpV) : List Value := l.flatMap fun o => [.int .i64 o.k, .string o.s, .int .i64 o.n, .int .i64 o.lo]
theorem opC_snoc (l : List OpV) (o : OpV) : opC (l ++ [o]) = opC l ++ [.int .i64 o.k, .string o.s, .int .i64 o.n, .int .i64 o.lo] := by simp [opC]
theorem opC_at {l : List OpV} : ∀ {i : Nat} {o : OpV}, l[i]? = some o → (opC l)[i * 4]? = some (.int .i64 o.k) ∧ (opC l)[i * 4 + 1]? = some (.string o.s) ∧ (opC l)[i * 4 + 2]? = some (.int .i64 o.n) ∧ (opC l)[i * 4 + 3]? = some (.int .i64 o.lo) := by
  induction l with
  | nil => intro i o h; simp at h
  | cons x r ih =>
    intro i o h
    cases i with
    | zero => cases h; exact ⟨rfl, rfl, rfl, rfl⟩
    | succ i =>
      obtain ⟨h0, h1, h2, h3⟩ := ih (i := i) (o := o) (by simpa using h)
      have e : opC (x :: r) = [.int .i64 x.k, .string x.s, .int .i64 x.n, .int .i64 x.lo] ++ opC r := by simp [opC]
      rw [e, show (i + 1) * 4 = i * 4 + 4 by omega]
      have key : ∀ j, ([Value.int .i64 x.k, .string x.s, .int .i64 x.n, .int .i64 x.lo] ++ opC r)[j + 4]? = (opC r)[j]? := fun j => by
        rw [List.getElem?_append_right (by simp)]
        simp
      exact ⟨(key _).trans h0, by rw [show i * 4 + 4 + 1 = i * 4 + 1 + 4 by omega]; exact (key _).trans h1, by rw [show i * 4 + 4 + 2 = i * 4 + 2 + 4 by omega]; exact (key _).trans h2, by rw [show i * 4 + 4 + 3 = i * 4 + 3 + 4 by omega]; exact (key _).trans h3⟩
theorem opC_first {l : List OpV} (h : l ≠ []) : ∃ x, (opC l)[0]? = some (.int .i64 x) := by
  cases l with
  | nil => exact absurd rfl h
  | cons a r => exact ⟨_, rfl⟩
theorem RowIs.ops {w : World} {v : Value} {l : List OpV} {n : Nat} (h : RowIs w 4 v n (opC l)) (hl : l.length = n) : OpsAt w v l := by
  subst hl
  obtain ⟨A, cap, rfl, h1, h2, _, _, h3⟩ := h.form
  refine ⟨A, cap, rfl, h1, h2, fun i o hi => ?_⟩
  obtain ⟨k0, k1, k2, k3⟩ := opC_at hi
  obtain ⟨g, rfl, c0⟩ := h3 _ _ k0
  obtain ⟨g', e1, c1⟩ := h3 _ _ k1
  cases e1
  obtain ⟨g', e2, c2⟩ := h3 _ _ k2
  cases e2
  obtain ⟨g', e3, c3⟩ := h3 _ _ k3
  cases e3
  exact ⟨_, rfl, World.block_lt_of_cell? w ⟨g, i * 4, none⟩ c0, by rw [add0]; exact c0, by rw [add0]; exact c1, by rw [add0]; exact c2, by rw [add0]; exact c3⟩
theorem infoO : (Tryz.prog.info? 168).map (fun i => (i.zero, i.size, i.bytes)) = some (some (.agg #[.int .i64 0, .string ⟨#[]⟩, .int .i64 0, .int .i64 0]), 4, 40) := by kernel_rfl
theorem src_op {w : World} {o : OpV} {t : TypeId} {b : Nat} (h : w.heap[b]? = some (.cells #[.int .i64 o.k, .string o.s, .int .i64 o.n, .int .i64 o.lo] t (0, 0))) : Src Tryz.prog 4 35 (.slice (some ⟨b, 0, none⟩) 1 1) 1 [.int .i64 o.k, .string o.s, .int .i64 o.n, .int .i64 o.lo] w :=
  Src.ofSlice _ Tryz.underlying35 ⟨b, 0, none⟩ 1 1 [.int .i64 o.k, .string o.s, .int .i64 o.n, .int .i64 o.lo] rfl (fun j u hu => by
    rw [add0, cell_of h]
    simpa using hu) (by simp [Value.oneCell'])
theorem RowN.ne {w : World} {g : Nat} {A : Option Addr} {cap : Nat} {bs : List UInt8} {st : Option Nat} {B z : Nat} {v : Value} {n : Nat} {l : List Value} (hr : RowN w B z v n l) (h : RdS w g A cap bs st) : ∀ b, v.ownBlock = some b → b ≠ g := fun b e hb => by
  subst hb
  obtain ⟨x, hx⟩ := hr.cell e
  cases st with
  | none =>
    obtain ⟨p, e', t, u, _, _, _, hR⟩ := h
    rw [cell_of hR.blk] at hx
    cases hx
  | some p =>
    rw [cell_of (Rd.blk h)] at hx
    cases hx
def finO (bs : List UInt8) : Option (List OpV × Option Nat) → Option (List OpV)
  | none => none
  | some (l, st) => if st = some bs.length then some l else none
theorem decO_fin {bs : List UInt8} {n : Nat} {s1 : Option Nat} (h : natS bs (some 0) = (n, s1)) (hn : ¬ 64 < n) : decO bs = finO bs (opsS bs n [] s1) := by
  unfold decO
  rw [h]
  simp only
  rw [if_neg hn]
  cases opsS bs n [] s1 with
  | none => rfl
  | some x => rfl
/-- What ops.Decode answers. -/
def OpsDec (w : World) (o : Option (List OpV)) (e : Ending) (w' : World) : Prop :=
  Below w.heap.size w w' ∧ ((o = none ∧ e = .returned (.tuple #[.slice none 0 0, .int .i64 6])) ∨ ∃ l A cap, o = some l ∧ e = .returned (.tuple #[.slice A l.length cap, .int .i64 0]) ∧ RowN w' w.heap.size 4 (.slice A l.length cap) l.length (opC l) ∧ KeysIn l)
theorem opsS_no {bs : List UInt8} {k : Nat} {l : List OpV} {st : Option Nat} (h : mayO (opS 7 bs st).1 = false) : opsS bs (k + 1) l st = none := by unfold opsS; rw [if_neg (by rw [h]; decide)]
theorem opsS_go {bs : List UInt8} {k : Nat} {l : List OpV} {st : Option Nat} (h : mayO (opS 7 bs st).1 = true) : opsS bs (k + 1) l st = opsS bs k (l ++ [(opS 7 bs st).1]) (opS 7 bs st).2 := by rw [opsS, if_pos h]
set_option maxRecDepth 100000 in
set_option maxHeartbeats 8000000 in
theorem opsdec_any {w : World} {v : Value} {bs : List UInt8} (hG : Glob w) (h : BIs w v bs) (hl : bs.length ≤ 1073741824) :
    Calls Tryz.prog 60 #[v] w (OpsDec w (decO bs)) := by
  have HOF := Lib.hid (of_any h hl)
  have HG := Lib.hid hG
  obtain ⟨A0, cap0, rfl, _⟩ := h
  obtain ⟨n, s1, hn⟩ : ∃ n s, natS bs (some 0) = (n, s) := ⟨_, _, rfl⟩
  have hle := natS_le bs (some 0)
  rw [hn] at hle
  simp only at hle
  have HN1 := Lib.hid hn
  clear hG hl hn
  go_enter Tryz.func60, Tryz.ntmps60
  go_wp2_with fail
  refine (HOF.out).mono ?_
  rintro e w1 ⟨g, A, cap, rfl, hgn, hR, hb1⟩
  have hR : RdS w1 g A cap bs (some 0) := hR
  have HN := Lib.hid (nat_u hR)
  rw [HN1.out] at HN
  simp only at HN
  have HB1 := Lib.hid hb1
  have HGN := Lib.hid hgn
  clear hgn hR hb1 HOF
  go_wp2_with fail
  refine (HN.out).mono ?_
  rintro e w2 ⟨rfl, hR2, hO2⟩
  have HR2 := Lib.hid hR2
  have HO2 := Lib.hid hO2
  have HB2 := Lib.hid (HB1.out.trans (hO2.touch.below (fun i e => by rw [e]; exact HGN.out) HB1.out.size))
  clear hR2 hO2 HN
  by_cases h64 : 64 < n
  · have HE : Hid (decO bs = none) := Lib.hid (by unfold decO; rw [HN1.out, if_pos h64])
    have h64I : (64 : Int) < (n : Int) := by omega
    go_wp2_with fail
    refine bodyPost_ret (v := .tuple #[.slice none 0 0, .int .i64 6]) (by simp [results, Tryz.results60, go_sem]) rfl ?_
    exact ⟨HB2.out, .inl ⟨HE.out, rfl⟩⟩
  · have h64I : ¬ (64 : Int) < (n : Int) := by omega
    have HE := Lib.hid (decO_fin HN1.out h64)
    have hn64 : n ≤ 64 := by omega
    have hn64I : (n : Int) ≤ 64 := by omega
    clear hle
    go_wp2_with fail
    go_loopw [6, 15] (fun bv iv wr => ∃ (i : Nat) (l : List OpV) (st : Option Nat), i ≤ n ∧ iv = .int .u64 i ∧ l.length = i ∧ KeysIn l ∧ RowN wr w.heap.size 4 bv i (opC l) ∧ RdS wr g A cap bs st ∧ Below w.heap.size w wr ∧ opsS bs n [] s1 = opsS bs (n - i) l st) (fun _ iv _ => n - (intOf iv).toNat)
    case atStart => exact ⟨0, [], s1, Nat.zero_le _, rfl, rfl, (fun o h => by cases h), ⟨RowIs.nil _ _, (fun b e => by cases e), fun _ => rfl⟩, HR2.out, HB2.out, rfl⟩
    case round =>
      obtain ⟨i, l, st, hi, rfl, hli, hkl, hrow, hR, hbw, hcont⟩ := hrel
      by_cases hlt : i < n
      · have HNX := Lib.hid (next_u hR)
        have HNEQ := Lib.hid (hrow.ne hR)
        have hsle := (strS_le : (strS 16 bs (natS bs st).2).1.size ≤ 16)
        have hos : (opS 7 bs st).1.s.size ≤ 16 := hsle
        obtain ⟨o, st2, ho⟩ : ∃ o s, opS 7 bs st = (o, s) := ⟨_, _, rfl⟩
        obtain ⟨m0, hm0⟩ : ∃ m0, n - i = m0 + 1 := ⟨n - i - 1, by omega⟩
        have HM0 : Hid (n - (i + 1) = m0) := Lib.hid (by omega)
        rw [hm0] at hcont
        have HNO := Lib.hid (fun (h : mayO (opS 7 bs st).1 = false) => opsS_no (k := m0) (l := l) h)
        have HGO := Lib.hid (fun (h : mayO (opS 7 bs st).1 = true) => opsS_go (k := m0) (l := l) h)
        rw [ho] at HNX HNO HGO hos
        simp only at HNX HNO HGO hos
        have HCONT := Lib.hid hcont
        have HROW := Lib.hid hrow
        have HBW := Lib.hid hbw
        have HLI := Lib.hid hli
        have HKL := Lib.hid hkl
        have HLT := Lib.hid hlt
        obtain ⟨kd, s, nn, lo⟩ := o
        simp only at hos
        have HMY := Lib.hid (fun W => opmay_any kd s nn lo W (by omega))
        obtain ⟨mb, hmb⟩ : ∃ b, mayO ⟨kd, s, nn, lo⟩ = b := ⟨_, rfl⟩
        rw [hmb] at HMY HNO HGO
        have HOS := Lib.hid hos
        have hiI : (i : Int) < (n : Int) := by omega
        obtain ⟨Al, cl, rfl, _⟩ := hrow.1.form
        clear hcont hrow hbw hli hkl hlt hR hsle hos ho hmb hm0
        go_wp2_with fail
        refine (HNX.out).mono ?_
        rintro e w3 ⟨rfl, hR3, hO3⟩
        have hbn := below_new (w := w3) (.cells #[.int .i64 kd, .string s, .int .i64 nn, .int .i64 lo] 168)
        have hat := alloc_at w3 (.cells #[.int .i64 kd, .string s, .int .i64 nn, .int .i64 lo] 168)
        have hb3 := HBW.out.trans (hO3.touch.below (fun i e => by rw [e]; exact HGN.out) HBW.out.size)
        have HB3 := Lib.hid (hb3.trans (hbn.mono hb3.size))
        have HR3 := Lib.hid (hR3.below hbn)
        have HAT := Lib.hid hat
        have HRW3 : Hid (RowN (w3.alloc (.cells #[.int .i64 kd, .string s, .int .i64 nn, .int .i64 lo] 168)) w.heap.size 4 (.slice Al i cl) i (opC l)) := Lib.hid ⟨(HROW.out.1.touch hO3.touch (fun b e hbg => HNEQ.out b e hbg)).below hbn, HROW.out.2⟩
        clear hR3 hO3 hbn hat hb3 HNX
        go_wp2_with fail
        refine (HMY.out _).mono ?_
        rintro e w4 ⟨rfl, hb4⟩
        have hat4 := (hb4.block w3.heap.size (by rw [asz]; omega)).trans HAT.out
        have HB4 := Lib.hid (HB3.out.trans (hb4.mono HB3.out.size))
        have HR4 := Lib.hid (HR3.out.below hb4)
        have HRW4 : Hid (RowN w4 w.heap.size 4 (.slice Al i cl) i (opC l)) := Lib.hid ⟨HRW3.out.1.below hb4, HRW3.out.2⟩
        have c0 := cell_of hat4 0; have c1 := cell_of hat4 1; have c2 := cell_of hat4 2; have c3 := cell_of hat4 3
        simp at c0 c1 c2 c3
        clear hb4 hat4 HMY
        cases mb with
        | false =>
          have HF : Hid (decO bs = none) := Lib.hid (by rw [HE.out, HCONT.out, HNO.out (by simp)]; rfl)
          go_wp2_with fail
          refine bodyPost_ret (v := .tuple #[.slice none 0 0, .int .i64 6]) (by simp [results, Tryz.results60, go_sem]) rfl ?_
          exact ⟨HB4.out, .inl ⟨HF.out, rfl⟩⟩
        | true =>
          have hbn := below_new (w := w4) (.cells #[.int .i64 kd, .string s, .int .i64 nn, .int .i64 lo] 168)
          have hat := alloc_at w4 (.cells #[.int .i64 kd, .string s, .int .i64 nn, .int .i64 lo] 168)
          have HSRC := Lib.hid (src_op (o := ⟨kd, s, nn, lo⟩) hat)
          have HB5 := Lib.hid (HB4.out.trans (hbn.mono HB4.out.size))
          have HR5 := Lib.hid (HR4.out.below hbn)
          have HRW5 : Hid (RowN (w4.alloc (.cells #[.int .i64 kd, .string s, .int .i64 nn, .int .i64 lo] 168)) w.heap.size 4 (.slice Al i cl) i (opC l)) := Lib.hid ⟨HRW4.out.1.below hbn, HRW4.out.2⟩
          clear hbn hat
          go_wp2_with (at_builtin; refine wpList_append_row _ _ Tryz.underlying35 infoO rfl (by decide) (by decide) _ rfl _ _ 35 rfl i 1 (opC l) [.int .i64 kd, .string s, .int .i64 nn, .int .i64 lo] _ _ rfl rfl HRW5.out.1 HSRC.out ?_ ?_)
          all_goals first | omega | skip
          intro v' w' hr5 hg5 hb5
          have HNEW : Hid (RowN w' w.heap.size 4 v' (i + 1) (opC (l ++ [⟨kd, s, nn, lo⟩])) ∧ RdS w' g A cap bs st2 ∧ Below w.heap.size w w' ∧ (l ++ [(⟨kd, s, nn, lo⟩ : OpV)]).length = i + 1 ∧ KeysIn (l ++ [⟨kd, s, nn, lo⟩])) := Lib.hid (by
            rw [← opC_snoc l ⟨kd, s, nn, lo⟩] at hr5
            refine ⟨HRW5.out.grown HB5.out.size hr5 (by rw [asz]; exact hb5) (opC_first (by simp)), HR5.out.grown HRW5.out hg5, ?_, by rw [List.length_append, HLI.out]; rfl, fun o ho => ?_⟩
            · have ht := (Touch.refl (fun k => (Value.slice Al i cl).ownBlock = some k) (w4.alloc (.cells #[.int .i64 kd, .string s, .int .i64 nn, .int .i64 lo] 168))).grown hg5 (fun k e _ => e)
              exact HB5.out.trans (ht.below (fun b e => (HRW5.out.2.1 b e).1) HB5.out.size)
            · rcases List.mem_append.1 ho with h | h
              · exact HKL.out o h
              · obtain rfl := List.mem_singleton.1 h
                have := HOS.out
                simp only
                omega)
          have HC2 : Hid (opsS bs n [] s1 = opsS bs (n - (i + 1)) (l ++ [⟨kd, s, nn, lo⟩]) st2) := Lib.hid (by rw [HCONT.out, HM0.out]; exact HGO.out (by simp))
          clear hr5 hg5 hb5 c0 c1 c2 c3
          go_wp2_with fail
          go_roundw
          case rel => exact ⟨i + 1, _, st2, HLT.out, by go_num, HNEW.out.2.2.2.1, HNEW.out.2.2.2.2, HNEW.out.1, HNEW.out.2.1, HNEW.out.2.2.1, HC2.out⟩
          case measure => have := HLT.out; simp [intOf]; omega
      · obtain rfl : i = n := by omega
        rw [Nat.sub_self] at hcont
        have HEN := Lib.hid (end_u (HG.out.below hbw) (by have := HG.out.lt; have := HGN.out; have := HB1.out.size; omega) hR)
        have HCONT := Lib.hid hcont
        have HROW := Lib.hid hrow
        have HBW := Lib.hid hbw
        have HLI := Lib.hid (And.intro hli hkl)
        have HNEQ := Lib.hid (hrow.ne hR)
        obtain ⟨Al, cl, rfl, _⟩ := hrow.1.form
        clear hcont hrow hbw hli hR hkl
        go_wp2_with fail
        refine (HEN.out).mono ?_
        rintro e w3 ⟨x, rfl, hx, hO3⟩
        have HB3 := Lib.hid (HBW.out.trans (hO3.touch.below (fun i e => by rw [e]; exact HGN.out) HBW.out.size))
        have HRW3 : Hid (RowN w3 w.heap.size 4 (.slice Al i cl) i (opC l)) := Lib.hid ⟨HROW.out.1.touch hO3.touch (fun b e hbg => HNEQ.out b e hbg), HROW.out.2⟩
        have HX := Lib.hid hx
        by_cases he : st = some bs.length
        · obtain rfl : x = 0 := by simpa [he] using hx
          have HF : Hid (decO bs = some l) := Lib.hid (by rw [HE.out, HCONT.out]; simp only [opsS, finO]; rw [if_pos he])
          clear hx hO3
          go_wp2_with fail
          refine bodyPost_ret (v := .tuple #[.slice Al i cl, .int .i64 0]) (by simp [results, Tryz.results60, go_sem]) rfl ?_
          have hli := HLI.out.1
          subst hli
          exact ⟨HB3.out, .inr ⟨l, Al, cl, HF.out, rfl, HRW3.out, HLI.out.2⟩⟩
        · have hx0 : (x == 0) = false := by simpa [he] using hx
          have hx1 : ¬ x = 0 := by simpa using hx0
          have hx2 : (x != 0) = true := by simpa using hx1
          have HF : Hid (decO bs = none) := Lib.hid (by rw [HE.out, HCONT.out]; simp only [opsS, finO]; rw [if_neg he])
          clear hx hO3
          go_wp2_with fail
          refine bodyPost_ret (v := .tuple #[.slice none 0 0, .int .i64 6]) (by simp [results, Tryz.results60, go_sem]) rfl ?_
          exact ⟨HB3.out, .inl ⟨HF.out, rfl⟩⟩
end Go.Proofs.YtmbonngjkgcijaaGreatDoor

namespace Go.Proofs.YtmbonngjkgcijaaGreatDoor
open Go.RowKit

set_option maxRecDepth 100000 in
set_option maxHeartbeats 1000000 in
theorem one_no {w : World} {v : Value} {l : List UInt8} (hM : Mov w) (h : BIs w v l) (hf : firstP l = 0 ∨ firstP l ≠ l.length) :
    Calls Tryz.prog 57 #[v] w fun e w' => e = .returned (.tuple #[.slice none 0 0, .bool false]) ∧ Below w.heap.size w w' := by
  have HF := Lib.hid (first_any hM h)
  obtain ⟨A, cap, rfl, _, _, h3⟩ := h
  clear h3 hM
  by_cases h0 : firstP l = 0
  · rw [h0] at HF
    go_enter Tryz.func57, Tryz.ntmps57
    go_wp2_with fail
    refine (HF.out).mono ?_
    rintro e w' ⟨rfl, hb⟩
    go_wp2_with fail
    go_ret2
    exact ⟨rfl, hb⟩
  · have h1 : ((firstP l : Int) == 0) = false := beq_eq_false_iff_ne.2 (by omega)
    have h2 : ((firstP l : Int) != (l.length : Int)) = true := by rw [bne_iff_ne]; omega
    clear hf h0
    go_enter Tryz.func57, Tryz.ntmps57
    go_wp2_with fail
    refine (HF.out).mono ?_
    rintro e w' ⟨rfl, hb⟩
    go_wp2_with fail
    go_ret2
    exact ⟨rfl, hb⟩
set_option maxRecDepth 100000 in
set_option maxHeartbeats 1000000 in
theorem one_yes {w : World} {v : Value} {l : List UInt8} (hM : Mov w) (h : BIs w v l) (hf : firstP l ≠ 0) (hl : firstP l = l.length) :
    Calls Tryz.prog 57 #[v] w fun e w' => ∃ x, e = .returned (.tuple #[x, .bool true]) ∧ OwnBy w' w.heap.size x (bodyP l) ∧ Below w.heap.size w w' := by
  have HF := Lib.hid (first_any hM h)
  have HBD := Lib.hid (fun (W : World) (hW : Below w.heap.size w W) => body_at (h.below hW) hf)
  obtain ⟨A, cap, rfl, _, _, h3⟩ := h
  clear h3 hM
  have h1 : ((firstP l : Int) == 0) = false := beq_eq_false_iff_ne.2 (by omega)
  have h2 : ((firstP l : Int) != (l.length : Int)) = false := by rw [bne_eq_false_iff_eq]; omega
  clear hf hl
  generalize firstP l = F at *
  go_enter Tryz.func57, Tryz.ntmps57
  go_wp2_with fail
  refine (HF.out).mono ?_
  rintro e w1 ⟨rfl, hb⟩
  have HB := Lib.hid hb
  clear hb
  go_wp2_with fail
  refine (HBD.out w1 HB.out).mono ?_
  rintro e w2 ⟨x, rfl, hO, hb⟩
  have HO := Lib.hid (show OwnBy w2 w.heap.size x (bodyP l) from by
    rcases hO with h | ⟨g, c, rfl, h⟩
    · exact .inl h
    · exact .inr ⟨g, c, rfl, ⟨Nat.le_trans HB.out.size h.new, h.lt, h.le, h.max, h.holds, h.there⟩⟩)
  have HB2 := Lib.hid (HB.out.trans (hb.mono HB.out.size))
  clear hO hb
  go_wp2
  go_ret2
  exact ⟨_, rfl, HO.out, HB2.out⟩
end Go.Proofs.YtmbonngjkgcijaaGreatDoor

namespace Go.Proofs.YtmbonngjkgcijaaGreatDoor
open Go.RowKit Go.Shelf

abbrev zeroM : Value := .agg #[.int .i64 0, .int .i64 0, .int .i64 0, .int .i64 0, .int .i64 0, .int .i64 0, .int .i64 0, .int .i64 0, .int .i64 0, .slice none 0 0, .slice none 0 0]
/-- The body that is read: none, if the bytes are not just one frame. -/
def wholeP (bs : List UInt8) : Bool := decide (firstP bs ≠ 0 ∧ firstP bs = bs.length)
def bodyW (bs : List UInt8) : List UInt8 := if wholeP bs = true then bodyP bs else []
theorem One_any {w : World} {v : Value} {bs : List UInt8} (hM : Mov w) (h : BIs w v bs) :
    Calls Tryz.prog 57 #[v] w fun e w' => ∃ x, e = .returned (.tuple #[x, .bool (wholeP bs)]) ∧ BIs w' x (bodyW bs) ∧ Below w.heap.size w w' := by
  by_cases hf : firstP bs ≠ 0 ∧ firstP bs = bs.length
  · have e : wholeP bs = true := decide_eq_true hf
    refine (one_yes hM h hf.1 hf.2).mono ?_
    rintro e' w' ⟨x, rfl, ho, hb⟩
    refine ⟨x, by rw [e], ?_, hb⟩
    unfold bodyW
    rw [if_pos e]
    exact ho.bis
  · have e : wholeP bs = false := decide_eq_false hf
    refine (one_no hM h (by omega)).mono ?_
    rintro e' w' ⟨rfl, hb⟩
    refine ⟨_, by rw [e], ?_, hb⟩
    unfold bodyW
    rw [if_neg (by rw [e]; decide)]
    exact bis_empty none 0 (Nat.zero_le _)
theorem decM_whole {bs : List UInt8} (h : wholeP bs = true) : decM bs = decB (bodyW bs) := by
  unfold decM bodyW
  rw [if_pos (of_decide_eq_true h), if_pos h]
theorem decM_no {bs : List UInt8} (h : wholeP bs = false) : decM bs = none := by
  unfold decM
  rw [if_neg (of_decide_eq_false h)]
theorem bodyW_le (bs : List UInt8) : (bodyW bs).length ≤ 16384 := by
  unfold bodyW
  split
  · rename_i h
    have := of_decide_eq_true h
    exact (frame_of_first this.1 this.2).2
  · simp
/-- What decB comes to, step by step. -/
def finM (bs : List UInt8) (st : Option Nat) (m : MsgV) : Option MsgV := if st = some bs.length ∧ mayM m = true then some m else none
theorem decB_none {bs : List UInt8} {a ns : List Nat} {s1 s2 s3 : Option Nat} {raw : ByteArray} (h1 : hdS bs 10 (some 0) = (a, s1)) (h2 : hdS bs (manyS a) s1 = (ns, s2)) (h3 : strS 16384 bs s2 = (raw, s3)) (h4 : decO raw.data.toList = none) : decB bs = none := by
  unfold decB
  rw [h1]
  simp only
  rw [h2]
  simp only
  rw [h3]
  simp only
  rw [h4]
theorem decB_some {bs : List UInt8} {a ns : List Nat} {s1 s2 s3 : Option Nat} {raw : ByteArray} {l : List OpV} (h1 : hdS bs 10 (some 0) = (a, s1)) (h2 : hdS bs (manyS a) s1 = (ns, s2)) (h3 : strS 16384 bs s2 = (raw, s3)) (h4 : decO raw.data.toList = some l) : decB bs = finM bs s3 (msgOf a ns l) := by
  unfold decB finM
  rw [h1]
  simp only
  rw [h2]
  simp only
  rw [h3]
  simp only
  rw [h4]
theorem msgOf_ops {a ns : List Nat} {l : List OpV} (ha : a.length = 10) : msgOf a ns l = { msgOf a ns [] with os := l } ∧ (msgOf a ns []).tl = ns.map numV := by
  match a, ha with
  | [a0, a1, a2, a3, a4, a5, a6, a7, a8, a9], _ => exact ⟨rfl, rfl⟩
/-- Bytes of a text, in a block of their own. -/
theorem bytes_conv (w : World) (s : ByteArray) (hs : s.size ≤ 1073741824) : BIs (Lib.bytesWorld w 5 s) (.slice (some ⟨w.heap.size, 0, none⟩) s.size (grownCap w s.size 0 5)) s.data.toList := by
  have hl := size_list s
  refine ⟨some ⟨w.heap.size, 0, none⟩, grownCap w s.size 0 5, by rw [hl], by rw [hl]; exact grownCap_ge _ _ _ _, grownCap_le_maxLen _ _ _ _ (by unfold maxLen; omega), fun i b hi => ?_⟩
  have hi2 : i < s.size := by rw [← hl]; exact (List.getElem?_eq_some_iff.1 hi).1
  have hc := Lib.bytesWorld_cell w 5 s i hi2
  refine ⟨_, rfl, World.block_lt_of_cell? _ ⟨w.heap.size, i, none⟩ hc, ?_⟩
  rw [add0, hc]
  simp only [List.getD, hi]
  rfl
end Go.Proofs.YtmbonngjkgcijaaGreatDoor
