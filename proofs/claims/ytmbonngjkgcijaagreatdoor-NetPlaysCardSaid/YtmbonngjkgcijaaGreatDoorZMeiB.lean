/- The document's own Decode of operations. (genmeib.py wrote it.) The reference's Peel. The law on bytes. (genmehh.py wrote it.) -/
import Derived.Test.YtmbonngjkgcijaaGreatDoorZOmfB
import Derived.Test.YtmbonngjkgcijaaGreatDoorZNetP
import Derived.Test.YtmbonngjkgcijaaGreatDoorZRcsA
import Derived.Deep.RegionHeld
import Derived.Test.YtmbonngjkgcijaaGreatDoorZMegA
import Derived.Test.YtmbonngjkgcijaaGreatDoorZMefD
import Derived.Test.YtmbonngjkgcijaaGreatDoorZMeeB
set_option linter.unusedSimpArgs false
set_option linter.unusedVariables false
set_option linter.unnecessarySimpa false
namespace Go.Proofs.YtmbonngjkgcijaaGreatDoor
open Go.RowKit Go.Shelf

/-- What the document's own Decode says behind its first loop. -/
theorem decOR_fin {bs : List UInt8} {n : Nat} {s1 st : Option Nat} {l : List OpV} (h : natS bs (some 0) = (n, s1)) (ho : opsR bs (min n 65) [] s1 = some (l, st)) : decOR bs = if st = some bs.length ∧ n ≤ 64 ∧ l.all mayO = true then some l else none := by
  unfold decOR
  rw [h]
  simp only
  rw [ho]
theorem decOR_out {bs : List UInt8} {n : Nat} {s1 : Option Nat} (h : natS bs (some 0) = (n, s1)) (ho : opsR bs (min n 65) [] s1 = none) : decOR bs = none := by
  unfold decOR
  rw [h]
  simp only
  rw [ho]
theorem opsR_no {bs : List UInt8} {k q : Nat} {l : List OpV} (h : 1000 < (natS bs (some q)).1) : opsR bs (k + 1) l (some q) = none := by
  unfold opsR
  rw [if_pos h]
theorem opsR_go {bs : List UInt8} {k q : Nat} {l : List OpV} (h : ¬ 1000 < (natS bs (some q)).1) : opsR bs (k + 1) l (some q) = opsR bs k (l ++ [(opS 1000 bs (some q)).1]) (opS 1000 bs (some q)).2 := by
  rw [opsR, if_neg h]
set_option maxRecDepth 100000 in
set_option maxHeartbeats 8000000 in
theorem ropsdec_any {w : World} {v : Value} {bs : List UInt8} (h : BIs w v bs) :
    Calls Tryz.prog 140 #[v] w (OpsDec w (decOR bs)) := by
  obtain ⟨A, cap, rfl, b1, b2, b3⟩ := h
  have HOF := Lib.hid (rf_of b1 b2 b3)
  obtain ⟨n, s1, hn⟩ : ∃ n s, natS bs (some 0) = (n, s) := ⟨_, _, rfl⟩
  have HN1 := Lib.hid hn
  clear b1 b2 b3 hn
  go_enter Tryz.func140, Tryz.ntmps140
  go_wp2_with fail
  refine (HOF.out).mono ?_
  rintro e w1 ⟨g, rfl, hgn, hR, hb1⟩
  have HN := Lib.hid (rnat_u hR)
  rw [HN1.out] at HN
  simp only at HN
  have HB1 := Lib.hid hb1
  have HGN := Lib.hid hgn
  have HGL := Lib.hid hR.lt
  have HR1 := Lib.hid hR
  have HA1 := Lib.hid hR.adr
  clear hgn hR hb1 HOF
  go_wp2_with fail
  refine (HN.out).mono ?_
  rintro e w2 ⟨rfl, hR2, hO2⟩
  have HR2 := Lib.hid hR2
  have HB2 := Lib.hid (HB1.out.trans (hO2.touch.below (fun i e => by rw [e]; exact HGN.out) HB1.out.size))
  have HS2 := Lib.hid hO2.size
  clear hR2 hO2 HN
  go_upto_block 0 with fail
  go_cut [6] from 7 to 51 (fun bv wx => ∃ (l : List OpV) (st : Option Nat) (Al : Option Addr) (cl : Nat), bv = .slice Al l.length cl ∧ KeysIn l ∧ RowN wx w1.heap.size 4 bv l.length (opC l) ∧ RfS wx g A cap bs st ∧ Below w.heap.size w wx ∧ w1.heap.size ≤ wx.heap.size ∧ opsR bs (min n 65) [] s1 = some (l, st))
  case first =>
    go_wp2_with fail
    go_loopw [6, 7] (fun bv iv wr => ∃ (i : Nat) (l : List OpV) (st : Option Nat), i ≤ min n 65 ∧ iv = .int .u64 i ∧ l.length = i ∧ KeysIn l ∧ RowN wr w1.heap.size 4 bv i (opC l) ∧ RfS wr g A cap bs st ∧ Below w.heap.size w wr ∧ w1.heap.size ≤ wr.heap.size ∧ opsR bs (min n 65) [] s1 = opsR bs (min n 65 - i) l st) (fun _ iv _ => 65 - (intOf iv).toNat)
    case atStart => exact ⟨0, [], s1, Nat.zero_le _, rfl, rfl, (fun o h => by cases h), ⟨RowIs.nil _ _, (fun b e => by cases e), fun _ => rfl⟩, HR2.out, HB2.out, HS2.out, rfl⟩
    case round =>
      obtain ⟨i, l, st, hi, rfl, hli, hkl, hrow, hR, hbw, hsz, hcont⟩ := hrel
      obtain ⟨E, hE, hE0⟩ := hR.cell2
      by_cases hlt : i < min n 65
      · have q1 : (i : Int) < (n : Int) := by omega
        have q2 : (i : Int) < 65 := by omega
        obtain ⟨m0, hm0⟩ : ∃ m0, min n 65 - i = m0 + 1 := ⟨min n 65 - i - 1, by omega⟩
        have HM0 : Hid (min n 65 - (i + 1) = m0) := Lib.hid (by omega)
        rw [hm0] at hcont
        cases st with
        | none =>
          have q3 : (E == 0) = false := hE0
          rw [opsR_none] at hcont
          subst hli
          obtain ⟨Al, cl, rfl, _⟩ := hrow.1.form
          have H := Lib.hid (And.intro hkl (And.intro hrow (And.intro hR (And.intro hbw (And.intro hsz hcont)))))
          clear hkl hrow hR hbw hsz hcont hE0 hm0 hlt hi
          go_wp2_with fail
          go_meet
          exact ⟨l, none, Al, cl, rfl, H.out.1, H.out.2.1, H.out.2.2.1, H.out.2.2.2.1, H.out.2.2.2.2.1, H.out.2.2.2.2.2⟩
        | some q =>
          obtain rfl : E = 0 := by simpa using hE0
          have HNK := Lib.hid (rnat_u hR)
          have hsle := (strS_le : (strS 16 bs (natS bs (some q)).2).1.size ≤ 16)
          have HNO := Lib.hid (fun (h : 1000 < (natS bs (some q)).1) => opsR_no (k := m0) (l := l) h)
          have HGO := Lib.hid (fun (h : ¬ 1000 < (natS bs (some q)).1) => opsR_go (k := m0) (l := l) h)
          unfold opS at HGO
          obtain ⟨k, s2, hk⟩ : ∃ n s, natS bs (some q) = (n, s) := ⟨_, _, rfl⟩
          rw [hk] at HNK HNO HGO hsle
          simp only at HNK HNO HGO hsle
          obtain ⟨ks, s3, hs⟩ : ∃ n s, strS 16 bs s2 = (n, s) := ⟨_, _, rfl⟩
          rw [hs] at HGO hsle
          simp only at HGO hsle
          obtain ⟨x, s4, hx⟩ : ∃ n s, numS bs s3 = (n, s) := ⟨_, _, rfl⟩
          rw [hx] at HGO
          simp only at HGO
          obtain ⟨y, s5, hy⟩ : ∃ n s, numS bs s4 = (n, s) := ⟨_, _, rfl⟩
          rw [hy] at HGO
          simp only at HGO
          have HH := Lib.hid (And.intro hs (And.intro hx hy))
          have HKS := Lib.hid hsle
          have HCONT := Lib.hid hcont
          have HROW := Lib.hid hrow
          have HBW := Lib.hid hbw
          have HSZ := Lib.hid hsz
          have HLI := Lib.hid hli
          have HKL := Lib.hid hkl
          have HLT := Lib.hid hlt
          have HOWN : Hid (∀ (W : World), w1.heap.size ≤ W.heap.size → ∀ b, (Only g wr W → ∀ v, RowN wr w1.heap.size 4 v i (opC l) → v.ownBlock = some b → b ≠ g)) := Lib.hid (fun W _ b _ v hv hb => by have := (hv.2.1 b hb).1; have := HGL.out; omega)
          obtain ⟨Al, cl, rfl, _⟩ := hrow.1.form
          clear hcont hrow hbw hsz hli hkl hlt hR hsle hk hs hx hy hm0 hE0 HOWN
          go_wp2_with fail
          refine (HNK.out).mono ?_
          rintro e w3 ⟨rfl, hR3, hO3⟩
          have hB3 := HBW.out.trans (hO3.touch.below (fun i e => by rw [e]; exact HGN.out) HBW.out.size)
          by_cases hk1 : 1000 < k
          · have hkI : (1000 : Int) < (k : Int) := by omega
            have HF : Hid (decOR bs = none) := Lib.hid (decOR_out HN1.out (by rw [HCONT.out, HNO.out hk1]))
            have HB3 := Lib.hid hB3
            clear hR3 hO3 hE hB3
            go_wp2_with fail
            refine bodyPost_ret (v := .tuple #[.slice none 0 0, .int .i64 6]) (by simp [results, Tryz.results140, go_sem]) rfl ?_
            exact ⟨HB3.out, .inl ⟨HF.out, rfl⟩⟩
          · have hkI : ¬ (1000 : Int) < (k : Int) := by omega
            have hkw : IntKind.i64.wrap (k : Int) = (k : Int) := by rw [IntWalk.i64_in _ (by omega)]
            have HC2 : Hid (opsR bs (min n 65) [] s1 = opsR bs (min n 65 - (i + 1)) (l ++ [⟨(k : Int), ks, x, y⟩]) s5) := Lib.hid (by
              rw [HCONT.out, HM0.out, HGO.out hk1, show min k 1000 = k by omega])
            have hbn := below_new (w := w3) (.cells #[.int .i64 k, .string ⟨#[]⟩, .int .i64 0, .int .i64 0] 168)
            have hat := alloc_at w3 (.cells #[.int .i64 k, .string ⟨#[]⟩, .int .i64 0, .int .i64 0] 168)
            obtain ⟨W4, hW4⟩ : ∃ W, W = w3.alloc (.cells #[.int .i64 k, .string ⟨#[]⟩, .int .i64 0, .int .i64 0] 168) := ⟨_, rfl⟩
            have HW4 := Lib.hid hW4
            rw [← hW4] at hbn hat
            have HR4 := Lib.hid (hR3.below hbn)
            have HAT := Lib.hid hat
            have HB4 := Lib.hid (hB3.trans (hbn.mono hB3.size))
            have HS4 : Hid (w1.heap.size ≤ w3.heap.size ∧ w3.heap.size < W4.heap.size) := Lib.hid ⟨Nat.le_trans HSZ.out hO3.size, heap_lt hat⟩
            have HRW4 : Hid (RowIs W4 4 (.slice Al i cl) i (opC l) ∧ ∀ b, (Value.slice Al i cl).ownBlock = some b → w1.heap.size ≤ b ∧ b < w3.heap.size) := Lib.hid ⟨(HROW.out.1.touch hO3.touch (fun b e hbg => by have := (HROW.out.2.1 b e).1; have := HGL.out; omega)).below hbn, fun b e => ⟨(HROW.out.2.1 b e).1, Nat.lt_of_lt_of_le (HROW.out.1.lt b e) hO3.size⟩⟩
            have HGB : Hid (w3.heap.size ≠ g) := Lib.hid (by have := HS4.out.1; have := HGL.out; omega)
            have HST := Lib.hid (rstr_u (most := 16) (by omega) HR4.out)
            rw [HH.out.1] at HST
            clear hbn hat hW4 hR3 hO3 hE hB3 HNK
            go_wp2_with fail
            rw [← HW4.out]
            refine (HST.out).mono ?_
            rintro e w5 ⟨rfl, hR5, hO5⟩
            have hz := hO5.block' HAT.out HGB.out
            have hsz5 : w1.heap.size ≤ w5.heap.size := Nat.le_trans (Nat.le_of_lt (Nat.lt_of_le_of_lt HS4.out.1 HS4.out.2)) hO5.size
            have hB := HB4.out.trans (hO5.touch.below (fun i e => by rw [e]; exact HGN.out) HB4.out.size)
            have hrw := HRW4.out.1.touch hO5.touch (fun b e hbg => by have := (HRW4.out.2 b e).1; have := HGL.out; omega)
            have c1 := cell_of hz 1; have f1 := free0 hz 1
            simp at c1
            have hT := (Touch.refl (fun k => k = w3.heap.size) w5).setCell ⟨w3.heap.size, 1, none⟩ (fun _ => rfl) (.string ks)
            have hZ := set_at hz 1 (.string ks)
            obtain ⟨W6, hW6⟩ : ∃ W, W = w5.setCell ⟨w3.heap.size, 1, none⟩ (.string ks) := ⟨_, rfl⟩
            have HW6 := Lib.hid hW6
            rw [← hW6] at hT hZ
            have HZ6 : Hid (W6.heap[w3.heap.size]? = some (.cells #[.int .i64 k, .string ks, .int .i64 0, .int .i64 0] 168 (0, 0))) := Lib.hid hZ
            have hbb := hT.below (B := w1.heap.size) (fun i e => by rw [e]; exact HS4.out.1) hsz5
            have HR6 := Lib.hid (RfS.keepB HR1.out hR5 hbb HA1.out)
            have HB6 := Lib.hid (hB.trans (hbb.mono HB1.out.size))
            have HRW6 := Lib.hid (hrw.touch hT (fun b e hbg => by have := (HRW4.out.2 b e).2; omega))
            have HSS6 : Hid (W4.heap.size ≤ W6.heap.size) := Lib.hid (Nat.le_trans hO5.size hT.size)
            have HNX6 := Lib.hid (rnum_u HR6.out)
            rw [HH.out.2.1] at HNX6
            clear hz hB hrw hT hZ hW6 hbb hR5 hO5 hsz5
            go_wp2_with fail
            rw [← HW6.out]
            clear c1 f1
            refine (HNX6.out).mono ?_
            rintro e w7 ⟨rfl, hR7, hO7⟩
            have hz := hO7.block' HZ6.out HGB.out
            have hsz7 : w1.heap.size ≤ w7.heap.size := Nat.le_trans (Nat.le_of_lt (Nat.lt_of_le_of_lt HS4.out.1 HS4.out.2)) (Nat.le_trans HSS6.out hO7.size)
            have hB := HB6.out.trans (hO7.touch.below (fun i e => by rw [e]; exact HGN.out) HB6.out.size)
            have hrw := HRW6.out.touch hO7.touch (fun b e hbg => by have := (HRW4.out.2 b e).1; have := HGL.out; omega)
            have c2 := cell_of hz 2; have f2 := free0 hz 2
            simp at c2
            have hT := (Touch.refl (fun k => k = w3.heap.size) w7).setCell ⟨w3.heap.size, 2, none⟩ (fun _ => rfl) (.int .i64 x)
            have hZ := set_at hz 2 (.int .i64 x)
            obtain ⟨W8, hW8⟩ : ∃ W, W = w7.setCell ⟨w3.heap.size, 2, none⟩ (.int .i64 x) := ⟨_, rfl⟩
            have HW8 := Lib.hid hW8
            rw [← hW8] at hT hZ
            have HZ8 : Hid (W8.heap[w3.heap.size]? = some (.cells #[.int .i64 k, .string ks, .int .i64 x, .int .i64 0] 168 (0, 0))) := Lib.hid hZ
            have hbb := hT.below (B := w1.heap.size) (fun i e => by rw [e]; exact HS4.out.1) hsz7
            have HR8 := Lib.hid (RfS.keepB HR1.out hR7 hbb HA1.out)
            have HB8 := Lib.hid (hB.trans (hbb.mono HB1.out.size))
            have HRW8 := Lib.hid (hrw.touch hT (fun b e hbg => by have := (HRW4.out.2 b e).2; omega))
            have HSS8 : Hid (W4.heap.size ≤ W8.heap.size) := Lib.hid (Nat.le_trans (Nat.le_trans HSS6.out hO7.size) hT.size)
            have HNX8 := Lib.hid (rnum_u HR8.out)
            rw [HH.out.2.2] at HNX8
            clear hz hB hrw hT hZ hW8 hbb hR7 hO7 hsz7
            go_wp2_with fail
            rw [← HW8.out]
            clear c2 f2
            refine (HNX8.out).mono ?_
            rintro e w9 ⟨rfl, hR9, hO9⟩
            have hz := hO9.block' HZ8.out HGB.out
            have hsz9 : w1.heap.size ≤ w9.heap.size := Nat.le_trans (Nat.le_of_lt (Nat.lt_of_le_of_lt HS4.out.1 HS4.out.2)) (Nat.le_trans HSS8.out hO9.size)
            have hB := HB8.out.trans (hO9.touch.below (fun i e => by rw [e]; exact HGN.out) HB8.out.size)
            have hrw := HRW8.out.touch hO9.touch (fun b e hbg => by have := (HRW4.out.2 b e).1; have := HGL.out; omega)
            have c3 := cell_of hz 3; have f3 := free0 hz 3
            simp at c3
            have hT := (Touch.refl (fun k => k = w3.heap.size) w9).setCell ⟨w3.heap.size, 3, none⟩ (fun _ => rfl) (.int .i64 y)
            have hZ := set_at hz 3 (.int .i64 y)
            obtain ⟨W10, hW10⟩ : ∃ W, W = w9.setCell ⟨w3.heap.size, 3, none⟩ (.int .i64 y) := ⟨_, rfl⟩
            have HW10 := Lib.hid hW10
            rw [← hW10] at hT hZ
            have HZ10 : Hid (W10.heap[w3.heap.size]? = some (.cells #[.int .i64 k, .string ks, .int .i64 x, .int .i64 y] 168 (0, 0))) := Lib.hid hZ
            have hbb := hT.below (B := w1.heap.size) (fun i e => by rw [e]; exact HS4.out.1) hsz9
            have HR10 := Lib.hid (RfS.keepB HR1.out hR9 hbb HA1.out)
            have HB10 := Lib.hid (hB.trans (hbb.mono HB1.out.size))
            have HRW10 := Lib.hid (hrw.touch hT (fun b e hbg => by have := (HRW4.out.2 b e).2; omega))
            have HSS10 : Hid (W4.heap.size ≤ W10.heap.size) := Lib.hid (Nat.le_trans (Nat.le_trans HSS8.out hO9.size) hT.size)
            clear hz hB hrw hT hZ hW10 hbb hR9 hO9 hsz9
            go_upto_region 14 with fail
            rw [← HW10.out]
            clear c3 f3
            have HS10 : Hid (w1.heap.size ≤ W10.heap.size) := Lib.hid (by have := HS4.out; have := HSS10.out; omega)
            have hat := HZ10.out
            have j0 := cell_of hat 0; have j1 := cell_of hat 1; have j2 := cell_of hat 2; have j3 := cell_of hat 3
            simp at j0 j1 j2 j3
            have hbn := below_new (w := W10) (.cells #[.int .i64 k, .string ks, .int .i64 x, .int .i64 y] 168)
            have hat2 := alloc_at W10 (.cells #[.int .i64 k, .string ks, .int .i64 x, .int .i64 y] 168)
            have HSRC := Lib.hid (src_op (o := ⟨k, ks, x, y⟩) hat2)
            have HB11 := Lib.hid (HB10.out.trans (hbn.mono HB10.out.size))
            have HR11 := Lib.hid (HR10.out.below hbn)
            have HRW11 := Lib.hid (HRW10.out.below hbn)
            have HZS : Hid (w1.heap.size ≤ (W10.alloc (.cells #[.int .i64 k, .string ks, .int .i64 x, .int .i64 y] 168)).heap.size) := Lib.hid (Nat.le_trans HS10.out hbn.size)
            clear hat hbn hat2
            go_wp2_with (at_builtin; refine wpList_append_row _ _ Tryz.underlying35 infoO rfl (by decide) (by decide) _ rfl _ _ 35 rfl i 1 (opC l) [.int .i64 k, .string ks, .int .i64 x, .int .i64 y] _ _ rfl rfl HRW11.out HSRC.out ?_ ?_)
            all_goals first | omega | skip
            intro v' w' hr5 hg5 hb5
            have HNEW : Hid (RowN w' w1.heap.size 4 v' (i + 1) (opC (l ++ [⟨k, ks, x, y⟩])) ∧ RfS w' g A cap bs s5 ∧ Below w.heap.size w w' ∧ w1.heap.size ≤ w'.heap.size ∧ (l ++ [(⟨k, ks, x, y⟩ : OpV)]).length = i + 1 ∧ KeysIn (l ++ [⟨k, ks, x, y⟩])) := Lib.hid (by
              rw [← opC_snoc l ⟨k, ks, x, y⟩] at hr5
              have ht := (Touch.refl (fun k => (Value.slice Al i cl).ownBlock = some k) (W10.alloc (.cells #[.int .i64 k, .string ks, .int .i64 x, .int .i64 y] 168))).grown hg5 (fun k e _ => e)
              have hbb := ht.below (B := w1.heap.size) (fun b e => (HRW4.out.2 b e).1) HZS.out
              have HRN : RowN (W10.alloc (.cells #[.int .i64 k, .string ks, .int .i64 x, .int .i64 y] 168)) w1.heap.size 4 (.slice Al i cl) i (opC l) := ⟨HRW11.out, HROW.out.2⟩
              refine ⟨HRN.grown HZS.out hr5 (by rw [asz]; exact hb5) (opC_first (by simp)), RfS.keepB HR1.out HR11.out hbb HA1.out, HB11.out.trans (hbb.mono HB1.out.size |>.mono (Nat.le_refl _)), Nat.le_trans HZS.out hbb.size, by rw [List.length_append, HLI.out]; rfl, fun o ho => ?_⟩
              rcases List.mem_append.1 ho with h | h
              · exact HKL.out o h
              · obtain rfl := List.mem_singleton.1 h
                have := HKS.out
                simp only
                omega)
            clear hr5 hg5 hb5 j0 j1 j2 j3
            go_wp2_with fail
            go_roundw
            case rel => exact ⟨i + 1, _, s5, HLT.out, by go_num, HNEW.out.2.2.2.2.1, HNEW.out.2.2.2.2.2, HNEW.out.1, HNEW.out.2.1, HNEW.out.2.2.1, HNEW.out.2.2.2.1, HC2.out⟩
            case measure => have := HLT.out; simp [intOf]; omega
      · rw [show min n 65 - i = 0 by omega] at hcont
        subst hli
        obtain ⟨Al, cl, rfl, _⟩ := hrow.1.form
        have H := Lib.hid (And.intro hkl (And.intro hrow (And.intro hR (And.intro hbw (And.intro hsz hcont)))))
        have hcs : ((l.length : Int) < (n : Int) ∧ ¬ (l.length : Int) < 65) ∨ ¬ (l.length : Int) < (n : Int) := by omega
        clear hkl hrow hR hbw hsz hcont hE0 hlt hi hE
        rcases hcs with ⟨q1, q2⟩ | q1
        · go_wp2_with fail
          go_meet
          exact ⟨l, st, Al, cl, rfl, H.out.1, H.out.2.1, H.out.2.2.1, H.out.2.2.2.1, H.out.2.2.2.2.1, H.out.2.2.2.2.2⟩
        · go_wp2_with fail
          go_meet
          exact ⟨l, st, Al, cl, rfl, H.out.1, H.out.2.1, H.out.2.2.1, H.out.2.2.2.1, H.out.2.2.2.2.1, H.out.2.2.2.2.2⟩
  case rest =>
    obtain ⟨l, st, Al, cl, rfl, hkl, hrow, hR, hbw, hsz, hops⟩ := hcut
    have HEN := Lib.hid (rend_u hR)
    have HD := Lib.hid (decOR_fin HN1.out hops)
    have HROW := Lib.hid hrow
    have HBW := Lib.hid hbw
    have HSZ := Lib.hid hsz
    have HKL := Lib.hid hkl
    clear hkl hrow hR hbw hsz hops
    go_wp2_with fail
    refine (HEN.out).mono ?_
    rintro e w3 ⟨x, rfl, hx, hO3⟩
    have HB3 := Lib.hid (HBW.out.trans (hO3.touch.below (fun i e => by rw [e]; exact HGN.out) HBW.out.size))
    have HRW3 : Hid (RowN w3 w1.heap.size 4 (.slice Al l.length cl) l.length (opC l)) := Lib.hid ⟨HROW.out.1.touch hO3.touch (fun b e hbg => by have := (HROW.out.2.1 b e).1; have := HGL.out; omega), HROW.out.2⟩
    by_cases he : st = some bs.length
    · obtain rfl : x = 0 := by simpa [he] using hx
      by_cases h64 : n ≤ 64
      · have h64I : ¬ (64 : Int) < (n : Int) := by omega
        have HD2 : Hid (decOR bs = if l.all mayO = true then some l else none) := Lib.hid (by rw [HD.out]; simp [he, h64])
        have HOA := Lib.hid (HRW3.out.1.ops rfl).form
        obtain ⟨L, hL⟩ : ∃ L, l.length = L := ⟨_, rfl⟩
        have HL := Lib.hid hL
        have hLI : (0 : Int) ≤ (L : Int) := by omega
        have HLW : Hid (RowN w3 w.heap.size 4 (.slice Al l.length cl) l.length (opC l)) := Lib.hid ⟨HRW3.out.1, fun b e => ⟨Nat.le_trans HB1.out.size (HRW3.out.2.1 b e).1, (HRW3.out.2.1 b e).2⟩, HRW3.out.2.2⟩
        have hLm : L ≤ 9223372036854775807 := by
          obtain ⟨_, _, _, h1, h2, _⟩ := HOA.out
          unfold maxLen at h2
          omega
        rw [hL] at HLW HOA ⊢
        clear hx hO3 hL
        go_wp2_with fail
        go_loopw [61] (fun iv wr => ∃ (i : Nat), i ≤ L ∧ iv = .int .i64 i ∧ (l.take i).all mayO = true ∧ Below w3.heap.size w3 wr) (fun iv _ => L - (intOf iv).toNat)
        case atStart => exact ⟨0, Nat.zero_le _, rfl, rfl, Below.refl _ _⟩
        case round =>
          obtain ⟨i, hi, rfl, hall, hbr⟩ := hrel
          by_cases hlt : i < L
          · obtain ⟨o, hoi⟩ : ∃ o, l[i]? = some o := ⟨_, List.getElem?_eq_getElem (by rw [HL.out]; exact hlt)⟩
            obtain ⟨A9, c9, e9, _, _, hcell⟩ := HOA.out
            injection e9 with e91 e92 e93
            subst e91 e93
            obtain ⟨a, rfl, p1, k0, k1, k2, k3⟩ := hcell i o hoi
            have hblk : (a.add (i * 4)).block < w3.heap.size := by rw [add_block]; exact p1
            replace k0 := (hbr.cell hblk).trans k0
            replace k1 := (hbr.cell (p := ⟨(a.add (i * 4)).block, (a.add (i * 4)).off + 1, none⟩) hblk).trans k1
            replace k2 := (hbr.cell (p := ⟨(a.add (i * 4)).block, (a.add (i * 4)).off + 2, none⟩) hblk).trans k2
            replace k3 := (hbr.cell (p := ⟨(a.add (i * 4)).block, (a.add (i * 4)).off + 3, none⟩) hblk).trans k3
            have hko := HKL.out o (List.mem_of_getElem? hoi)
            obtain ⟨mb, hmb⟩ : ∃ b, mayO o = b := ⟨_, rfl⟩
            have HTK : Hid (mb = true → (l.take (i + 1)).all mayO = true) := Lib.hid (fun h => by
              rw [List.take_add_one, hoi]
              simp [hall, hmb, h])
            have HNO : Hid (mb = false → decOR bs = none) := Lib.hid (fun h => by
              rw [HD2.out, if_neg]
              intro hc
              have := List.all_eq_true.1 hc o (List.mem_of_getElem? hoi)
              rw [hmb, h] at this
              cases this)
            obtain ⟨kd, s, nn, lo⟩ := o
            have HMY := Lib.hid (fun W => ropmay_any kd s nn lo W hko)
            rw [hmb] at HMY
            simp only at k0 k1 k2 k3
            have HLT := Lib.hid hlt
            have hb4 := below_new (w := wr) (.cells #[.int .i64 kd, .string s, .int .i64 nn, .int .i64 lo] 168)
            have HBR := Lib.hid (hbr.trans (hb4.mono hbr.size))
            have hiI : (i : Int) < (L : Int) := by omega
            clear hoi hcell p1 hblk hko hmb hall hbr hlt hi hb4 e92
            go_wp2_with fail
            refine (HMY.out _).mono ?_
            rintro e w5 ⟨rfl, hb5⟩
            have HB5 := Lib.hid (HBR.out.trans (hb5.mono HBR.out.size))
            clear hb5 k0 k1 k2 k3
            cases mb with
            | false =>
              go_wp2_with fail
              refine bodyPost_ret (v := .tuple #[.slice none 0 0, .int .i64 6]) (by simp [results, Tryz.results140, go_sem]) rfl ?_
              exact ⟨HB3.out.trans (HB5.out.mono HB3.out.size), .inl ⟨HNO.out (by simp), rfl⟩⟩
            | true =>
              go_wp2_with fail
              go_roundw
              case rel => exact ⟨i + 1, HLT.out, by go_num, HTK.out (by simp), HB5.out⟩
              case measure => have := HLT.out; simp [intOf]; omega
          · obtain rfl : i = L := by omega
            rw [List.take_of_length_le (by rw [HL.out]; omega)] at hall
            have HF : Hid (decOR bs = some l) := Lib.hid (by rw [HD2.out, if_pos hall])
            have HBR := Lib.hid hbr
            have hiI : ¬ (i : Int) < (i : Int) := by omega
            clear hall hbr hlt hi
            go_wp2_with fail
            refine bodyPost_ret (v := .tuple #[.slice Al i cl, .int .i64 0]) (by simp [results, Tryz.results140, go_sem]) rfl ?_
            have hL := HL.out
            subst hL
            exact ⟨HB3.out.trans (HBR.out.mono HB3.out.size), .inr ⟨l, Al, cl, HF.out, rfl, ⟨HLW.out.1.below HBR.out, HLW.out.2⟩, HKL.out⟩⟩
      · have h64I : (64 : Int) < (n : Int) := by omega
        have HF : Hid (decOR bs = none) := Lib.hid (by rw [HD.out, if_neg]; intro h; exact h64 h.2.1)
        clear hx hO3
        go_wp2_with fail
        refine bodyPost_ret (v := .tuple #[.slice none 0 0, .int .i64 6]) (by simp [results, Tryz.results140, go_sem]) rfl ?_
        exact ⟨HB3.out, .inl ⟨HF.out, rfl⟩⟩
    · have hx0 : (x == 0) = false := by simpa [he] using hx
      have hx1 : ¬ x = 0 := by simpa using hx0
      have hx2 : (x != 0) = true := by simpa using hx1
      have HF : Hid (decOR bs = none) := Lib.hid (by rw [HD.out, if_neg]; intro h; exact he h.1)
      clear hx hO3
      go_wp2_with fail
      refine bodyPost_ret (v := .tuple #[.slice none 0 0, .int .i64 6]) (by simp [results, Tryz.results140, go_sem]) rfl ?_
      exact ⟨HB3.out, .inl ⟨HF.out, rfl⟩⟩
end Go.Proofs.YtmbonngjkgcijaaGreatDoor

namespace Go.Proofs.YtmbonngjkgcijaaGreatDoor
open Go.RowKit

/-- What Peel answers. -/
def PeelIs (w : World) (v : Value) (l : List UInt8) (e : Ending) (w' : World) : Prop :=
  ∃ x, e = .returned (.tuple #[x, .int .i64 (firstP l : Nat)]) ∧ (firstP l = 0 → x = .slice none 0 0) ∧ (firstP l ≠ 0 → BIs w' x (bodyP l) ∧ ∀ a n c, x = .slice (some a) n c → v.ownBlock = some a.block) ∧ Below w.heap.size w w'
theorem peelIs_no {w : World} {v : Value} {l : List UInt8} {w' : World} (h : firstP l = 0) (hb : Below w.heap.size w w') : PeelIs w v l (.returned (.tuple #[.slice none 0 0, .int .i64 0])) w' :=
  ⟨_, by rw [h]; rfl, fun _ => rfl, fun hn => absurd h hn, hb⟩
theorem frame_iff {l : List UInt8} {N : Nat} (hN : szP l = N) (h1 : N ≤ 16384) (h2 : N + 7 ≤ l.length) :
    (frameB ((l.drop 3).take N) = l.take (N + 7) → firstP l = N + 7) ∧ (frameB ((l.drop 3).take N) ≠ l.take (N + 7) → firstP l = 0) := by
  have hlen : ((l.drop 3).take N).length = N := by rw [List.length_take, List.length_drop]; omega
  constructor
  · intro h
    have := firstP_frame (l := (l.drop 3).take N) (by omega) (l.drop (N + 7))
    rw [h, List.take_append_drop, hlen] at this
    exact this
  · intro h
    refine Classical.byContradiction fun h0 => h ?_
    obtain ⟨m, hm, hl, _, _, he, _⟩ := firstP_pos h0
    rw [hN] at hm hl
    rw [← hm, he]
    have : (frameB m).length = N + 7 := by rw [frameB_len, hl]
    rw [← this, List.take_left]

set_option maxRecDepth 100000 in
set_option maxHeartbeats 4000000 in
theorem rpeel_any {w : World} {v : Value} {l : List UInt8} (h : BIs w v l) : Calls Tryz.prog 134 #[v] w (PeelIs w v l) := by
  by_cases h7 : l.length < 7
  · have e : firstP l = 0 := by unfold firstP; rw [if_pos (.inl h7)]
    obtain ⟨A, cap, rfl, h1, h2, h3⟩ := h
    have h7' : (l.length : Int) < 7 := by omega
    clear h3
    go_enter Tryz.func134, Tryz.ntmps134
    go_wp2_with fail
    go_ret2
    exact peelIs_no e (Below.refl _ _)
  · obtain ⟨a, cap, rfl, h1, h2, hat⟩ := h.at (by intro e; rw [e] at h7; simp at h7)
    have hc1 : w.cell? ⟨a.block, a.off + 1, none⟩ = some (.int .u8 ((l[1]'(by omega)).toNat : Int)) := hat.2 1 _ (List.getElem?_eq_getElem (by omega))
    have hc2 : w.cell? ⟨a.block, a.off + 2, none⟩ = some (.int .u8 ((l[2]'(by omega)).toNat : Int)) := hat.2 2 _ (List.getElem?_eq_getElem (by omega))
    have e1 : atN l 1 = (l[1]'(by omega)).toNat := by unfold atN; rw [List.getElem?_eq_getElem (by omega)]; rfl
    have e2 : atN l 2 = (l[2]'(by omega)).toNat := by unfold atN; rw [List.getElem?_eq_getElem (by omega)]; rfl
    rw [← e1] at hc1
    rw [← e2] at hc2
    clear e1 e2
    have h7' : ¬ (l.length : Int) < 7 := by omega
    have l1 : 1 < l.length := by omega
    have l2 : 2 < l.length := by omega
    have a1 := atN_lt l 1
    have a2 := atN_lt l 2
    have hsz : 256 * (atN l 1 : Int) + (atN l 2 : Int) = (szP l : Int) := by
      show 256 * (atN l 1 : Int) + (atN l 2 : Int) = ((atN l 1 * 256 + atN l 2 : Nat) : Int)
      omega
    have HIFF := Lib.hid (fun N (hN : szP l = N) => frame_iff (l := l) hN)
    have hbig : Hid (16384 < szP l ∨ l.length < szP l + 7 → firstP l = 0) := by
      intro h
      unfold firstP
      by_cases h0 : l.length < 7 ∨ atN l 0 ≠ 167
      · rw [if_pos h0]
      · rw [if_neg h0, if_pos (by omega)]
    have hN65 := szP_lt l
    generalize hNN : szP l = N at *
    have HNN := Lib.hid hNN
    generalize atN l 1 = y1 at *
    generalize atN l 2 = y2 at *
    have y1' : (y1 : Int) < 256 := by omega
    have y2' : (y2 : Int) < 256 := by omega
    have hN' : (N : Int) < 65536 := by omega
    have w1 : IntKind.i64.wrap (256 * (y1 : Int)) = 256 * (y1 : Int) := IntWalk.i64_in _ (by omega)
    have w2 : IntKind.i64.wrap (256 * (y1 : Int) + (y2 : Int)) = (N : Int) := by rw [hsz]; exact IntWalk.i64_in _ (by omega)
    unfold maxLen at h2
    have h2' : cap ≤ 9223372036854775807 := by omega
    have HAT := Lib.hid hat
    clear hNN hat
    by_cases hA : (16384 : Int) < (N : Int)
    · have HE : Hid (firstP l = 0) := hbig.out (by omega)
      go_enter Tryz.func134, Tryz.ntmps134
      go_wp2_with fail
      go_region
      go_wp2_with fail
      go_ret2
      exact peelIs_no HE.out (below_drew (Below.refl _ _))
    · by_cases hB : (l.length : Int) < (N : Int) + 7
      · have HE : Hid (firstP l = 0) := hbig.out (by omega)
        go_enter Tryz.func134, Tryz.ntmps134
        go_wp2_with fail
        go_region
        go_wp2_with fail
        go_ret2
        exact peelIs_no HE.out (below_drew (Below.refl _ _))
      · have hA1 : decide ((16384 : Int) < (N : Int)) = false := decide_eq_false hA
        have hB1 : decide ((l.length : Int) < (N : Int) + 7) = false := decide_eq_false (by omega)
        have HAB : Hid (N ≤ 16384 ∧ N + 7 ≤ l.length) := ⟨by omega, by omega⟩
        have q1 : N + 3 ≤ l.length := by omega
        have q2 : N + 7 ≤ cap := by omega
        have q3 : N + 3 ≤ cap := by omega
        clear hA hB hN65 hN'
        have hN' : (N : Int) ≤ 16384 := by have := HAB.out.1; omega
        go_enter Tryz.func134, Tryz.ntmps134
        go_wp2_with fail
        go_region
        go_wp2_with fail
        have HSUB : Hid (∀ W, Below w.heap.size w W → BIs W (.slice (some ⟨a.block, a.off + 3, none⟩) N (cap - 3)) ((l.drop 3).take N)) := fun W hW =>
          ((((HAT.out.drop 3 (by omega)).take N).bis (cap := cap - 3) (by rw [List.length_take, List.length_drop]; have := HAB.out.2; omega) (by omega) (by unfold maxLen; omega))).below hW
        have HTOP : Hid (∀ W, Below w.heap.size w W → BIs W (.slice (some a) (N + 7) cap) (l.take (N + 7))) := fun W hW =>
          ((HAT.out.take (N + 7)).bis (by rw [List.length_take]; have := HAB.out.2; omega) q2 (by unfold maxLen; omega)).below hW
        have hl2 : ((l.drop 3).take N).length ≤ 16384 := by rw [List.length_take]; have := HAB.out.1; omega
        have HRW := Lib.hid (fun W hW => rwrap_any (HSUB.out W hW) hl2)
        have r1 : IntKind.i64.wrap (3 + (N : Int)) = 3 + (N : Int) := IntWalk.i64_in _ (by omega)
        have r2 : IntKind.i64.wrap ((N : Int) + 7) = (N : Int) + 7 := IntWalk.i64_in _ (by omega)
        have r3 : 3 + (N : Int) ≤ (cap : Int) := by omega
        have r4 : (N : Int) + 7 ≤ (cap : Int) := by omega
        have r5 : (0 : Int) ≤ (N : Int) := by omega
        have r6 : (3 + (N : Int)).toNat = N + 3 := by omega
        have r7 : ((N : Int) + 7).toNat = N + 7 := by omega
        have r8 : ¬ cap = 3 := by omega
        have c0 := bis_string (HTOP.out w.drew (below_drew (Below.refl _ _)))
        have c1 := bis_string (HTOP.out w.drew.drew (below_drew (below_drew (Below.refl _ _))))
        have r9 : (0 : Int) ≤ 3 + (N : Int) := by omega
        have r10 : 3 + (N : Int) ≤ (l.length : Int) := by have := HAB.out.2; omega
        have r11 : (0 : Int) ≤ (N : Int) + 7 := by omega
        have r12 : (N : Int) + 7 ≤ (l.length : Int) := by have := HAB.out.2; omega
        have r13 : (3 : Int) ≤ 3 + (N : Int) := by omega
        clear hl2
        by_cases hC : frameB ((l.drop 3).take N) = l.take (N + 7)
        · have hB : (frameB ((l.drop 3).take N) == l.take (N + 7)) = true := beq_iff_eq.2 hC
          have HC := Lib.hid hC
          clear hC
          go_region_held (fun w' => (convert 54 9 (.slice (some a) (N + 7) cap)).run Tryz.prog w' = .ok (.string ⟨(l.take (N + 7)).toArray⟩) w') (first | exact c0 | exact c1 | assumption)
            (first | (go_at_call 131; refine (HRW.out _ (below_drew (below_drew (Below.refl _ _)))).mono ?_; rintro e wx ⟨x, rfl, hO, hb⟩; have hbx := (below_drew (below_drew (Below.refl w.heap.size w))).trans hb; have c2 := bis_string (HTOP.out wx hbx); have c3 := bis_string hO.bis))
          go_wp2_with fail
          go_ret2
          have e : firstP l = N + 7 := (HIFF.out N rfl HAB.out.1 HAB.out.2).1 HC.out
          refine ⟨_, by rw [e]; rfl, fun h => by omega, fun _ => ?_, ?_⟩
          · unfold bodyP
            rw [HNN.out]
            refine ⟨HSUB.out _ (by assumption), fun a' n' c' e => ?_⟩
            injection e with e _ _
            injection e with e
            subst e
            rfl
          · assumption
        · have hB : (frameB ((l.drop 3).take N) == l.take (N + 7)) = false := beq_eq_false_iff_ne.2 hC
          have HC := Lib.hid hC
          clear hC
          go_region_held (fun w' => (convert 54 9 (.slice (some a) (N + 7) cap)).run Tryz.prog w' = .ok (.string ⟨(l.take (N + 7)).toArray⟩) w') (first | exact c0 | exact c1 | assumption)
            (first | (go_at_call 131; refine (HRW.out _ (below_drew (below_drew (Below.refl _ _)))).mono ?_; rintro e wx ⟨x, rfl, hO, hb⟩; have hbx := (below_drew (below_drew (Below.refl w.heap.size w))).trans hb; have c2 := bis_string (HTOP.out wx hbx); have c3 := bis_string hO.bis))
          go_wp2_with fail
          go_ret2
          exact peelIs_no ((HIFF.out N rfl HAB.out.1 HAB.out.2).2 HC.out) (by assumption)
end Go.Proofs.YtmbonngjkgcijaaGreatDoor

namespace Go.Proofs.YtmbonngjkgcijaaGreatDoor
open Go.RowKit Go.Shelf

def encB (m : MsgV) : List UInt8 := if mayM m = true then encM m else []
theorem Enc_any {w : World} {v : Value} {m : MsgV} (hG : Glob w) (hMv : Mov w) (h : MsgIs w v m) (hi : MsgIn m) :
    Calls Tryz.prog 99 #[v] w fun e w' => ∃ v', e = .returned v' ∧ OwnBy w' w.heap.size v' (encB m) ∧ Below w.heap.size w w' := by
  unfold encB
  by_cases hm : mayM m = true
  · rw [if_pos hm]; exact Encode_yes hG hMv h hm hi
  · rw [if_neg hm]
    exact (Encode_not hG h (by simpa using hm)).mono fun e w' ⟨he, hb⟩ => ⟨_, he, .inl ⟨rfl, rfl⟩, hb⟩
theorem rEnc_any {w : World} {v : Value} {m : MsgV} (h : MsgIs w v m) (hi : MsgIn m) (hti : m.ti ≤ 9223372036854775807) :
    Calls Tryz.prog 95 #[v] w fun e w' => ∃ v', e = .returned v' ∧ OwnBy w' w.heap.size v' (encB m) ∧ Below w.heap.size w w' := by
  unfold encB
  by_cases hm : mayM m = true
  · rw [if_pos hm]; exact rEncode_yes h hm hi
  · rw [if_neg hm]
    exact (rEncode_not h hti (by simpa using hm)).mono fun e w' ⟨he, hb⟩ => ⟨_, he, .inl ⟨rfl, rfl⟩, hb⟩
end Go.Proofs.YtmbonngjkgcijaaGreatDoor
