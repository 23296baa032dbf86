/- The document's own reader of messages: small; frames; what stays of a reader. The document's own Decode of operations. (genmeib.py wrote it.) -/
import Derived.Test.YtfaaeacgmlklhaaGreatDoorZMehE
import Derived.Test.YtfaaeacgmlklhaaGreatDoorZOmfA
import Derived.Test.YtfaaeacgmlklhaaGreatDoorZMeeC
import Derived.Test.YtfaaeacgmlklhaaGreatDoorZMehA
set_option linter.unusedSimpArgs false
set_option linter.unusedVariables false
set_option linter.unnecessarySimpa false
namespace Go.Proofs.YtfaaeacgmlklhaaGreatDoor
open Go.RowKit Go.Shelf

theorem RfS.cell2 {w : World} {g : Nat} {A : Option Addr} {cap : Nat} {bs : List UInt8} {st : Option Nat} (h : RfS w g A cap bs st) : ∃ e : Int, w.cell? ⟨g, 2, none⟩ = some (.int .i64 e) ∧ (e == 0) = st.isSome := by
  cases st with
  | none =>
    obtain ⟨p, e, bad, h1, h2⟩ := h
    exact ⟨e, cell_of h2.blk 2, by simpa using h1⟩
  | some p =>
    obtain ⟨bad, h2⟩ := h
    exact ⟨0, cell_of h2.blk 2, rfl⟩
theorem RfS.adr {w : World} {g : Nat} {A : Option Addr} {cap : Nat} {bs : List UInt8} {st : Option Nat} (h : RfS w g A cap bs st) : ∀ a, A = some a → bs ≠ [] → a.block < w.heap.size := by
  have key : ∀ {p e bad}, RfAt w g A cap bs p e bad → ∀ a, A = some a → bs ≠ [] → a.block < w.heap.size := fun {p e bad} h a ha hb => by
    have h0 : 0 < bs.length := List.length_pos_iff.2 hb
    obtain ⟨a', h1, h2, _⟩ := h.byt 0 _ (List.getElem?_eq_getElem h0)
    rw [h1] at ha
    cases ha
    exact h2
  cases st with
  | none =>
    obtain ⟨p, e, bad, h1, h2⟩ := h
    exact key h2
  | some p =>
    obtain ⟨bad, h2⟩ := h
    exact key h2
set_option maxRecDepth 100000 in
set_option maxHeartbeats 1000000 in
theorem rsmall_u {w : World} {g : Nat} {A : Option Addr} {cap : Nat} {bs : List UInt8} {st : Option Nat} (h : RfS w g A cap bs st) :
    Calls Tryz.prog 50 #[.pointer (some ⟨g, 0, none⟩)] w fun e w' => e = .returned (.int .i64 (cutR (natS bs st).1)) ∧ RfS w' g A cap bs (natS bs st).2 ∧ Only g w w' := by
  have HN := Lib.hid (rnat_u h)
  obtain ⟨n, s1, hn⟩ : ∃ n s, natS bs st = (n, s) := ⟨_, _, rfl⟩
  rw [hn] at HN ⊢
  simp only at HN ⊢
  clear h hn
  by_cases hc : 1073741824 < n
  · have hcI : (1073741824 : Int) < (n : Int) := by omega
    have HE : Hid (cutR n = 1073741824) := Lib.hid (by unfold cutR; omega)
    go_enter Tryz.func50, Tryz.ntmps50
    go_wp2_with fail
    refine (HN.out).mono ?_
    rintro e w1 ⟨rfl, h1, h2⟩
    have H := Lib.hid (And.intro h1 h2)
    clear h1 h2
    go_wp2_with fail
    go_ret
    exact ⟨by rw [HE.out]; rfl, H.out.1, H.out.2⟩
  · have hcI : ¬ (1073741824 : Int) < (n : Int) := by omega
    have HE : Hid (cutR n = (n : Int)) := Lib.hid (by unfold cutR; omega)
    have hw : IntKind.i64.wrap (n : Int) = (n : Int) := by rw [IntWalk.i64_in _ (by omega)]
    go_enter Tryz.func50, Tryz.ntmps50
    go_wp2_with fail
    refine (HN.out).mono ?_
    rintro e w1 ⟨rfl, h1, h2⟩
    have H := Lib.hid (And.intro h1 h2)
    clear h1 h2
    go_wp2_with fail
    go_ret
    exact ⟨by rw [HE.out]; rfl, H.out.1, H.out.2⟩
set_option maxRecDepth 100000 in
set_option maxHeartbeats 1000000 in
theorem framed_any {w : World} {v : Value} {l : List UInt8} (h : BIs w v l) (hl : l.length ≤ 16384) :
    Calls Tryz.prog 15 #[v] w fun e w' => ∃ x, e = .returned x ∧ OwnBy w' w.heap.size x (frameB l) ∧ Below w.heap.size w w' := by
  have HW := Lib.hid (rwrap_any h hl)
  obtain ⟨A, cap, rfl, _⟩ := h
  clear hl
  go_enter Tryz.func15, Tryz.ntmps15
  go_wp2_with fail
  refine (HW.out).mono ?_
  rintro e w1 ⟨x, rfl, h1, h2⟩
  have H := Lib.hid (And.intro h1 h2)
  obtain ⟨A1, c1, rfl⟩ := h1.len
  clear h1 h2
  go_wp2_with fail
  go_ret
  exact ⟨_, rfl, H.out.1, H.out.2⟩
end Go.Proofs.YtfaaeacgmlklhaaGreatDoor

namespace Go.Proofs.YtfaaeacgmlklhaaGreatDoor
open Go.RowKit Go.Shelf

/-- What the document's own Decode says behind its first loop. -/
theorem decOR_fin {bs : List UInt8} {n : Nat} {s1 st : Option Nat} {l : List OpV} (h : natS bs (some 0) = (n, s1)) (ho : opsR bs (min n 65) [] s1 = some (l, st)) : decOR bs = if st = some bs.length ∧ n ≤ 64 ∧ l.all mayO = true then some l else none := by
  unfold decOR
  rw [h]
  simp only
  rw [ho]
theorem decOR_out {bs : List UInt8} {n : Nat} {s1 : Option Nat} (h : natS bs (some 0) = (n, s1)) (ho : opsR bs (min n 65) [] s1 = none) : decOR bs = none := by
  unfold decOR
  rw [h]
  simp only
  rw [ho]
theorem opsR_no {bs : List UInt8} {k q : Nat} {l : List OpV} (h : 1000 < (natS bs (some q)).1) : opsR bs (k + 1) l (some q) = none := by
  unfold opsR
  rw [if_pos h]
theorem opsR_go {bs : List UInt8} {k q : Nat} {l : List OpV} (h : ¬ 1000 < (natS bs (some q)).1) : opsR bs (k + 1) l (some q) = opsR bs k (l ++ [(opS 1000 bs (some q)).1]) (opS 1000 bs (some q)).2 := by
  rw [opsR, if_neg h]
set_option maxRecDepth 100000 in
set_option maxHeartbeats 8000000 in
theorem ropsdec_any {w : World} {v : Value} {bs : List UInt8} (h : BIs w v bs) :
    Calls Tryz.prog 54 #[v] w (OpsDec w (decOR bs)) := by
  obtain ⟨A, cap, rfl, b1, b2, b3⟩ := h
  have HOF := Lib.hid (rf_of b1 b2 b3)
  obtain ⟨n, s1, hn⟩ : ∃ n s, natS bs (some 0) = (n, s) := ⟨_, _, rfl⟩
  have HN1 := Lib.hid hn
  clear b1 b2 b3 hn
  go_enter Tryz.func54, Tryz.ntmps54
  go_wp2_with fail
  refine (HOF.out).mono ?_
  rintro e w1 ⟨g, rfl, hgn, hR, hb1⟩
  have HN := Lib.hid (rnat_u hR)
  rw [HN1.out] at HN
  simp only at HN
  have HB1 := Lib.hid hb1
  have HGN := Lib.hid hgn
  have HGL := Lib.hid hR.lt
  have HR1 := Lib.hid hR
  have HA1 := Lib.hid hR.adr
  clear hgn hR hb1 HOF
  go_wp2_with fail
  refine (HN.out).mono ?_
  rintro e w2 ⟨rfl, hR2, hO2⟩
  have HR2 := Lib.hid hR2
  have HB2 := Lib.hid (HB1.out.trans (hO2.touch.below (fun i e => by rw [e]; exact HGN.out) HB1.out.size))
  have HS2 := Lib.hid hO2.size
  clear hR2 hO2 HN
  go_upto_block 0 with fail
  go_cut [6] from 7 to 51 (fun bv wx => ∃ (l : List OpV) (st : Option Nat) (Al : Option Addr) (cl : Nat), bv = .slice Al l.length cl ∧ KeysIn l ∧ RowN wx w1.heap.size 4 bv l.length (opC l) ∧ RfS wx g A cap bs st ∧ Below w.heap.size w wx ∧ w1.heap.size ≤ wx.heap.size ∧ opsR bs (min n 65) [] s1 = some (l, st))
  case first =>
    go_wp2_with fail
    go_loopw [6, 7] (fun bv iv wr => ∃ (i : Nat) (l : List OpV) (st : Option Nat), i ≤ min n 65 ∧ iv = .int .u64 i ∧ l.length = i ∧ KeysIn l ∧ RowN wr w1.heap.size 4 bv i (opC l) ∧ RfS wr g A cap bs st ∧ Below w.heap.size w wr ∧ w1.heap.size ≤ wr.heap.size ∧ opsR bs (min n 65) [] s1 = opsR bs (min n 65 - i) l st) (fun _ iv _ => 65 - (intOf iv).toNat)
    case atStart => exact ⟨0, [], s1, Nat.zero_le _, rfl, rfl, (fun o h => by cases h), ⟨RowIs.nil _ _, (fun b e => by cases e), fun _ => rfl⟩, HR2.out, HB2.out, HS2.out, rfl⟩
    case round =>
      obtain ⟨i, l, st, hi, rfl, hli, hkl, hrow, hR, hbw, hsz, hcont⟩ := hrel
      obtain ⟨E, hE, hE0⟩ := hR.cell2
      by_cases hlt : i < min n 65
      · have q1 : (i : Int) < (n : Int) := by omega
        have q2 : (i : Int) < 65 := by omega
        obtain ⟨m0, hm0⟩ : ∃ m0, min n 65 - i = m0 + 1 := ⟨min n 65 - i - 1, by omega⟩
        have HM0 : Hid (min n 65 - (i + 1) = m0) := Lib.hid (by omega)
        rw [hm0] at hcont
        cases st with
        | none =>
          have q3 : (E == 0) = false := hE0
          rw [opsR_none] at hcont
          subst hli
          obtain ⟨Al, cl, rfl, _⟩ := hrow.1.form
          have H := Lib.hid (And.intro hkl (And.intro hrow (And.intro hR (And.intro hbw (And.intro hsz hcont)))))
          clear hkl hrow hR hbw hsz hcont hE0 hm0 hlt hi
          go_wp2_with fail
          go_meet
          exact ⟨l, none, Al, cl, rfl, H.out.1, H.out.2.1, H.out.2.2.1, H.out.2.2.2.1, H.out.2.2.2.2.1, H.out.2.2.2.2.2⟩
        | some q =>
          obtain rfl : E = 0 := by simpa using hE0
          have HNK := Lib.hid (rnat_u hR)
          have hsle := (strS_le : (strS 16 bs (natS bs (some q)).2).1.size ≤ 16)
          have HNO := Lib.hid (fun (h : 1000 < (natS bs (some q)).1) => opsR_no (k := m0) (l := l) h)
          have HGO := Lib.hid (fun (h : ¬ 1000 < (natS bs (some q)).1) => opsR_go (k := m0) (l := l) h)
          unfold opS at HGO
          obtain ⟨k, s2, hk⟩ : ∃ n s, natS bs (some q) = (n, s) := ⟨_, _, rfl⟩
          rw [hk] at HNK HNO HGO hsle
          simp only at HNK HNO HGO hsle
          obtain ⟨ks, s3, hs⟩ : ∃ n s, strS 16 bs s2 = (n, s) := ⟨_, _, rfl⟩
          rw [hs] at HGO hsle
          simp only at HGO hsle
          obtain ⟨x, s4, hx⟩ : ∃ n s, numS bs s3 = (n, s) := ⟨_, _, rfl⟩
          rw [hx] at HGO
          simp only at HGO
          obtain ⟨y, s5, hy⟩ : ∃ n s, numS bs s4 = (n, s) := ⟨_, _, rfl⟩
          rw [hy] at HGO
          simp only at HGO
          have HH := Lib.hid (And.intro hs (And.intro hx hy))
          have HKS := Lib.hid hsle
          have HCONT := Lib.hid hcont
          have HROW := Lib.hid hrow
          have HBW := Lib.hid hbw
          have HSZ := Lib.hid hsz
          have HLI := Lib.hid hli
          have HKL := Lib.hid hkl
          have HLT := Lib.hid hlt
          have HOWN : Hid (∀ (W : World), w1.heap.size ≤ W.heap.size → ∀ b, (Only g wr W → ∀ v, RowN wr w1.heap.size 4 v i (opC l) → v.ownBlock = some b → b ≠ g)) := Lib.hid (fun W _ b _ v hv hb => by have := (hv.2.1 b hb).1; have := HGL.out; omega)
          obtain ⟨Al, cl, rfl, _⟩ := hrow.1.form
          clear hcont hrow hbw hsz hli hkl hlt hR hsle hk hs hx hy hm0 hE0 HOWN
          go_wp2_with fail
          refine (HNK.out).mono ?_
          rintro e w3 ⟨rfl, hR3, hO3⟩
          have hB3 := HBW.out.trans (hO3.touch.below (fun i e => by rw [e]; exact HGN.out) HBW.out.size)
          by_cases hk1 : 1000 < k
          · have hkI : (1000 : Int) < (k : Int) := by omega
            have HF : Hid (decOR bs = none) := Lib.hid (decOR_out HN1.out (by rw [HCONT.out, HNO.out hk1]))
            have HB3 := Lib.hid hB3
            clear hR3 hO3 hE hB3
            go_wp2_with fail
            refine bodyPost_ret (v := .tuple #[.slice none 0 0, .int .i64 6]) (by simp [results, Tryz.results54, go_sem]) rfl ?_
            exact ⟨HB3.out, .inl ⟨HF.out, rfl⟩⟩
          · have hkI : ¬ (1000 : Int) < (k : Int) := by omega
            have hkw : IntKind.i64.wrap (k : Int) = (k : Int) := by rw [IntWalk.i64_in _ (by omega)]
            have HC2 : Hid (opsR bs (min n 65) [] s1 = opsR bs (min n 65 - (i + 1)) (l ++ [⟨(k : Int), ks, x, y⟩]) s5) := Lib.hid (by
              rw [HCONT.out, HM0.out, HGO.out hk1, show min k 1000 = k by omega])
            have hbn := below_new (w := w3) (.cells #[.int .i64 k, .string ⟨#[]⟩, .int .i64 0, .int .i64 0] 73)
            have hat := alloc_at w3 (.cells #[.int .i64 k, .string ⟨#[]⟩, .int .i64 0, .int .i64 0] 73)
            obtain ⟨W4, hW4⟩ : ∃ W, W = w3.alloc (.cells #[.int .i64 k, .string ⟨#[]⟩, .int .i64 0, .int .i64 0] 73) := ⟨_, rfl⟩
            have HW4 := Lib.hid hW4
            rw [← hW4] at hbn hat
            have HR4 := Lib.hid (hR3.below hbn)
            have HAT := Lib.hid hat
            have HB4 := Lib.hid (hB3.trans (hbn.mono hB3.size))
            have HS4 : Hid (w1.heap.size ≤ w3.heap.size ∧ w3.heap.size < W4.heap.size) := Lib.hid ⟨Nat.le_trans HSZ.out hO3.size, heap_lt hat⟩
            have HRW4 : Hid (RowIs W4 4 (.slice Al i cl) i (opC l) ∧ ∀ b, (Value.slice Al i cl).ownBlock = some b → w1.heap.size ≤ b ∧ b < w3.heap.size) := Lib.hid ⟨(HROW.out.1.touch hO3.touch (fun b e hbg => by have := (HROW.out.2.1 b e).1; have := HGL.out; omega)).below hbn, fun b e => ⟨(HROW.out.2.1 b e).1, Nat.lt_of_lt_of_le (HROW.out.1.lt b e) hO3.size⟩⟩
            have HGB : Hid (w3.heap.size ≠ g) := Lib.hid (by have := HS4.out.1; have := HGL.out; omega)
            have HST := Lib.hid (rstr_u (most := 16) (by omega) HR4.out)
            rw [HH.out.1] at HST
            clear hbn hat hW4 hR3 hO3 hE hB3 HNK
            go_wp2_with fail
            rw [← HW4.out]
            refine (HST.out).mono ?_
            rintro e w5 ⟨rfl, hR5, hO5⟩
            have hz := hO5.block' HAT.out HGB.out
            have hsz5 : w1.heap.size ≤ w5.heap.size := Nat.le_trans (Nat.le_of_lt (Nat.lt_of_le_of_lt HS4.out.1 HS4.out.2)) hO5.size
            have hB := HB4.out.trans (hO5.touch.below (fun i e => by rw [e]; exact HGN.out) HB4.out.size)
            have hrw := HRW4.out.1.touch hO5.touch (fun b e hbg => by have := (HRW4.out.2 b e).1; have := HGL.out; omega)
            have c1 := cell_of hz 1
            have f1 := free0 hz 1
            simp at c1
            have hT := (Touch.refl (fun k => k = w3.heap.size) w5).setCell ⟨w3.heap.size, 1, none⟩ (fun _ => rfl) (.string ks)
            have hZ := set_at hz 1 (.string ks)
            obtain ⟨W6, hW6⟩ : ∃ W, W = w5.setCell ⟨w3.heap.size, 1, none⟩ (.string ks) := ⟨_, rfl⟩
            have HW6 := Lib.hid hW6
            rw [← hW6] at hT hZ
            have HZ6 : Hid (W6.heap[w3.heap.size]? = some (.cells #[.int .i64 k, .string ks, .int .i64 0, .int .i64 0] 73 (0, 0))) := Lib.hid hZ
            have hbb := hT.below (B := w1.heap.size) (fun i e => by rw [e]; exact HS4.out.1) hsz5
            have HR6 := Lib.hid (RfS.keepB HR1.out hR5 hbb HA1.out)
            have HB6 := Lib.hid (hB.trans (hbb.mono HB1.out.size))
            have HRW6 := Lib.hid (hrw.touch hT (fun b e hbg => by have := (HRW4.out.2 b e).2; omega))
            have HSS6 : Hid (W4.heap.size ≤ W6.heap.size) := Lib.hid (Nat.le_trans hO5.size hT.size)
            have HNX6 := Lib.hid (rnum_u HR6.out)
            rw [HH.out.2.1] at HNX6
            clear hz hB hrw hT hZ hW6 hbb hR5 hO5 hsz5
            go_wp2_with fail
            rw [← HW6.out]
            clear c1 f1
            refine (HNX6.out).mono ?_
            rintro e w7 ⟨rfl, hR7, hO7⟩
            have hz := hO7.block' HZ6.out HGB.out
            have hsz7 : w1.heap.size ≤ w7.heap.size := Nat.le_trans (Nat.le_of_lt (Nat.lt_of_le_of_lt HS4.out.1 HS4.out.2)) (Nat.le_trans HSS6.out hO7.size)
            have hB := HB6.out.trans (hO7.touch.below (fun i e => by rw [e]; exact HGN.out) HB6.out.size)
            have hrw := HRW6.out.touch hO7.touch (fun b e hbg => by have := (HRW4.out.2 b e).1; have := HGL.out; omega)
            have c2 := cell_of hz 2
            have f2 := free0 hz 2
            simp at c2
            have hT := (Touch.refl (fun k => k = w3.heap.size) w7).setCell ⟨w3.heap.size, 2, none⟩ (fun _ => rfl) (.int .i64 x)
            have hZ := set_at hz 2 (.int .i64 x)
            obtain ⟨W8, hW8⟩ : ∃ W, W = w7.setCell ⟨w3.heap.size, 2, none⟩ (.int .i64 x) := ⟨_, rfl⟩
            have HW8 := Lib.hid hW8
            rw [← hW8] at hT hZ
            have HZ8 : Hid (W8.heap[w3.heap.size]? = some (.cells #[.int .i64 k, .string ks, .int .i64 x, .int .i64 0] 73 (0, 0))) := Lib.hid hZ
            have hbb := hT.below (B := w1.heap.size) (fun i e => by rw [e]; exact HS4.out.1) hsz7
            have HR8 := Lib.hid (RfS.keepB HR1.out hR7 hbb HA1.out)
            have HB8 := Lib.hid (hB.trans (hbb.mono HB1.out.size))
            have HRW8 := Lib.hid (hrw.touch hT (fun b e hbg => by have := (HRW4.out.2 b e).2; omega))
            have HSS8 : Hid (W4.heap.size ≤ W8.heap.size) := Lib.hid (Nat.le_trans (Nat.le_trans HSS6.out hO7.size) hT.size)
            have HNX8 := Lib.hid (rnum_u HR8.out)
            rw [HH.out.2.2] at HNX8
            clear hz hB hrw hT hZ hW8 hbb hR7 hO7 hsz7
            go_wp2_with fail
            rw [← HW8.out]
            clear c2 f2
            refine (HNX8.out).mono ?_
            rintro e w9 ⟨rfl, hR9, hO9⟩
            have hz := hO9.block' HZ8.out HGB.out
            have hsz9 : w1.heap.size ≤ w9.heap.size := Nat.le_trans (Nat.le_of_lt (Nat.lt_of_le_of_lt HS4.out.1 HS4.out.2)) (Nat.le_trans HSS8.out hO9.size)
            have hB := HB8.out.trans (hO9.touch.below (fun i e => by rw [e]; exact HGN.out) HB8.out.size)
            have hrw := HRW8.out.touch hO9.touch (fun b e hbg => by have := (HRW4.out.2 b e).1; have := HGL.out; omega)
            have c3 := cell_of hz 3
            have f3 := free0 hz 3
            simp at c3
            have hT := (Touch.refl (fun k => k = w3.heap.size) w9).setCell ⟨w3.heap.size, 3, none⟩ (fun _ => rfl) (.int .i64 y)
            have hZ := set_at hz 3 (.int .i64 y)
            obtain ⟨W10, hW10⟩ : ∃ W, W = w9.setCell ⟨w3.heap.size, 3, none⟩ (.int .i64 y) := ⟨_, rfl⟩
            have HW10 := Lib.hid hW10
            rw [← hW10] at hT hZ
            have HZ10 : Hid (W10.heap[w3.heap.size]? = some (.cells #[.int .i64 k, .string ks, .int .i64 x, .int .i64 y] 73 (0, 0))) := Lib.hid hZ
            have hbb := hT.below (B := w1.heap.size) (fun i e => by rw [e]; exact HS4.out.1) hsz9
            have HR10 := Lib.hid (RfS.keepB HR1.out hR9 hbb HA1.out)
            have HB10 := Lib.hid (hB.trans (hbb.mono HB1.out.size))
            have HRW10 := Lib.hid (hrw.touch hT (fun b e hbg => by have := (HRW4.out.2 b e).2; omega))
            have HSS10 : Hid (W4.heap.size ≤ W10.heap.size) := Lib.hid (Nat.le_trans (Nat.le_trans HSS8.out hO9.size) hT.size)
            clear hz hB hrw hT hZ hW10 hbb hR9 hO9 hsz9
            go_upto_region 14 with fail
            rw [← HW10.out]
            clear c3 f3
            have HS10 : Hid (w1.heap.size ≤ W10.heap.size) := Lib.hid (by have := HS4.out; have := HSS10.out; omega)
            have hat := HZ10.out
            have j0 := cell_of hat 0
            have j1 := cell_of hat 1
            have j2 := cell_of hat 2
            have j3 := cell_of hat 3
            simp at j0 j1 j2 j3
            have hbn := below_new (w := W10) (.cells #[.int .i64 k, .string ks, .int .i64 x, .int .i64 y] 73)
            have hat2 := alloc_at W10 (.cells #[.int .i64 k, .string ks, .int .i64 x, .int .i64 y] 73)
            have HSRC := Lib.hid (src_op (o := ⟨k, ks, x, y⟩) hat2)
            have HB11 := Lib.hid (HB10.out.trans (hbn.mono HB10.out.size))
            have HR11 := Lib.hid (HR10.out.below hbn)
            have HRW11 := Lib.hid (HRW10.out.below hbn)
            have HZS : Hid (w1.heap.size ≤ (W10.alloc (.cells #[.int .i64 k, .string ks, .int .i64 x, .int .i64 y] 73)).heap.size) := Lib.hid (Nat.le_trans HS10.out hbn.size)
            clear hat hbn hat2
            go_wp2_with (at_builtin; refine wpList_append_row _ _ Tryz.underlying24 infoO rfl (by decide) (by decide) _ rfl _ _ 24 rfl i 1 (opC l) [.int .i64 k, .string ks, .int .i64 x, .int .i64 y] _ _ rfl rfl HRW11.out HSRC.out ?_ ?_)
            all_goals first | omega | skip
            intro v' w' hr5 hg5 hb5
            have HNEW : Hid (RowN w' w1.heap.size 4 v' (i + 1) (opC (l ++ [⟨k, ks, x, y⟩])) ∧ RfS w' g A cap bs s5 ∧ Below w.heap.size w w' ∧ w1.heap.size ≤ w'.heap.size ∧ (l ++ [(⟨k, ks, x, y⟩ : OpV)]).length = i + 1 ∧ KeysIn (l ++ [⟨k, ks, x, y⟩])) := Lib.hid (by
              rw [← opC_snoc l ⟨k, ks, x, y⟩] at hr5
              have ht := (Touch.refl (fun k => (Value.slice Al i cl).ownBlock = some k) (W10.alloc (.cells #[.int .i64 k, .string ks, .int .i64 x, .int .i64 y] 73))).grown hg5 (fun k e _ => e)
              have hbb := ht.below (B := w1.heap.size) (fun b e => (HRW4.out.2 b e).1) HZS.out
              have HRN : RowN (W10.alloc (.cells #[.int .i64 k, .string ks, .int .i64 x, .int .i64 y] 73)) w1.heap.size 4 (.slice Al i cl) i (opC l) := ⟨HRW11.out, HROW.out.2⟩
              refine ⟨HRN.grown HZS.out hr5 (by rw [asz]; exact hb5) (opC_first (by simp)), RfS.keepB HR1.out HR11.out hbb HA1.out, HB11.out.trans (hbb.mono HB1.out.size |>.mono (Nat.le_refl _)), Nat.le_trans HZS.out hbb.size, by rw [List.length_append, HLI.out]; rfl, fun o ho => ?_⟩
              rcases List.mem_append.1 ho with h | h
              · exact HKL.out o h
              · obtain rfl := List.mem_singleton.1 h
                have := HKS.out
                simp only
                omega)
            clear hr5 hg5 hb5 j0 j1 j2 j3
            go_wp2_with fail
            go_roundw
            case rel => exact ⟨i + 1, _, s5, HLT.out, by go_num, HNEW.out.2.2.2.2.1, HNEW.out.2.2.2.2.2, HNEW.out.1, HNEW.out.2.1, HNEW.out.2.2.1, HNEW.out.2.2.2.1, HC2.out⟩
            case measure => have := HLT.out; simp [intOf]; omega
      · rw [show min n 65 - i = 0 by omega] at hcont
        subst hli
        obtain ⟨Al, cl, rfl, _⟩ := hrow.1.form
        have H := Lib.hid (And.intro hkl (And.intro hrow (And.intro hR (And.intro hbw (And.intro hsz hcont)))))
        have hcs : ((l.length : Int) < (n : Int) ∧ ¬ (l.length : Int) < 65) ∨ ¬ (l.length : Int) < (n : Int) := by omega
        clear hkl hrow hR hbw hsz hcont hE0 hlt hi hE
        rcases hcs with ⟨q1, q2⟩ | q1
        · go_wp2_with fail
          go_meet
          exact ⟨l, st, Al, cl, rfl, H.out.1, H.out.2.1, H.out.2.2.1, H.out.2.2.2.1, H.out.2.2.2.2.1, H.out.2.2.2.2.2⟩
        · go_wp2_with fail
          go_meet
          exact ⟨l, st, Al, cl, rfl, H.out.1, H.out.2.1, H.out.2.2.1, H.out.2.2.2.1, H.out.2.2.2.2.1, H.out.2.2.2.2.2⟩
  case rest =>
    obtain ⟨l, st, Al, cl, rfl, hkl, hrow, hR, hbw, hsz, hops⟩ := hcut
    have HEN := Lib.hid (rend_u hR)
    have HD := Lib.hid (decOR_fin HN1.out hops)
    have HROW := Lib.hid hrow
    have HBW := Lib.hid hbw
    have HSZ := Lib.hid hsz
    have HKL := Lib.hid hkl
    clear hkl hrow hR hbw hsz hops
    go_wp2_with fail
    refine (HEN.out).mono ?_
    rintro e w3 ⟨x, rfl, hx, hO3⟩
    have HB3 := Lib.hid (HBW.out.trans (hO3.touch.below (fun i e => by rw [e]; exact HGN.out) HBW.out.size))
    have HRW3 : Hid (RowN w3 w1.heap.size 4 (.slice Al l.length cl) l.length (opC l)) := Lib.hid ⟨HROW.out.1.touch hO3.touch (fun b e hbg => by have := (HROW.out.2.1 b e).1; have := HGL.out; omega), HROW.out.2⟩
    by_cases he : st = some bs.length
    · obtain rfl : x = 0 := by simpa [he] using hx
      by_cases h64 : n ≤ 64
      · have h64I : ¬ (64 : Int) < (n : Int) := by omega
        have HD2 : Hid (decOR bs = if l.all mayO = true then some l else none) := Lib.hid (by rw [HD.out]; simp [he, h64])
        have HOA := Lib.hid (HRW3.out.1.ops rfl).form
        obtain ⟨L, hL⟩ : ∃ L, l.length = L := ⟨_, rfl⟩
        have HL := Lib.hid hL
        have hLI : (0 : Int) ≤ (L : Int) := by omega
        have HLW : Hid (RowN w3 w.heap.size 4 (.slice Al l.length cl) l.length (opC l)) := Lib.hid ⟨HRW3.out.1, fun b e => ⟨Nat.le_trans HB1.out.size (HRW3.out.2.1 b e).1, (HRW3.out.2.1 b e).2⟩, HRW3.out.2.2⟩
        have hLm : L ≤ 9223372036854775807 := by
          obtain ⟨_, _, _, h1, h2, _⟩ := HOA.out
          unfold maxLen at h2
          omega
        rw [hL] at HLW HOA ⊢
        clear hx hO3 hL
        go_wp2_with fail
        go_loopw [61] (fun iv wr => ∃ (i : Nat), i ≤ L ∧ iv = .int .i64 i ∧ (l.take i).all mayO = true ∧ Below w3.heap.size w3 wr) (fun iv _ => L - (intOf iv).toNat)
        case atStart => exact ⟨0, Nat.zero_le _, rfl, rfl, Below.refl _ _⟩
        case round =>
          obtain ⟨i, hi, rfl, hall, hbr⟩ := hrel
          by_cases hlt : i < L
          · obtain ⟨o, hoi⟩ : ∃ o, l[i]? = some o := ⟨_, List.getElem?_eq_getElem (by rw [HL.out]; exact hlt)⟩
            obtain ⟨A9, c9, e9, _, _, hcell⟩ := HOA.out
            injection e9 with e91 e92 e93
            subst e91 e93
            obtain ⟨a, rfl, p1, k0, k1, k2, k3⟩ := hcell i o hoi
            have hblk : (a.add (i * 4)).block < w3.heap.size := by rw [add_block]; exact p1
            replace k0 := (hbr.cell hblk).trans k0
            replace k1 := (hbr.cell (p := ⟨(a.add (i * 4)).block, (a.add (i * 4)).off + 1, none⟩) hblk).trans k1
            replace k2 := (hbr.cell (p := ⟨(a.add (i * 4)).block, (a.add (i * 4)).off + 2, none⟩) hblk).trans k2
            replace k3 := (hbr.cell (p := ⟨(a.add (i * 4)).block, (a.add (i * 4)).off + 3, none⟩) hblk).trans k3
            have hko := HKL.out o (List.mem_of_getElem? hoi)
            obtain ⟨mb, hmb⟩ : ∃ b, mayO o = b := ⟨_, rfl⟩
            have HTK : Hid (mb = true → (l.take (i + 1)).all mayO = true) := Lib.hid (fun h => by
              rw [List.take_add_one, hoi]
              simp [hall, hmb, h])
            have HNO : Hid (mb = false → decOR bs = none) := Lib.hid (fun h => by
              rw [HD2.out, if_neg]
              intro hc
              have := List.all_eq_true.1 hc o (List.mem_of_getElem? hoi)
              rw [hmb, h] at this
              cases this)
            obtain ⟨kd, s, nn, lo⟩ := o
            have HMY := Lib.hid (fun W => ropmay_any kd s nn lo W hko)
            rw [hmb] at HMY
            simp only at k0 k1 k2 k3
            have HLT := Lib.hid hlt
            have hb4 := below_new (w := wr) (.cells #[.int .i64 kd, .string s, .int .i64 nn, .int .i64 lo] 73)
            have HBR := Lib.hid (hbr.trans (hb4.mono hbr.size))
            have hiI : (i : Int) < (L : Int) := by omega
            clear hoi hcell p1 hblk hko hmb hall hbr hlt hi hb4 e92
            go_wp2_with fail
            refine (HMY.out _).mono ?_
            rintro e w5 ⟨rfl, hb5⟩
            have HB5 := Lib.hid (HBR.out.trans (hb5.mono HBR.out.size))
            clear hb5 k0 k1 k2 k3
            cases mb with
            | false =>
              go_wp2_with fail
              refine bodyPost_ret (v := .tuple #[.slice none 0 0, .int .i64 6]) (by simp [results, Tryz.results54, go_sem]) rfl ?_
              exact ⟨HB3.out.trans (HB5.out.mono HB3.out.size), .inl ⟨HNO.out (by simp), rfl⟩⟩
            | true =>
              go_wp2_with fail
              go_roundw
              case rel => exact ⟨i + 1, HLT.out, by go_num, HTK.out (by simp), HB5.out⟩
              case measure => have := HLT.out; simp [intOf]; omega
          · obtain rfl : i = L := by omega
            rw [List.take_of_length_le (by rw [HL.out]; omega)] at hall
            have HF : Hid (decOR bs = some l) := Lib.hid (by rw [HD2.out, if_pos hall])
            have HBR := Lib.hid hbr
            have hiI : ¬ (i : Int) < (i : Int) := by omega
            clear hall hbr hlt hi
            go_wp2_with fail
            refine bodyPost_ret (v := .tuple #[.slice Al i cl, .int .i64 0]) (by simp [results, Tryz.results54, go_sem]) rfl ?_
            have hL := HL.out
            subst hL
            exact ⟨HB3.out.trans (HBR.out.mono HB3.out.size), .inr ⟨l, Al, cl, HF.out, rfl, ⟨HLW.out.1.below HBR.out, HLW.out.2⟩, HKL.out⟩⟩
      · have h64I : (64 : Int) < (n : Int) := by omega
        have HF : Hid (decOR bs = none) := Lib.hid (by rw [HD.out, if_neg]; intro h; exact h64 h.2.1)
        clear hx hO3
        go_wp2_with fail
        refine bodyPost_ret (v := .tuple #[.slice none 0 0, .int .i64 6]) (by simp [results, Tryz.results54, go_sem]) rfl ?_
        exact ⟨HB3.out, .inl ⟨HF.out, rfl⟩⟩
    · have hx0 : (x == 0) = false := by simpa [he] using hx
      have hx1 : ¬ x = 0 := by simpa using hx0
      have hx2 : (x != 0) = true := by simpa using hx1
      have HF : Hid (decOR bs = none) := Lib.hid (by rw [HD.out, if_neg]; intro h; exact he h.1)
      clear hx hO3
      go_wp2_with fail
      refine bodyPost_ret (v := .tuple #[.slice none 0 0, .int .i64 6]) (by simp [results, Tryz.results54, go_sem]) rfl ?_
      exact ⟨HB3.out, .inl ⟨HF.out, rfl⟩⟩
end Go.Proofs.YtfaaeacgmlklhaaGreatDoor
