/- crc.word, crc.first. -/
import Derived.Test.YtfddlhcdlgdofaaGreatDoorZCrcA
import Derived.Deep.QuietTactic
import Derived.Deep.Draws
import Derived.BigQuiet
import Derived.IntWalk
import Derived.Deep.RegionHeld3
import Derived.Deep.DeepCutAuto
import Derived.Deep.RegionWith
set_option linter.unusedSimpArgs false
set_option linter.unusedVariables false
set_option linter.unnecessarySimpa false
namespace Go.Proofs.YtfddlhcdlgdofaaGreatDoor
open Go.RowKit

set_option maxRecDepth 100000 in
theorem or_be4 (x0 x1 x2 x3 : UInt8) (b0 : (x0.toNat : Int) < 256) (b1 : (x1.toNat : Int) < 256) (b2 : (x2.toNat : Int) < 256) (b3 : (x3.toNat : Int) < 256) :
    bits .or .u32 (bits .or .u32 (bits .or .u32 ((x0.toNat : Int) * 16777216) ((x1.toNat : Int) * 65536)) ((x2.toNat : Int) * 256)) (x3.toNat : Int) = (be4N x0 x1 x2 x3 : Nat) := by
  rw [show (x0.toNat : Int) * 16777216 = ((x0.toNat * 16777216 : Nat) : Int) from by omega, show (x1.toNat : Int) * 65536 = ((x1.toNat * 65536 : Nat) : Int) from by omega, show (x2.toNat : Int) * 256 = ((x2.toNat * 256 : Nat) : Int) from by omega,
    u32_or_nat _ _ (by omega) (by omega), nat_join 24 _ _ (by omega) (by omega), u32_or_nat _ _ (by omega) (by omega), nat_join 16 _ _ (by omega) (by omega), u32_or_nat _ _ (by omega) (by omega), nat_join 8 _ _ (by omega) (by omega)]
  unfold be4N
  congr 1
  omega

set_option maxRecDepth 100000 in
set_option maxHeartbeats 1000000 in
theorem word_any {w : World} {a : Addr} {n cap : Nat} {x0 x1 x2 x3 : UInt8} (hn : 4 ≤ n) (hc : n ≤ cap) (hm : cap ≤ 9223372036854775807) (h0 : w.cell? a = some (.int .u8 (x0.toNat : Int))) (h1 : w.cell? ⟨a.block, a.off + 1, none⟩ = some (.int .u8 (x1.toNat : Int)))
    (h2 : w.cell? ⟨a.block, a.off + 2, none⟩ = some (.int .u8 (x2.toNat : Int))) (h3 : w.cell? ⟨a.block, a.off + 3, none⟩ = some (.int .u8 (x3.toNat : Int))) :
    Calls Tryz.prog 149 #[.slice (some a) n cap] w fun e w' => e = .returned (.int .u32 (be4N x0 x1 x2 x3 : Nat)) ∧ ∃ k, w' = w.drewN k := by
  have b0 : (x0.toNat : Int) < 256 := by have := UInt8.toNat_lt x0; omega
  have b1 : (x1.toNat : Int) < 256 := by have := UInt8.toNat_lt x1; omega
  have b2 : (x2.toNat : Int) < 256 := by have := UInt8.toNat_lt x2; omega
  have b3 : (x3.toNat : Int) < 256 := by have := UInt8.toNat_lt x3; omega
  have n1 : 0 < n := by omega
  have n2 : 1 < n := by omega
  have n3 : 2 < n := by omega
  have n4 : 3 < n := by omega
  go_enter Tryz.func149, Tryz.ntmps149
  go_wp2_with fail
  go_region
  go_wp2
  go_ret
  refine ⟨?_, 1, rfl⟩
  rw [or_be4 _ _ _ _ b0 b1 b2 b3]
  rfl

theorem i64_or_nat (a b : Nat) (ha : a < 4294967296) (hb : b < 4294967296) : bits .or .i64 (a : Int) (b : Int) = ((a ||| b : Nat) : Int) := by
  have hx : a ||| b < 2 ^ 32 := Nat.or_lt_two_pow (by omega) (by omega)
  show IntKind.i64.wrap ((BitVec.ofInt 64 (a : Int) ||| BitVec.ofInt 64 (b : Int)).toNat : Int) = _
  rw [BitVec.toNat_or, ofInt_u64 a (by omega), ofInt_u64 b (by omega)]
  exact IntWalk.i64_in _ (by omega)
set_option maxRecDepth 100000 in
set_option maxHeartbeats 4000000 in
theorem first_any {w : World} {v : Value} {l : List UInt8} (hM : Mov w) (h : BIs w v l) :
    Calls Tryz.prog 100 #[v] w fun e w' => e = .returned (.int .i64 (firstP l : Nat)) ∧ Below w.heap.size w w' := by
  obtain ⟨A, cap, rfl, h1, h2, h3⟩ := h
  unfold maxLen at h2
  have h2' : cap ≤ 9223372036854775807 := by omega
  by_cases h7 : l.length < 7
  · have e : firstP l = 0 := by unfold firstP; rw [if_pos (.inl h7)]
    rw [e]
    clear h3
    have h7' : (l.length : Int) < 7 := by omega
    go_enter Tryz.func100, Tryz.ntmps100
    go_wp2_with fail
    go_ret
    exact ⟨rfl, Below.refl _ _⟩
  · obtain ⟨a, rfl, hab, hc0⟩ := h3 0 (l[0]'(by omega)) (List.getElem?_eq_getElem (by omega))
    have hc1 : w.cell? ⟨a.block, a.off + 1, none⟩ = some (.int .u8 ((l[1]'(by omega)).toNat : Int)) := by
      obtain ⟨a', e, _, hc⟩ := h3 1 (l[1]'(by omega)) (List.getElem?_eq_getElem (by omega))
      cases e; exact hc
    have hc2 : w.cell? ⟨a.block, a.off + 2, none⟩ = some (.int .u8 ((l[2]'(by omega)).toNat : Int)) := by
      obtain ⟨a', e, _, hc⟩ := h3 2 (l[2]'(by omega)) (List.getElem?_eq_getElem (by omega))
      cases e; exact hc
    have hc0 : w.cell? a = some (.int .u8 ((l[0]'(by omega)).toNat : Int)) := hc0
    have e0 : atN l 0 = (l[0]'(by omega)).toNat := by unfold atN; rw [List.getElem?_eq_getElem (by omega)]; rfl
    have e1 : atN l 1 = (l[1]'(by omega)).toNat := by unfold atN; rw [List.getElem?_eq_getElem (by omega)]; rfl
    have e2 : atN l 2 = (l[2]'(by omega)).toNat := by unfold atN; rw [List.getElem?_eq_getElem (by omega)]; rfl
    rw [← e0] at hc0
    rw [← e1] at hc1
    rw [← e2] at hc2
    clear e0 e1 e2
    have h7' : ¬ (l.length : Int) < 7 := by omega
    have l1 : 1 < l.length := by omega
    have l2 : 2 < l.length := by omega
    by_cases hb : atN l 0 = 167
    · rw [hb] at hc0
      have hsz : szP l = atN l 1 * 256 + atN l 2 := rfl
      have a1 := atN_lt l 1
      have a2 := atN_lt l 2
      have hor : bits .or .i64 ((atN l 1 : Int) * 256) (atN l 2 : Int) = (szP l : Int) := by
        rw [show (atN l 1 : Int) * 256 = ((atN l 1 * 256 : Nat) : Int) from by omega, i64_or_nat _ _ (by omega) (by omega), nat_join 8 _ _ (by omega) (by omega)]
        rfl
      have hP : Hid (firstP l = if 16384 < szP l ∨ l.length < szP l + 7 ∨ sumB (l.take (szP l + 3)) ≠ wordP l (szP l + 3) then 0 else szP l + 7) := by
        show _ = _
        unfold firstP
        rw [if_neg (by omega)]
      have hN65 := szP_lt l
      generalize hNN : szP l = N at *
      have HNN := Lib.hid hNN
      generalize atN l 1 = y1 at *
      generalize atN l 2 = y2 at *
      have y1' : (y1 : Int) < 256 := by omega
      have y2' : (y2 : Int) < 256 := by omega
      have hN' : (N : Int) < 65536 := by omega
      clear hsz hb hNN
      have HM := Lib.hid hM
      have H3 := Lib.hid h3
      clear hM h3
      go_enter Tryz.func100, Tryz.ntmps100
      go_wp2_with fail
      go_region
      by_cases hA : (16384 : Int) < (N : Int)
      · go_wp2_with fail
        go_quiet (fail)
        go_wp2_with fail
        go_ret
        rw [hP.out, if_pos (by omega)]
        exact ⟨rfl, below_drewN (below_drew (Below.refl _ _)) _⟩
      · by_cases hB : (l.length : Int) < (N : Int) + 7
        · have hA1 : decide ((16384 : Int) < (N : Int)) = false := decide_eq_false hA
          have hB1 : decide ((l.length : Int) < 3 + (N : Int) + 4) = true := decide_eq_true (by omega)
          have hw : IntKind.i64.wrap (3 + (N : Int) + 4) = 3 + (N : Int) + 4 := IntWalk.i64_in _ (by omega)
          go_wp2_with fail
          go_quiet (fail)
          go_wp2_with fail
          go_ret
          rw [hP.out, if_pos (by omega)]
          exact ⟨rfl, below_drewN (below_drew (Below.refl _ _)) _⟩
        · have hA1 : decide ((16384 : Int) < (N : Int)) = false := decide_eq_false hA
          have hB1 : decide ((l.length : Int) < 3 + (N : Int) + 4) = false := decide_eq_false (by omega)
          have hw : IntKind.i64.wrap (3 + (N : Int) + 4) = 3 + (N : Int) + 4 := IntWalk.i64_in _ (by omega)
          have q1 : (0 : Int) ≤ 3 + (N : Int) := by omega
          have q2 : 3 + (N : Int) ≤ (l.length : Int) := by omega
          have q3 : 3 + (N : Int) ≤ (cap : Int) := by omega
          have q4 : (3 + (N : Int)).toNat = N + 3 := by omega
          have q5 : ¬ cap = N + 3 := by omega
          go_wp2_with fail
          have hAl : Below w.heap.size w (w.alloc (.cells #[.slice (some a) (N + 3) cap] 54)) := (Below.refl _ _).alloc (Nat.le_refl _) _
          have hWd : Below w.heap.size w (w.alloc (.cells #[.slice (some a) (N + 3) cap] 54)).drew.drew := below_drew (below_drew hAl)
          have hBt : BIs w (.slice (some a) (N + 3) cap) (l.take (N + 3)) := by
            have hlen : (l.take (N + 3)).length = N + 3 := by rw [List.length_take]; omega
            refine ⟨some a, cap, by rw [hlen], by omega, h2, fun i b hi => ?_⟩
            rw [List.getElem?_take] at hi
            split at hi
            · exact H3.out i b hi
            · cases hi
          have HSUM := Lib.hid (sum_any (w := (w.alloc (.cells #[.slice (some a) (N + 3) cap] 54)).drew.drew) (v := .slice (some ⟨w.heap.size, 0, none⟩) 1 1) (ls := [l.take (N + 3)]) (HM.out.below hWd)
            ⟨some ⟨w.heap.size, 0, none⟩, 1, rfl, Nat.le_refl _, by unfold maxLen; omega, fun i x hi => by
              match i with
              | 0 =>
                obtain rfl : l.take (N + 3) = x := by simpa using hi
                refine ⟨_, .slice (some a) (N + 3) cap, rfl, ?_, ?_, hBt.below hWd⟩
                · show w.heap.size < (w.heap.push _).size
                  rw [Array.size_push]; omega
                have := cell_of_row _ _ 0 _ _ _ (heap_alloc_new w (.cells #[.slice (some a) (N + 3) cap] 54))
                exact this
              | i + 1 => simp at hi⟩)
          rw [List.flatten_cons, List.flatten_nil, List.append_nil] at HSUM
          have HWD := Lib.hid hWd
          have HAl := Lib.hid hAl
          clear hAl hWd hBt
          have hx : ∀ i, i < 4 → w.cell? ⟨a.block, a.off + (N + 3) + i, none⟩ = some (.int .u8 ((l[N + 3 + i]?.getD 0).toNat : Int)) := by
            intro i hi
            have hl : l[N + 3 + i]? = some (l[N + 3 + i]'(by omega)) := List.getElem?_eq_getElem (by omega)
            obtain ⟨a', e, _, hc⟩ := H3.out (N + 3 + i) _ hl
            cases e
            rw [hl]
            have : a.add (N + 3 + i) = ⟨a.block, a.off + (N + 3) + i, none⟩ := by unfold Addr.add; rw [if_neg (by omega)]; congr 1; omega
            rw [this] at hc
            exact hc
          have HWORD : Hid (∀ W, Below w.heap.size w W → Calls Tryz.prog 149 #[.slice (some ⟨a.block, a.off + (N + 3), none⟩) (l.length - (N + 3)) (cap - (N + 3))] W fun e w' => e = .returned (.int .u32 (wordP l (N + 3) : Nat)) ∧ ∃ k, w' = W.drewN k) := fun W hW =>
            word_any (by omega) (by omega) (by omega) ((hW.cell (p := ⟨a.block, a.off + (N + 3), none⟩) hab).trans (hx 0 (by omega))) ((hW.cell (p := ⟨a.block, a.off + (N + 3) + 1, none⟩) hab).trans (hx 1 (by omega))) ((hW.cell (p := ⟨a.block, a.off + (N + 3) + 2, none⟩) hab).trans (hx 2 (by omega))) ((hW.cell (p := ⟨a.block, a.off + (N + 3) + 3, none⟩) hab).trans (hx 3 (by omega)))
          clear hx
          generalize hSS : sumB (l.take (N + 3)) = SS at *
          generalize hWW : wordP l (N + 3) = WW at *
          by_cases hC : SS = WW
          · have hC' : ((SS : Int) != (WW : Int)) = false := by rw [bne_eq_false_iff_eq]; exact_mod_cast hC
            have HC := Lib.hid hC
            clear hC hSS hWW
            go_region_held3 (fun w' => True) (trivial) (first | (go_at_call 148; refine (HSUM.out).mono ?_; rintro e w' ⟨rfl, rfl⟩) | (go_at_call 149; refine (HWORD.out _ HWD.out).mono ?_; rintro e w' ⟨rfl, kk, rfl⟩))
            go_wp2_with fail
            go_ret
            rw [hP.out, if_neg (by have := HC.out; omega)]
            exact ⟨by first | rfl | (show Ending.returned (.int .i64 (3 + (N : Int) + 4)) = _; congr 2; omega), below_drewN HAl.out _⟩
          · have hC' : ((SS : Int) != (WW : Int)) = true := by rw [bne_iff_ne]; exact_mod_cast hC
            have HC := Lib.hid hC
            clear hC hSS hWW
            go_region_held3 (fun w' => True) (trivial) (first | (go_at_call 148; refine (HSUM.out).mono ?_; rintro e w' ⟨rfl, rfl⟩) | (go_at_call 149; refine (HWORD.out _ HWD.out).mono ?_; rintro e w' ⟨rfl, kk, rfl⟩))
            go_wp2_with fail
            go_ret
            rw [hP.out, if_pos (.inr (.inr HC.out))]
            exact ⟨by first | rfl | (show Ending.returned (.int .i64 (3 + (N : Int) + 4)) = _; congr 2; omega), below_drewN HAl.out _⟩
    · have e : firstP l = 0 := by unfold firstP; rw [if_pos (.inr hb)]
      rw [e]
      have hb' : ((atN l 0 : Int) != 167) = true := by rw [bne_iff_ne]; exact_mod_cast hb
      clear h3 hc1 hc2 hb
      generalize atN l 0 = y0 at *
      go_enter Tryz.func100, Tryz.ntmps100
      go_wp2_with fail
      go_ret
      exact ⟨rfl, Below.refl _ _⟩
end Go.Proofs.YtfddlhcdlgdofaaGreatDoor
