/- crc.Sum over any parts, and the reference's. crc.word, crc.first. bytes.Clone; crc.body, One, Peel. -/
import Derived.Test.YtmbonngjkgcijaaGreatDoorZBasA
import Derived.Test.YtmbonngjkgcijaaGreatDoorProg
import Derived.WalkKit
import Derived.WalkSpells
import Derived.WalkLawsBesides
import Derived.Stop.Asserts
import Derived.Lib.Hide
import Derived.OwnWalk
import Derived.Deep.Slices
import Derived.Deep.LoopGhost
import Derived.Deep.AppendSrc
import Derived.Deep.Upon
import Derived.Room.Entries
import Derived.Deep.QuietTactic
import Derived.Deep.Draws
import Derived.BigQuiet
import Derived.IntWalk
import Derived.Deep.RegionHeld3
import Derived.Deep.DeepCutAuto
import Derived.Deep.RegionWith
set_option linter.unusedSimpArgs false
set_option linter.unusedVariables false
set_option linter.unnecessarySimpa false
namespace Go.Proofs.YtmbonngjkgcijaaGreatDoor
open Go.RowKit

/-- The package's table stands. -/
def Mov (w : World) : Prop := ∀ (r t : Nat), tab[r]? = some t → w.cell? ⟨0, r, none⟩ = some (.int .u32 (t : Int))
theorem Mov.lt {w : World} (h : Mov w) : 0 < w.heap.size := by
  refine Classical.byContradiction fun h0 => ?_
  have := h 0 0 rfl
  simp [World.cell?, Array.getElem?_eq_none (Nat.le_of_not_lt h0)] at this
theorem Mov.below {w W : World} (h : Mov w) (hW : Below w.heap.size w W) : Mov W := fun r t ht => (hW.cell (p := ⟨0, r, none⟩) h.lt).trans (h r t ht)

/-- A value that reads as bytes. -/
def BIs (w : World) (v : Value) (l : List UInt8) : Prop :=
  ∃ A cap, v = .slice A l.length cap ∧ l.length ≤ cap ∧ cap ≤ maxLen ∧ ∀ i b, l[i]? = some b → ∃ a : Addr, A = some a ∧ a.block < w.heap.size ∧ w.cell? (a.add i) = some (.int .u8 (b.toNat : Int))
/-- A value that reads as slices of bytes. -/
def PIs (w : World) (v : Value) (ls : List (List UInt8)) : Prop :=
  ∃ A cap, v = .slice A ls.length cap ∧ ls.length ≤ cap ∧ cap ≤ maxLen ∧ ∀ i l, ls[i]? = some l → ∃ (a : Addr) (x : Value), A = some a ∧ a.block < w.heap.size ∧ w.cell? (a.add i) = some x ∧ BIs w x l
theorem BIs.below {w w' : World} {v : Value} {l : List UInt8} (h : BIs w v l) (hb : Below w.heap.size w w') : BIs w' v l := by
  obtain ⟨A, cap, rfl, h1, h2, h3⟩ := h
  refine ⟨A, cap, rfl, h1, h2, fun i b hi => ?_⟩
  obtain ⟨a, q1, q2, q3⟩ := h3 i b hi
  exact ⟨a, q1, Nat.lt_of_lt_of_le q2 hb.size, (hb.cell (by rw [add_block]; exact q2)).trans q3⟩
theorem PIs.below {w w' : World} {v : Value} {ls : List (List UInt8)} (h : PIs w v ls) (hb : Below w.heap.size w w') : PIs w' v ls := by
  obtain ⟨A, cap, rfl, h1, h2, h3⟩ := h
  refine ⟨A, cap, rfl, h1, h2, fun i l hi => ?_⟩
  obtain ⟨a, x, q1, q2, q3, q4⟩ := h3 i l hi
  exact ⟨a, x, q1, Nat.lt_of_lt_of_le q2 hb.size, (hb.cell (by rw [add_block]; exact q2)).trans q3, q4.below hb⟩

theorem and15 (T : Nat) (hT : T < 4294967296) : bits .and .u32 (T : Int) 15 = ((T % 16 : Nat) : Int) := by
  have := u32_and_nat T 15 hT (by decide)
  rw [show ((15 : Nat) : Int) = 15 from rfl] at this
  rw [this]
  congr 1
  exact Nat.and_two_pow_sub_one_eq_mod T 4
/-- One look-up of the table: four steps. -/
theorem look {w : World} (hM : Mov w) (T : Nat) (hT : T < 4294967296) : ∃ (r t U : Nat), U = bs4 T ∧ U < 4294967296 ∧ (r : Int) < 16 ∧ bits .and .u32 (T : Int) 15 = (r : Int) ∧ w.cell? ⟨0, r, none⟩ = some (.int .u32 (t : Int)) ∧ bits .xor .u32 ((T : Int) / 16) (t : Int) = (U : Int) := by
  obtain ⟨t, h1, h2, h3⟩ := tab_step T
  refine ⟨T % 16, t, bs4 T, rfl, bs4_lt hT, by omega, and15 T hT, hM _ _ h1, ?_⟩
  rw [← h2, ← u32_xor_nat (T / 16) t (by omega) h3]
  rfl

set_option maxRecDepth 100000 in
set_option maxHeartbeats 1000000 in
theorem sum_any {w : World} {v : Value} {ls : List (List UInt8)} (hM : Mov w) (h : PIs w v ls) :
    Calls Tryz.prog 148 #[v] w fun e w' => e = .returned (.int .u32 (sumB ls.flatten : Nat)) ∧ w = w' := by
  obtain ⟨A, cap, rfl, h1, h2, h3⟩ := h
  unfold maxLen at h2
  have H3 := Lib.hid h3
  have HM := Lib.hid hM
  have h2' : ls.length ≤ 9223372036854775807 := by omega
  clear h3 hM
  go_enter Tryz.func148, Tryz.ntmps148
  go_wp2_with fail
  go_loopw [3, 10] (fun s i wr => ∃ k : Nat, k ≤ ls.length ∧ i = .int .i64 k ∧ s = .int .u32 (crcL 4294967295 (ls.take k).flatten : Nat) ∧ w = wr) (fun _ i _ => ls.length - (intOf i).toNat)
  case atStart => exact ⟨0, by omega, rfl, rfl, rfl⟩
  case round =>
    obtain ⟨k, hk, rfl, rfl, rfl⟩ := hrel
    by_cases hlt : k < ls.length
    · obtain ⟨a, x, rfl, hab, hcx, hB⟩ := H3.out k ls[k] (List.getElem?_eq_getElem hlt)
      obtain ⟨B, cx, rfl, g1, g2, g3⟩ := hB
      unfold maxLen at g2
      have G3 := Lib.hid g3
      generalize hl : ls[k] = l at *
      have HL := Lib.hid hl
      clear hl g3
      go_wp2_with fail
      go_loopw [3, 16] (fun s i wr => ∃ j : Nat, j ≤ l.length ∧ i = .int .i64 j ∧ s = .int .u32 (crcL (crcL 4294967295 (ls.take k).flatten) (l.take j) : Nat) ∧ w = wr) (fun _ i _ => l.length - (intOf i).toNat)
      case atStart => exact ⟨0, by omega, rfl, rfl, rfl⟩
      case round =>
        obtain ⟨j, hj, rfl, rfl, rfl⟩ := hrel
        by_cases hlt2 : j < l.length
        · obtain ⟨c, rfl, hcb, hc⟩ := G3.out j l[j] (List.getElem?_eq_getElem hlt2)
          have hs0 : crcL (crcL 4294967295 (ls.take k).flatten) (l.take j) < 4294967296 := crcL_lt (crcL_lt (by decide) _) _
          generalize hS : crcL (crcL 4294967295 (ls.take k).flatten) (l.take j) = S at *
          generalize hx : l[j] = x at *
          have hx8 : (x.toNat : Int) < 256 := by have := UInt8.toNat_lt x; omega
          have hx32 := u8_lt x
          have hxor := u32_xor_nat S x.toNat hs0 hx32
          have hT := xor_lt32 hs0 hx32
          have hZ : Hid (bs8 (S ^^^ x.toNat) = crcL (crcL 4294967295 (ls.take k).flatten) (l.take (j + 1))) := by
            show _ = _
            rw [List.take_succ_eq_append_getElem hlt2, crcL_snoc, hS, hx]
          generalize S ^^^ x.toNat = T at *
          obtain ⟨r1, t1, U, hU, hU2, hr1, ha1, hc1, hx1⟩ := look HM.out T hT
          obtain ⟨r2, t2, V, hV, hV2, hr2, ha2, hc2, hx2⟩ := look HM.out U hU2
          have hZ2 : Hid (V = crcL (crcL 4294967295 (ls.take k).flatten) (l.take (j + 1))) := by
            show _ = _
            rw [← hZ.out, hV, hU]; rfl
          clear hZ hU hV hT hU2 hV2 hs0 hx32 hS hx
          go_wp2_with fail
          go_roundw
          case rel => exact ⟨j + 1, by omega, by go_num, by rw [hZ2.out], by first | rfl | trivial⟩
          case measure => simp [intOf]; omega
        · obtain rfl : j = l.length := by omega
          have hZ : Hid (crcL (crcL 4294967295 (ls.take k).flatten) (l.take l.length) = crcL 4294967295 (ls.take (k + 1)).flatten) := by
            show _ = _
            rw [List.take_length, List.take_succ_eq_append_getElem hlt, List.flatten_append, crcL_append, HL.out]; simp
          go_wp2_with fail
          go_roundw
          case rel => exact ⟨k + 1, by omega, by go_num, by rw [hZ.out], by first | rfl | trivial⟩
          case measure => simp [intOf]; omega
    · obtain rfl : k = ls.length := by omega
      have hN : Hid (bits .xor .u32 IntKind.u32.max (crcL 4294967295 ls.flatten : Nat) = (sumB ls.flatten : Nat)) := by
        show _ = _
        have h1 := crcL_lt (s := 4294967295) (by decide) ls.flatten
        rw [show IntKind.u32.max = ((4294967295 : Nat) : Int) from by decide, u32_xor_nat _ _ (by decide) h1, Nat.xor_comm]
        rfl
      rw [List.take_length]
      go_wp2_with fail
      go_ret
      rw [hN.out]
      exact ⟨rfl, rfl⟩
end Go.Proofs.YtmbonngjkgcijaaGreatDoor

namespace Go.Proofs.YtmbonngjkgcijaaGreatDoor
open Go.RowKit

set_option maxRecDepth 100000 in
theorem or_be4 (x0 x1 x2 x3 : UInt8) (b0 : (x0.toNat : Int) < 256) (b1 : (x1.toNat : Int) < 256) (b2 : (x2.toNat : Int) < 256) (b3 : (x3.toNat : Int) < 256) :
    bits .or .u32 (bits .or .u32 (bits .or .u32 ((x0.toNat : Int) * 16777216) ((x1.toNat : Int) * 65536)) ((x2.toNat : Int) * 256)) (x3.toNat : Int) = (be4N x0 x1 x2 x3 : Nat) := by
  rw [show (x0.toNat : Int) * 16777216 = ((x0.toNat * 16777216 : Nat) : Int) from by omega, show (x1.toNat : Int) * 65536 = ((x1.toNat * 65536 : Nat) : Int) from by omega, show (x2.toNat : Int) * 256 = ((x2.toNat * 256 : Nat) : Int) from by omega,
    u32_or_nat _ _ (by omega) (by omega), nat_join 24 _ _ (by omega) (by omega), u32_or_nat _ _ (by omega) (by omega), nat_join 16 _ _ (by omega) (by omega), u32_or_nat _ _ (by omega) (by omega), nat_join 8 _ _ (by omega) (by omega)]
  unfold be4N
  congr 1
  omega

set_option maxRecDepth 100000 in
set_option maxHeartbeats 1000000 in
theorem word_any {w : World} {a : Addr} {n cap : Nat} {x0 x1 x2 x3 : UInt8} (hn : 4 ≤ n) (hc : n ≤ cap) (hm : cap ≤ 9223372036854775807) (h0 : w.cell? a = some (.int .u8 (x0.toNat : Int))) (h1 : w.cell? ⟨a.block, a.off + 1, none⟩ = some (.int .u8 (x1.toNat : Int)))
    (h2 : w.cell? ⟨a.block, a.off + 2, none⟩ = some (.int .u8 (x2.toNat : Int))) (h3 : w.cell? ⟨a.block, a.off + 3, none⟩ = some (.int .u8 (x3.toNat : Int))) :
    Calls Tryz.prog 149 #[.slice (some a) n cap] w fun e w' => e = .returned (.int .u32 (be4N x0 x1 x2 x3 : Nat)) ∧ ∃ k, w' = w.drewN k := by
  have b0 : (x0.toNat : Int) < 256 := by have := UInt8.toNat_lt x0; omega
  have b1 : (x1.toNat : Int) < 256 := by have := UInt8.toNat_lt x1; omega
  have b2 : (x2.toNat : Int) < 256 := by have := UInt8.toNat_lt x2; omega
  have b3 : (x3.toNat : Int) < 256 := by have := UInt8.toNat_lt x3; omega
  have n1 : 0 < n := by omega
  have n2 : 1 < n := by omega
  have n3 : 2 < n := by omega
  have n4 : 3 < n := by omega
  go_enter Tryz.func149, Tryz.ntmps149
  go_wp2_with fail
  go_region
  go_wp2
  go_ret
  refine ⟨?_, 1, rfl⟩
  rw [or_be4 _ _ _ _ b0 b1 b2 b3]
  rfl

theorem i64_or_nat (a b : Nat) (ha : a < 4294967296) (hb : b < 4294967296) : bits .or .i64 (a : Int) (b : Int) = ((a ||| b : Nat) : Int) := by
  have hx : a ||| b < 2 ^ 32 := Nat.or_lt_two_pow (by omega) (by omega)
  show IntKind.i64.wrap ((BitVec.ofInt 64 (a : Int) ||| BitVec.ofInt 64 (b : Int)).toNat : Int) = _
  rw [BitVec.toNat_or, ofInt_u64 a (by omega), ofInt_u64 b (by omega)]
  exact IntWalk.i64_in _ (by omega)
set_option maxRecDepth 100000 in
set_option maxHeartbeats 4000000 in
theorem first_any {w : World} {v : Value} {l : List UInt8} (hM : Mov w) (h : BIs w v l) :
    Calls Tryz.prog 100 #[v] w fun e w' => e = .returned (.int .i64 (firstP l : Nat)) ∧ Below w.heap.size w w' := by
  obtain ⟨A, cap, rfl, h1, h2, h3⟩ := h
  unfold maxLen at h2
  have h2' : cap ≤ 9223372036854775807 := by omega
  by_cases h7 : l.length < 7
  · have e : firstP l = 0 := by unfold firstP; rw [if_pos (.inl h7)]
    rw [e]
    clear h3
    have h7' : (l.length : Int) < 7 := by omega
    go_enter Tryz.func100, Tryz.ntmps100
    go_wp2_with fail
    go_ret
    exact ⟨rfl, Below.refl _ _⟩
  · obtain ⟨a, rfl, hab, hc0⟩ := h3 0 (l[0]'(by omega)) (List.getElem?_eq_getElem (by omega))
    have hc1 : w.cell? ⟨a.block, a.off + 1, none⟩ = some (.int .u8 ((l[1]'(by omega)).toNat : Int)) := by
      obtain ⟨a', e, _, hc⟩ := h3 1 (l[1]'(by omega)) (List.getElem?_eq_getElem (by omega))
      cases e; exact hc
    have hc2 : w.cell? ⟨a.block, a.off + 2, none⟩ = some (.int .u8 ((l[2]'(by omega)).toNat : Int)) := by
      obtain ⟨a', e, _, hc⟩ := h3 2 (l[2]'(by omega)) (List.getElem?_eq_getElem (by omega))
      cases e; exact hc
    have hc0 : w.cell? a = some (.int .u8 ((l[0]'(by omega)).toNat : Int)) := hc0
    have e0 : atN l 0 = (l[0]'(by omega)).toNat := by unfold atN; rw [List.getElem?_eq_getElem (by omega)]; rfl
    have e1 : atN l 1 = (l[1]'(by omega)).toNat := by unfold atN; rw [List.getElem?_eq_getElem (by omega)]; rfl
    have e2 : atN l 2 = (l[2]'(by omega)).toNat := by unfold atN; rw [List.getElem?_eq_getElem (by omega)]; rfl
    rw [← e0] at hc0
    rw [← e1] at hc1
    rw [← e2] at hc2
    clear e0 e1 e2
    have h7' : ¬ (l.length : Int) < 7 := by omega
    have l1 : 1 < l.length := by omega
    have l2 : 2 < l.length := by omega
    by_cases hb : atN l 0 = 167
    · rw [hb] at hc0
      have hsz : szP l = atN l 1 * 256 + atN l 2 := rfl
      have a1 := atN_lt l 1
      have a2 := atN_lt l 2
      have hor : bits .or .i64 ((atN l 1 : Int) * 256) (atN l 2 : Int) = (szP l : Int) := by
        rw [show (atN l 1 : Int) * 256 = ((atN l 1 * 256 : Nat) : Int) from by omega, i64_or_nat _ _ (by omega) (by omega), nat_join 8 _ _ (by omega) (by omega)]
        rfl
      have hP : Hid (firstP l = if 16384 < szP l ∨ l.length < szP l + 7 ∨ sumB (l.take (szP l + 3)) ≠ wordP l (szP l + 3) then 0 else szP l + 7) := by
        show _ = _
        unfold firstP
        rw [if_neg (by omega)]
      have hN65 := szP_lt l
      generalize hNN : szP l = N at *
      have HNN := Lib.hid hNN
      generalize atN l 1 = y1 at *
      generalize atN l 2 = y2 at *
      have y1' : (y1 : Int) < 256 := by omega
      have y2' : (y2 : Int) < 256 := by omega
      have hN' : (N : Int) < 65536 := by omega
      clear hsz hb hNN
      have HM := Lib.hid hM
      have H3 := Lib.hid h3
      clear hM h3
      go_enter Tryz.func100, Tryz.ntmps100
      go_wp2_with fail
      go_region
      by_cases hA : (16384 : Int) < (N : Int)
      · go_wp2_with fail
        go_quiet (fail)
        go_wp2_with fail
        go_ret
        rw [hP.out, if_pos (by omega)]
        exact ⟨rfl, below_drewN (below_drew (Below.refl _ _)) _⟩
      · by_cases hB : (l.length : Int) < (N : Int) + 7
        · have hA1 : decide ((16384 : Int) < (N : Int)) = false := decide_eq_false hA
          have hB1 : decide ((l.length : Int) < 3 + (N : Int) + 4) = true := decide_eq_true (by omega)
          have hw : IntKind.i64.wrap (3 + (N : Int) + 4) = 3 + (N : Int) + 4 := IntWalk.i64_in _ (by omega)
          go_wp2_with fail
          go_quiet (fail)
          go_wp2_with fail
          go_ret
          rw [hP.out, if_pos (by omega)]
          exact ⟨rfl, below_drewN (below_drew (Below.refl _ _)) _⟩
        · have hA1 : decide ((16384 : Int) < (N : Int)) = false := decide_eq_false hA
          have hB1 : decide ((l.length : Int) < 3 + (N : Int) + 4) = false := decide_eq_false (by omega)
          have hw : IntKind.i64.wrap (3 + (N : Int) + 4) = 3 + (N : Int) + 4 := IntWalk.i64_in _ (by omega)
          have q1 : (0 : Int) ≤ 3 + (N : Int) := by omega
          have q2 : 3 + (N : Int) ≤ (l.length : Int) := by omega
          have q3 : 3 + (N : Int) ≤ (cap : Int) := by omega
          have q4 : (3 + (N : Int)).toNat = N + 3 := by omega
          have q5 : ¬ cap = N + 3 := by omega
          go_wp2_with fail
          have hAl : Below w.heap.size w (w.alloc (.cells #[.slice (some a) (N + 3) cap] 54)) := (Below.refl _ _).alloc (Nat.le_refl _) _
          have hWd : Below w.heap.size w (w.alloc (.cells #[.slice (some a) (N + 3) cap] 54)).drew.drew := below_drew (below_drew hAl)
          have hBt : BIs w (.slice (some a) (N + 3) cap) (l.take (N + 3)) := by
            have hlen : (l.take (N + 3)).length = N + 3 := by rw [List.length_take]; omega
            refine ⟨some a, cap, by rw [hlen], by omega, h2, fun i b hi => ?_⟩
            rw [List.getElem?_take] at hi
            split at hi
            · exact H3.out i b hi
            · cases hi
          have HSUM := Lib.hid (sum_any (w := (w.alloc (.cells #[.slice (some a) (N + 3) cap] 54)).drew.drew) (v := .slice (some ⟨w.heap.size, 0, none⟩) 1 1) (ls := [l.take (N + 3)]) (HM.out.below hWd)
            ⟨some ⟨w.heap.size, 0, none⟩, 1, rfl, Nat.le_refl _, by unfold maxLen; omega, fun i x hi => by
              match i with
              | 0 =>
                obtain rfl : l.take (N + 3) = x := by simpa using hi
                refine ⟨_, .slice (some a) (N + 3) cap, rfl, ?_, ?_, hBt.below hWd⟩
                · show w.heap.size < (w.heap.push _).size
                  rw [Array.size_push]; omega
                have := cell_of_row _ _ 0 _ _ _ (heap_alloc_new w (.cells #[.slice (some a) (N + 3) cap] 54))
                exact this
              | i + 1 => simp at hi⟩)
          rw [List.flatten_cons, List.flatten_nil, List.append_nil] at HSUM
          have HWD := Lib.hid hWd
          have HAl := Lib.hid hAl
          clear hAl hWd hBt
          have hx : ∀ i, i < 4 → w.cell? ⟨a.block, a.off + (N + 3) + i, none⟩ = some (.int .u8 ((l[N + 3 + i]?.getD 0).toNat : Int)) := by
            intro i hi
            have hl : l[N + 3 + i]? = some (l[N + 3 + i]'(by omega)) := List.getElem?_eq_getElem (by omega)
            obtain ⟨a', e, _, hc⟩ := H3.out (N + 3 + i) _ hl
            cases e
            rw [hl]
            have : a.add (N + 3 + i) = ⟨a.block, a.off + (N + 3) + i, none⟩ := by unfold Addr.add; rw [if_neg (by omega)]; congr 1; omega
            rw [this] at hc
            exact hc
          have HWORD : Hid (∀ W, Below w.heap.size w W → Calls Tryz.prog 149 #[.slice (some ⟨a.block, a.off + (N + 3), none⟩) (l.length - (N + 3)) (cap - (N + 3))] W fun e w' => e = .returned (.int .u32 (wordP l (N + 3) : Nat)) ∧ ∃ k, w' = W.drewN k) := fun W hW =>
            word_any (by omega) (by omega) (by omega) ((hW.cell (p := ⟨a.block, a.off + (N + 3), none⟩) hab).trans (hx 0 (by omega))) ((hW.cell (p := ⟨a.block, a.off + (N + 3) + 1, none⟩) hab).trans (hx 1 (by omega))) ((hW.cell (p := ⟨a.block, a.off + (N + 3) + 2, none⟩) hab).trans (hx 2 (by omega))) ((hW.cell (p := ⟨a.block, a.off + (N + 3) + 3, none⟩) hab).trans (hx 3 (by omega)))
          clear hx
          generalize hSS : sumB (l.take (N + 3)) = SS at *
          generalize hWW : wordP l (N + 3) = WW at *
          by_cases hC : SS = WW
          · have hC' : ((SS : Int) != (WW : Int)) = false := by rw [bne_eq_false_iff_eq]; exact_mod_cast hC
            have HC := Lib.hid hC
            clear hC hSS hWW
            go_region_held3 (fun w' => True) (trivial) (first | (go_at_call 148; refine (HSUM.out).mono ?_; rintro e w' ⟨rfl, rfl⟩) | (go_at_call 149; refine (HWORD.out _ HWD.out).mono ?_; rintro e w' ⟨rfl, kk, rfl⟩))
            go_wp2_with fail
            go_ret
            rw [hP.out, if_neg (by have := HC.out; omega)]
            exact ⟨by first | rfl | (show Ending.returned (.int .i64 (3 + (N : Int) + 4)) = _; congr 2; omega), below_drewN HAl.out _⟩
          · have hC' : ((SS : Int) != (WW : Int)) = true := by rw [bne_iff_ne]; exact_mod_cast hC
            have HC := Lib.hid hC
            clear hC hSS hWW
            go_region_held3 (fun w' => True) (trivial) (first | (go_at_call 148; refine (HSUM.out).mono ?_; rintro e w' ⟨rfl, rfl⟩) | (go_at_call 149; refine (HWORD.out _ HWD.out).mono ?_; rintro e w' ⟨rfl, kk, rfl⟩))
            go_wp2_with fail
            go_ret
            rw [hP.out, if_pos (.inr (.inr HC.out))]
            exact ⟨by first | rfl | (show Ending.returned (.int .i64 (3 + (N : Int) + 4)) = _; congr 2; omega), below_drewN HAl.out _⟩
    · have e : firstP l = 0 := by unfold firstP; rw [if_pos (.inr hb)]
      rw [e]
      have hb' : ((atN l 0 : Int) != 167) = true := by rw [bne_iff_ne]; exact_mod_cast hb
      clear h3 hc1 hc2 hb
      generalize atN l 0 = y0 at *
      go_enter Tryz.func100, Tryz.ntmps100
      go_wp2_with fail
      go_ret
      exact ⟨rfl, Below.refl _ _⟩
end Go.Proofs.YtmbonngjkgcijaaGreatDoor

namespace Go.Proofs.YtmbonngjkgcijaaGreatDoor
open Go.RowKit

def bc (l : List UInt8) : List Value := l.map fun b => Value.int .u8 (b.toNat : Int)
theorem bc_length (l : List UInt8) : (bc l).length = l.length := by simp [bc]
theorem bc_append (a b : List UInt8) : bc (a ++ b) = bc a ++ bc b := by simp [bc]
theorem bc_at {l : List UInt8} {j : Nat} {u : Value} (h : (bc l)[j]? = some u) : ∃ b, l[j]? = some b ∧ u = .int .u8 (b.toNat : Int) := by
  unfold bc at h
  rw [List.getElem?_map] at h
  cases hl : l[j]? with
  | none => rw [hl] at h; cases h
  | some b => rw [hl] at h; exact ⟨b, rfl, (Option.some.inj h).symm⟩
theorem bc_some {l : List UInt8} {j : Nat} {b : UInt8} (h : l[j]? = some b) : (bc l)[j]? = some (.int .u8 (b.toNat : Int)) := by
  unfold bc; rw [List.getElem?_map, h]; rfl
theorem bc_one (l : List UInt8) : ∀ u ∈ bc l, u.oneCell' = true := by
  intro u hu
  obtain ⟨b, _, rfl⟩ := List.mem_map.1 hu
  rfl

/-- Bytes in a block of the call's own, told by its cells. -/
structure OwnC (w : World) (base g cap : Nat) (l : List UInt8) : Prop where
  new : base ≤ g
  lt : g < w.heap.size
  le : l.length ≤ cap
  max : cap ≤ maxLen
  holds : ∀ j b, l[j]? = some b → w.cell? ⟨g, j, none⟩ = some (.int .u8 (b.toNat : Int))
  there : ∀ j, j < cap → (w.cell? ⟨g, j, none⟩).isSome = true ∧ w.frozen? ⟨g, j, none⟩ = false
def OwnBy (w : World) (base : Nat) (v : Value) (l : List UInt8) : Prop :=
  (v = .slice none 0 0 ∧ l = []) ∨ ∃ g cap, v = .slice (some ⟨g, 0, none⟩) l.length cap ∧ OwnC w base g cap l
theorem OwnC.keep {w w' : World} {base g cap : Nat} {l : List UInt8} (h : OwnC w base g cap l) (hs : w.heap.size ≤ w'.heap.size) (hk : w'.heap[g]? = w.heap[g]?) : OwnC w' base g cap l :=
  ⟨h.new, Nat.lt_of_lt_of_le h.lt hs, h.le, h.max, fun j b hj => by rw [World.cell?_of_block (a := ⟨g, j, none⟩) hk]; exact h.holds j b hj, fun j hj => by rw [World.cell?_of_block (a := ⟨g, j, none⟩) hk, World.frozen?_of_block (a := ⟨g, j, none⟩) hk]; exact h.there j hj⟩
theorem OwnBy.below {w w' : World} {base : Nat} {v : Value} {l : List UInt8} (h : OwnBy w base v l) (hb : Below w.heap.size w w') : OwnBy w' base v l := by
  rcases h with h | ⟨g, cap, rfl, h⟩
  · exact .inl h
  · exact .inr ⟨g, cap, rfl, h.keep hb.size (hb.block g h.lt)⟩
theorem info5 : (Tryz.prog.info? 5).map (fun i => (i.zero, i.size, i.bytes)) = some (some (.int .u8 0), 1, 1) := by kernel_rfl

theorem run_append_by (w : World) (base : Nat) (ty tx : TypeId) (v : Value) (l ms : List UInt8) (x : Value) (hown : OwnBy w base v l) (hs : Src Tryz.prog 1 tx x ms.length (bc ms) w) (hlen : l.length + ms.length ≤ 1073741824) (hbase : base ≤ w.heap.size) :
    ∃ v' w', (Builtin.append_ #[54, tx] ty #[v, x]).run Tryz.prog w = .ok v' w' ∧ OwnBy w' base v' (l ++ ms) ∧ w.grownBy w' v.ownBlock := by
  obtain ⟨i0, hi, hz0, hz1, hz2⟩ := info_parts info5
  have hs' : Src Tryz.prog i0.size tx x ms.length (bc ms) w := by rw [hz1]; exact hs
  have grow : ∀ (A : Option Addr) (sCap : Nat), (Builtin.firstCells i0.size l.length (.slice A l.length sCap)).run Tryz.prog w.drew = .ok (bc l).toArray w.drew → sCap < l.length + ms.length →
      ∃ v' w', (Builtin.append_ #[54, tx] ty #[.slice A l.length sCap, x]).run Tryz.prog w = .ok v' w' ∧ OwnBy w' base v' (l ++ ms) ∧ w.grownBy w' (Value.slice A l.length sCap).ownBlock := by
    intro A sCap hold hg
    have hfit : Builtin.nextslicecap (l.length + ms.length) sCap * i0.bytes ≤ 281474976710656 := by
      have := Go.Room.nextslicecap_le' hg
      rw [hz2]; omega
    have hr := run_append_grow_src (P := Tryz.prog) w 54 tx ty 5 i0 _ Tryz.underlying54 hi hz0 A l.length sCap (bc l) hold x ms.length (bc ms) hs' hg (by omega) hfit
    have hge := grownCap_ge w (l.length + ms.length) sCap 5
    have hle := grownCap_le_maxLen w (l.length + ms.length) sCap 5 (by unfold maxLen; omega)
    refine ⟨_, _, hr, .inr ⟨w.heap.size, grownCap w (l.length + ms.length) sCap 5, by simp, ?_⟩, ⟨rfl, rfl, rfl, by simp, fun k hk _ => by rw [Below.heap_alloc _ _ k (by simpa using hk)]; rfl⟩⟩
    have hblk : (w.drew.alloc (.cells ((bc l ++ bc ms).toArray ++ Builtin.zeroCells (Value.cells (.int .u8 0)) (grownCap w (l.length + ms.length) sCap 5 - (l.length + ms.length))) 5)).heap[w.heap.size]? = some (.cells ((bc l ++ bc ms).toArray ++ Builtin.zeroCells (Value.cells (.int .u8 0)) (grownCap w (l.length + ms.length) sCap 5 - (l.length + ms.length))) 5 (0, 0)) := heap_alloc_new w.drew _
    refine ⟨hbase, by simp, by simpa using hge, hle, fun j b hj => ?_, fun j hj => ?_⟩
    · rw [cell_of_row _ _ _ _ _ _ hblk]
      have := bc_some hj
      rw [bc_append] at this
      rw [Array.getElem?_append_left (by simpa using (List.getElem?_eq_some_iff.1 this).1)]
      simpa using this
    · constructor
      · rw [cell_of_row _ _ _ _ _ _ hblk]
        have hsz : j < ((bc l ++ bc ms).toArray ++ Builtin.zeroCells (Value.cells (.int .u8 0)) (grownCap w (l.length + ms.length) sCap 5 - (l.length + ms.length))).size := by
          rw [Array.size_append, size_zeroCells]
          simp [bc_length, Value.cells]
          omega
        rw [Array.getElem?_eq_getElem hsz]; rfl
      · exact free0 hblk j
  rcases hown with ⟨rfl, rfl⟩ | ⟨g, cap, rfl, ho⟩
  · by_cases hz : ms = []
    · subst hz
      exact ⟨.slice none 0 0, w, run_append_nothing w 54 tx ty 5 i0 Tryz.underlying54 hi none 0 0 (Nat.le_refl _) x hs', .inl ⟨rfl, rfl⟩, ⟨rfl, rfl, rfl, Nat.le_refl _, fun _ _ _ => rfl⟩⟩
    · exact grow none 0 (by simp [Builtin.firstCells, bc]) (by simpa using List.length_pos_iff.2 hz)
  · by_cases hroom : l.length + ms.length ≤ cap
    · have hr := run_append_room_src (P := Tryz.prog) w 54 tx ty 5 i0 Tryz.underlying54 hi g 0 l.length cap x ms.length (bc ms) hs' hroom
        (by rw [hz1]; intro j hj; rw [bc_length] at hj; have := (ho.there (l.length + j) (by omega)).1; simpa using this) (by rw [hz1]; intro j hj; rw [bc_length] at hj; have := (ho.there (l.length + j) (by omega)).2; simpa using this)
      rw [hz1] at hr
      have e0 : 0 + l.length * 1 = l.length := by omega
      rw [e0] at hr
      have hkb := World.keptBut_setCells g (may := fun p => p.block = g) (bc ms) l.length w (fun _ _ => rfl)
      refine ⟨_, _, hr, .inr ⟨g, cap, by simp, ?_⟩, ⟨hkb.1, (setCells_tape g (bc ms) l.length w).1, hkb.2.1, Nat.le_of_eq (setCells_tape g (bc ms) l.length w).2.symm, fun k hk hne => hkb.block hk (fun p hp e => hne (by rw [← e, hp]; rfl))⟩⟩
      have hex : ∀ j, j < (bc ms).length → (w.cell? ⟨g, l.length + j, none⟩).isSome = true := fun j hj => (ho.there (l.length + j) (by rw [bc_length] at hj; omega)).1
      refine ⟨ho.new, by rw [(setCells_tape g (bc ms) l.length w).2]; exact ho.lt, by simpa using hroom, ho.max, fun j b hj => ?_, fun j hj => ⟨?_, ?_⟩⟩
      · by_cases hjl : j < l.length
        · rw [World.cell?_setCells_out g (bc ms) l.length w ⟨g, j, none⟩ (fun _ _ => .inl hjl)]
          exact ho.holds j b (by rwa [List.getElem?_append_left hjl] at hj)
        · rw [List.getElem?_append_right (by omega)] at hj
          have h1 := bc_some hj
          have h2 : j - l.length < (bc ms).length := (List.getElem?_eq_some_iff.1 h1).1
          have h3 := World.cell?_setCells_in g (bc ms) l.length w hex (j - l.length) h2
          rw [show l.length + (j - l.length) = j from by omega] at h3
          rw [h3, (List.getElem?_eq_some_iff.1 h1).2]
      · by_cases hin : l.length ≤ j ∧ j < l.length + (bc ms).length
        · have h3 := World.cell?_setCells_in g (bc ms) l.length w hex (j - l.length) (by omega)
          rw [show l.length + (j - l.length) = j from by omega] at h3
          rw [h3]; rfl
        · rw [World.cell?_setCells_out g (bc ms) l.length w ⟨g, j, none⟩ (fun _ _ => by simp only; omega)]
          exact (ho.there j hj).1
      · rw [World.frozen?_setCells]; exact (ho.there j hj).2
    · exact grow (some ⟨g, 0, none⟩) cap (by rw [hz1]; exact run_firstCells_some w.drew 1 l.length ⟨g, 0, none⟩ l.length cap (bc l) (by simp [bc_length]) (fun j u hu => by
        obtain ⟨b, hb, rfl⟩ := bc_at hu
        rw [add0]; exact ho.holds j b hb)) (by omega)

/-- the same, as an arm of a walk -/
theorem wpList_append_by (w : World) {ops : Array Oper} {rest : List Oper} {o : Oper} {a : Act} {Q : Exit → Act → World → Prop} (hgd : o.guard = none) (s x : Operand) (tx : TypeId)
    (ho : o.op = .call { callee := .builtin .append, args := #[s, x], argTypes := #[54, tx] })
    (base : Nat) (l ms : List UInt8) (v y : Value) (hs : a.eval s = v) (hx : a.eval x = y) (hown : OwnBy w base v l) (hsrc : Src Tryz.prog 1 tx y ms.length (bc ms) w) (hlen : l.length + ms.length ≤ 1073741824) (hbase : base ≤ w.heap.size)
    (h : ∀ v' w', OwnBy w' base v' (l ++ ms) → w.grownBy w' v.ownBlock → wpList Tryz.prog ops Q rest (a.put o.dst v') w') : wpList Tryz.prog ops Q (o :: rest) a w :=
  wpList_plain hgd fun K hK => by
    obtain ⟨v', w', hr, h2, h3⟩ := run_append_by w base o.type tx v l ms y hown hsrc hlen hbase
    unfold Oper.wp execOp
    simp only [ho, resolve, invoke, builtin, Sem.run_bind, Sem.run_pure, Result.andThen_ok, List.map_toArray, List.map_cons, List.map_nil, hs, hx, hr]
    exact hK _ _ (h v' w' h2 h3)

theorem OwnBy.bis {w : World} {base : Nat} {v : Value} {l : List UInt8} (h : OwnBy w base v l) : BIs w v l := by
  rcases h with ⟨rfl, rfl⟩ | ⟨g, cap, rfl, h⟩
  · exact ⟨none, 0, rfl, Nat.le_refl _, by unfold maxLen; omega, fun i b hi => by simp at hi⟩
  · exact ⟨some ⟨g, 0, none⟩, cap, rfl, h.le, h.max, fun i b hi => ⟨_, rfl, h.lt, by rw [add0]; exact h.holds i b hi⟩⟩
/-- Bytes at an address. -/
def At (w : World) (a : Addr) (l : List UInt8) : Prop := a.block < w.heap.size ∧ ∀ i b, l[i]? = some b → w.cell? (a.add i) = some (.int .u8 (b.toNat : Int))
theorem BIs.at {w : World} {v : Value} {l : List UInt8} (h : BIs w v l) (hne : l ≠ []) : ∃ a cap, v = .slice (some a) l.length cap ∧ l.length ≤ cap ∧ cap ≤ maxLen ∧ At w a l := by
  obtain ⟨A, cap, rfl, h1, h2, h3⟩ := h
  have h0 : 0 < l.length := List.length_pos_iff.2 hne
  obtain ⟨a, rfl, hab, _⟩ := h3 0 l[0] (List.getElem?_eq_getElem h0)
  exact ⟨a, cap, rfl, h1, h2, hab, fun i b hi => by obtain ⟨a', e, _, hc⟩ := h3 i b hi; cases e; exact hc⟩
theorem At.bis {w : World} {a : Addr} {l : List UInt8} {n cap : Nat} (h : At w a l) (hn : l.length = n) (hc : n ≤ cap) (hm : cap ≤ maxLen) : BIs w (.slice (some a) n cap) l := by
  subst hn
  exact ⟨some a, cap, rfl, hc, hm, fun i b hi => ⟨a, rfl, h.1, h.2 i b hi⟩⟩
theorem At.take {w : World} {a : Addr} {l : List UInt8} (h : At w a l) (k : Nat) : At w a (l.take k) := ⟨h.1, fun i b hi => by
  rw [List.getElem?_take] at hi
  split at hi
  · exact h.2 i b hi
  · cases hi⟩
theorem At.drop {w : World} {a : Addr} {l : List UInt8} (h : At w a l) (k : Nat) (hk : 0 < k) : At w ⟨a.block, a.off + k, none⟩ (l.drop k) := ⟨h.1, fun i b hi => by
  rw [List.getElem?_drop] at hi
  have := h.2 _ b hi
  have e : a.add (k + i) = (⟨a.block, a.off + k, none⟩ : Addr).add i := by
    unfold Addr.add
    rw [if_neg (by omega)]
    split
    · subst i; rfl
    · show (⟨a.block, a.off + (k + i), none⟩ : Addr) = ⟨a.block, a.off + k + i, none⟩
      rw [Nat.add_assoc]
  rw [e] at this
  exact this⟩
theorem At.below {w w' : World} {a : Addr} {l : List UInt8} (h : At w a l) (hb : Below w.heap.size w w') : At w' a l :=
  ⟨Nat.lt_of_lt_of_le h.1 hb.size, fun i b hi => (hb.cell (by rw [add_block]; exact h.1)).trans (h.2 i b hi)⟩
theorem BIs.src {w : World} {v : Value} {l : List UInt8} (h : BIs w v l) : Src Tryz.prog 1 54 v l.length (bc l) w := by
  obtain ⟨A, cap, rfl, h1, h2, h3⟩ := h
  cases A with
  | none =>
    have : l = [] := by
      cases l with
      | nil => rfl
      | cons x r => obtain ⟨a, e, _⟩ := h3 0 x rfl; cases e
    subst this
    exact Src.ofNil w Tryz.underlying54 cap
  | some a =>
    exact Src.ofSlice w Tryz.underlying54 a l.length cap (bc l) (by simp [bc_length]) (fun j u hu => by
      obtain ⟨b, hb, rfl⟩ := bc_at hu
      obtain ⟨a', e, _, hc⟩ := h3 j b hb
      cases e; exact hc) (bc_one l)

set_option maxRecDepth 100000 in
set_option maxHeartbeats 1000000 in
theorem clone_any {w : World} {v : Value} {l : List UInt8} (h : BIs w v l) (hl : l.length ≤ 1073741824) :
    Calls Tryz.prog 65 #[v] w fun e w' => ∃ v', e = .returned v' ∧ OwnBy w' w.heap.size v' l ∧ Below w.heap.size w w' := by
  have hA : Below w.heap.size w (w.alloc (.cells #[] 5)) := (Below.refl _ _).alloc (Nat.le_refl _) _
  have own0 : Hid (OwnBy (w.alloc (.cells #[] 5)) w.heap.size (.slice (some ⟨w.heap.size, 0, none⟩) 0 0) []) :=
    .inr ⟨w.heap.size, 0, rfl, ⟨Nat.le_refl _, by simp, Nat.le_refl _, by unfold maxLen; omega, fun j b hj => by simp at hj, fun j hj => by omega⟩⟩
  have src := Lib.hid (h.below hA).src
  obtain ⟨A, cap, rfl, _, _, h3⟩ := h
  cases A with
  | none =>
    have : l = [] := by
      cases l with
      | nil => rfl
      | cons x r => obtain ⟨a, e, _⟩ := h3 0 x rfl; cases e
    subst this
    have hnil : ∀ (w : World), (binOp .eql 54 (.slice none 0 cap) (.slice none 0 0)).run Tryz.prog w = .ok (.bool true) w := fun w => by simp [binOp, run_equal_slice_nil w 54 5 _ _ _ Tryz.underlying54]
    clear h3 hA
    go_enter Tryz.func65, Tryz.ntmps65
    go_wp2
    go_ret
    exact ⟨_, rfl, .inl ⟨rfl, rfl⟩, Below.refl _ _⟩
  | some a =>
    have hnil : ∀ (w : World), (binOp .eql 54 (.slice (some a) l.length cap) (.slice none 0 0)).run Tryz.prog w = .ok (.bool false) w := fun w => by simp [binOp, run_equal_slice_nil w 54 5 _ _ _ Tryz.underlying54]
    have HA := Lib.hid hA
    clear hA h3
    go_enter Tryz.func65, Tryz.ntmps65
    go_wp2_with (at_builtin; refine wpList_append_by _ rfl _ _ 54 rfl w.heap.size [] l _ _ rfl rfl own0.out src.out ?_ ?_ ?_)
    · simpa using hl
    · simp
    intro v' w' hown hg
    have HO := Lib.hid hown
    have hrow : ∀ k, (Value.slice (some ⟨w.heap.size, 0, none⟩) 0 0).ownBlock = some k → w.heap.size ≤ k := by
      intro k hk
      have : w.heap.size = k := by simpa [Value.ownBlock] using hk
      omega
    have HB := Lib.hid (HA.out.grown hg (by simp) hrow)
    clear hown hg
    go_wp2
    go_ret
    exact ⟨_, rfl, HO.out, HB.out⟩

set_option maxRecDepth 100000 in
set_option maxHeartbeats 1000000 in
theorem body_any {w : World} {a : Addr} {n cap m : Nat} {l : List UInt8} (h : At w a l) (hn : l.length = n) (hc : n ≤ cap) (hm : cap ≤ maxLen) (hk : m + 7 ≤ n) (hl : m ≤ 16384) :
    Calls Tryz.prog 101 #[.slice (some a) n cap, .int .i64 ((m + 7 : Nat) : Int)] w fun e w' => ∃ v', e = .returned v' ∧ OwnBy w' w.heap.size v' ((l.drop 3).take m) ∧ Below w.heap.size w w' := by
  have hb : BIs w (.slice (some ⟨a.block, a.off + 3, none⟩) m (cap - 3)) ((l.drop 3).take m) := ((h.drop 3 (by omega)).take m).bis (by rw [List.length_take, List.length_drop]; omega) (by omega) (by omega)
  have HC := Lib.hid (clone_any hb (by rw [List.length_take]; omega))
  unfold maxLen at hm
  have q1 : ((m + 7 : Nat) : Int) - 4 = (m : Int) + 3 := by omega
  have q2 : ((m + 7 : Nat) : Int) ≤ 16391 := by omega
  have q3 : (m : Int) + 3 ≤ (cap : Int) := by omega
  have q4 : ¬ cap = 3 := by omega
  clear h hb hl
  generalize ((m + 7 : Nat) : Int) = M at *
  have q5 : M = (m : Int) + 7 := by omega
  subst q5
  go_enter Tryz.func101, Tryz.ntmps101
  go_wp2_with fail
  refine (HC.out).mono ?_
  rintro e w1 ⟨v, rfl, hO, hb⟩
  have HO := Lib.hid hO
  have HB := Lib.hid hb
  clear hO hb
  go_wp2
  go_ret
  exact ⟨_, rfl, HO.out, HB.out⟩

def bodyP (l : List UInt8) : List UInt8 := (l.drop 3).take (szP l)
theorem body_at {w : World} {v : Value} {l : List UInt8} (h : BIs w v l) (hf : firstP l ≠ 0) :
    Calls Tryz.prog 101 #[v, .int .i64 (firstP l : Nat)] w fun e w' => ∃ v', e = .returned v' ∧ OwnBy w' w.heap.size v' (bodyP l) ∧ Below w.heap.size w w' := by
  obtain ⟨m, hm, hlen, h16, hfm, _, hle⟩ := firstP_pos hf
  obtain ⟨a, cap, rfl, h1, h2, h3⟩ := h.at (by intro e; rw [e] at hle; simp at hle)
  rw [hfm]
  unfold bodyP
  rw [← hlen]
  exact body_any h3 rfl h1 h2 hle h16

theorem OwnBy.lower {w : World} {b b' : Nat} {v : Value} {l : List UInt8} (h : OwnBy w b v l) (hb : b' ≤ b) : OwnBy w b' v l := by
  rcases h with h | ⟨g, c, rfl, h⟩
  · exact .inl h
  · exact .inr ⟨g, c, rfl, ⟨Nat.le_trans hb h.new, h.lt, h.le, h.max, h.holds, h.there⟩⟩
theorem bis_empty {w : World} (A : Option Addr) (c : Nat) (hc : c ≤ maxLen) : BIs w (.slice A 0 c) [] := ⟨A, c, rfl, Nat.zero_le _, hc, fun i b hi => by simp at hi⟩
end Go.Proofs.YtmbonngjkgcijaaGreatDoor
