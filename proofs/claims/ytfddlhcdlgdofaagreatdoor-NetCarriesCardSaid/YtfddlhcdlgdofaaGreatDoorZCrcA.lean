/- crc.Sum over any parts, and the reference's. -/
import Derived.Test.YtfddlhcdlgdofaaGreatDoorZCrcP
import Derived.Test.YtfddlhcdlgdofaaGreatDoorZBasA
import Derived.Test.YtfddlhcdlgdofaaGreatDoorProg
import Derived.WalkKit
import Derived.WalkSpells
import Derived.WalkLawsBesides
import Derived.Stop.Asserts
import Derived.Lib.Hide
import Derived.OwnWalk
import Derived.Deep.Slices
import Derived.Deep.LoopGhost
import Derived.Deep.AppendSrc
import Derived.Deep.Upon
import Derived.Room.Entries
set_option linter.unusedSimpArgs false
set_option linter.unusedVariables false
set_option linter.unnecessarySimpa false
namespace Go.Proofs.YtfddlhcdlgdofaaGreatDoor
open Go.RowKit

/-- The package's table stands. -/
def Mov (w : World) : Prop := ∀ (r t : Nat), tab[r]? = some t → w.cell? ⟨0, r, none⟩ = some (.int .u32 (t : Int))
theorem Mov.lt {w : World} (h : Mov w) : 0 < w.heap.size := by
  refine Classical.byContradiction fun h0 => ?_
  have := h 0 0 rfl
  simp [World.cell?, Array.getElem?_eq_none (Nat.le_of_not_lt h0)] at this
theorem Mov.below {w W : World} (h : Mov w) (hW : Below w.heap.size w W) : Mov W := fun r t ht => (hW.cell (p := ⟨0, r, none⟩) h.lt).trans (h r t ht)

/-- A value that reads as bytes. -/
def BIs (w : World) (v : Value) (l : List UInt8) : Prop :=
  ∃ A cap, v = .slice A l.length cap ∧ l.length ≤ cap ∧ cap ≤ maxLen ∧ ∀ i b, l[i]? = some b → ∃ a : Addr, A = some a ∧ a.block < w.heap.size ∧ w.cell? (a.add i) = some (.int .u8 (b.toNat : Int))
/-- A value that reads as slices of bytes. -/
def PIs (w : World) (v : Value) (ls : List (List UInt8)) : Prop :=
  ∃ A cap, v = .slice A ls.length cap ∧ ls.length ≤ cap ∧ cap ≤ maxLen ∧ ∀ i l, ls[i]? = some l → ∃ (a : Addr) (x : Value), A = some a ∧ a.block < w.heap.size ∧ w.cell? (a.add i) = some x ∧ BIs w x l
theorem BIs.below {w w' : World} {v : Value} {l : List UInt8} (h : BIs w v l) (hb : Below w.heap.size w w') : BIs w' v l := by
  obtain ⟨A, cap, rfl, h1, h2, h3⟩ := h
  refine ⟨A, cap, rfl, h1, h2, fun i b hi => ?_⟩
  obtain ⟨a, q1, q2, q3⟩ := h3 i b hi
  exact ⟨a, q1, Nat.lt_of_lt_of_le q2 hb.size, (hb.cell (by rw [add_block]; exact q2)).trans q3⟩
theorem PIs.below {w w' : World} {v : Value} {ls : List (List UInt8)} (h : PIs w v ls) (hb : Below w.heap.size w w') : PIs w' v ls := by
  obtain ⟨A, cap, rfl, h1, h2, h3⟩ := h
  refine ⟨A, cap, rfl, h1, h2, fun i l hi => ?_⟩
  obtain ⟨a, x, q1, q2, q3, q4⟩ := h3 i l hi
  exact ⟨a, x, q1, Nat.lt_of_lt_of_le q2 hb.size, (hb.cell (by rw [add_block]; exact q2)).trans q3, q4.below hb⟩

theorem and15 (T : Nat) (hT : T < 4294967296) : bits .and .u32 (T : Int) 15 = ((T % 16 : Nat) : Int) := by
  have := u32_and_nat T 15 hT (by decide)
  rw [show ((15 : Nat) : Int) = 15 from rfl] at this
  rw [this]
  congr 1
  exact Nat.and_two_pow_sub_one_eq_mod T 4
/-- One look-up of the table: four steps. -/
theorem look {w : World} (hM : Mov w) (T : Nat) (hT : T < 4294967296) : ∃ (r t U : Nat), U = bs4 T ∧ U < 4294967296 ∧ (r : Int) < 16 ∧ bits .and .u32 (T : Int) 15 = (r : Int) ∧ w.cell? ⟨0, r, none⟩ = some (.int .u32 (t : Int)) ∧ bits .xor .u32 ((T : Int) / 16) (t : Int) = (U : Int) := by
  obtain ⟨t, h1, h2, h3⟩ := tab_step T
  refine ⟨T % 16, t, bs4 T, rfl, bs4_lt hT, by omega, and15 T hT, hM _ _ h1, ?_⟩
  rw [← h2, ← u32_xor_nat (T / 16) t (by omega) h3]
  rfl

set_option maxRecDepth 100000 in
set_option maxHeartbeats 1000000 in
theorem sum_any {w : World} {v : Value} {ls : List (List UInt8)} (hM : Mov w) (h : PIs w v ls) :
    Calls Tryz.prog 148 #[v] w fun e w' => e = .returned (.int .u32 (sumB ls.flatten : Nat)) ∧ w = w' := by
  obtain ⟨A, cap, rfl, h1, h2, h3⟩ := h
  unfold maxLen at h2
  have H3 := Lib.hid h3
  have HM := Lib.hid hM
  have h2' : ls.length ≤ 9223372036854775807 := by omega
  clear h3 hM
  go_enter Tryz.func148, Tryz.ntmps148
  go_wp2_with fail
  go_loopw [3, 10] (fun s i wr => ∃ k : Nat, k ≤ ls.length ∧ i = .int .i64 k ∧ s = .int .u32 (crcL 4294967295 (ls.take k).flatten : Nat) ∧ w = wr) (fun _ i _ => ls.length - (intOf i).toNat)
  case atStart => exact ⟨0, by omega, rfl, rfl, rfl⟩
  case round =>
    obtain ⟨k, hk, rfl, rfl, rfl⟩ := hrel
    by_cases hlt : k < ls.length
    · obtain ⟨a, x, rfl, hab, hcx, hB⟩ := H3.out k ls[k] (List.getElem?_eq_getElem hlt)
      obtain ⟨B, cx, rfl, g1, g2, g3⟩ := hB
      unfold maxLen at g2
      have G3 := Lib.hid g3
      generalize hl : ls[k] = l at *
      have HL := Lib.hid hl
      clear hl g3
      go_wp2_with fail
      go_loopw [3, 16] (fun s i wr => ∃ j : Nat, j ≤ l.length ∧ i = .int .i64 j ∧ s = .int .u32 (crcL (crcL 4294967295 (ls.take k).flatten) (l.take j) : Nat) ∧ w = wr) (fun _ i _ => l.length - (intOf i).toNat)
      case atStart => exact ⟨0, by omega, rfl, rfl, rfl⟩
      case round =>
        obtain ⟨j, hj, rfl, rfl, rfl⟩ := hrel
        by_cases hlt2 : j < l.length
        · obtain ⟨c, rfl, hcb, hc⟩ := G3.out j l[j] (List.getElem?_eq_getElem hlt2)
          have hs0 : crcL (crcL 4294967295 (ls.take k).flatten) (l.take j) < 4294967296 := crcL_lt (crcL_lt (by decide) _) _
          generalize hS : crcL (crcL 4294967295 (ls.take k).flatten) (l.take j) = S at *
          generalize hx : l[j] = x at *
          have hx8 : (x.toNat : Int) < 256 := by have := UInt8.toNat_lt x; omega
          have hx32 := u8_lt x
          have hxor := u32_xor_nat S x.toNat hs0 hx32
          have hT := xor_lt32 hs0 hx32
          have hZ : Hid (bs8 (S ^^^ x.toNat) = crcL (crcL 4294967295 (ls.take k).flatten) (l.take (j + 1))) := by
            show _ = _
            rw [List.take_succ_eq_append_getElem hlt2, crcL_snoc, hS, hx]
          generalize S ^^^ x.toNat = T at *
          obtain ⟨r1, t1, U, hU, hU2, hr1, ha1, hc1, hx1⟩ := look HM.out T hT
          obtain ⟨r2, t2, V, hV, hV2, hr2, ha2, hc2, hx2⟩ := look HM.out U hU2
          have hZ2 : Hid (V = crcL (crcL 4294967295 (ls.take k).flatten) (l.take (j + 1))) := by
            show _ = _
            rw [← hZ.out, hV, hU]; rfl
          clear hZ hU hV hT hU2 hV2 hs0 hx32 hS hx
          go_wp2_with fail
          go_roundw
          case rel => exact ⟨j + 1, by omega, by go_num, by rw [hZ2.out], by first | rfl | trivial⟩
          case measure => simp [intOf]; omega
        · obtain rfl : j = l.length := by omega
          have hZ : Hid (crcL (crcL 4294967295 (ls.take k).flatten) (l.take l.length) = crcL 4294967295 (ls.take (k + 1)).flatten) := by
            show _ = _
            rw [List.take_length, List.take_succ_eq_append_getElem hlt, List.flatten_append, crcL_append, HL.out]; simp
          go_wp2_with fail
          go_roundw
          case rel => exact ⟨k + 1, by omega, by go_num, by rw [hZ.out], by first | rfl | trivial⟩
          case measure => simp [intOf]; omega
    · obtain rfl : k = ls.length := by omega
      have hN : Hid (bits .xor .u32 IntKind.u32.max (crcL 4294967295 ls.flatten : Nat) = (sumB ls.flatten : Nat)) := by
        show _ = _
        have h1 := crcL_lt (s := 4294967295) (by decide) ls.flatten
        rw [show IntKind.u32.max = ((4294967295 : Nat) : Int) from by decide, u32_xor_nat _ _ (by decide) h1, Nat.xor_comm]
        rfl
      rw [List.take_length]
      go_wp2_with fail
      go_ret
      rw [hN.out]
      exact ⟨rfl, rfl⟩
end Go.Proofs.YtfddlhcdlgdofaaGreatDoor
