/- The reference's Sum; crc.word. -/
import Derived.Test.YtabfbnpbgdlinaaGreatDoorZCrcF
import Derived.Laws.IdiomStrings
set_option linter.unusedSimpArgs false
set_option linter.unusedVariables false
set_option linter.unnecessarySimpa false
namespace Go.Proofs.YtabfbnpbgdlinaaGreatDoor
open Go.RowKit

theorem bs_bitc (S β : Nat) (hβ : β ≤ 1) : bs (S ^^^ β) = if β = S % 2 then S / 2 else S / 2 ^^^ pol := by
  have h1 : bs 1 = pol := by decide
  rcases Nat.lt_or_ge 0 β with h | h
  · obtain rfl : β = 1 := by omega
    rw [bs_xor, h1]
    unfold bs
    by_cases hs : S % 2 = 1
    · rw [if_pos hs, if_pos hs.symm, Nat.xor_assoc, Nat.xor_self, Nat.xor_zero]
    · rw [if_neg hs, if_neg (fun h => hs h.symm)]
  · obtain rfl : β = 0 := by omega
    rw [Nat.xor_zero]
    unfold bs
    by_cases hs : S % 2 = 1
    · rw [if_pos hs, if_neg (by omega)]
    · rw [if_neg hs, if_pos (by omega)]

set_option maxRecDepth 100000 in
set_option maxHeartbeats 1000000 in
theorem rsum_any {w : World} {v : Value} {l : List UInt8} (h : BIs w v l) (hl : l.length ≤ 1000000) :
    Calls Tryz.prog 157 #[v] w fun e w' => e = .returned (.int .u32 (sumB l : Nat)) ∧ w = w' := by
  obtain ⟨A, cap, rfl, h1, h2, h3⟩ := h
  unfold maxLen at h2
  have H3 := Lib.hid h3
  have hl' : (l.length : Int) ≤ 1000000 := by omega
  clear h3
  go_enter Tryz.func157, Tryz.ntmps157
  go_wp2_with fail
  go_loopw [3, 4] (fun s i wr => ∃ k : Nat, k ≤ 8 * l.length ∧ i = .int .i64 k ∧ s = .int .u32 (refS l k : Nat) ∧ w = wr) (fun _ i _ => 8 * l.length - (intOf i).toNat)
  case atStart => exact ⟨0, by omega, rfl, rfl, rfl⟩
  case round =>
    obtain ⟨k, hk, rfl, rfl, rfl⟩ := hrel
    by_cases hlt : k < 8 * l.length
    · obtain ⟨c, rfl, hcb, hc⟩ := H3.out (k / 8) l[k / 8] (List.getElem?_eq_getElem (by omega))
      have hs0 := refS_lt l k
      have hk8 : (k : Int) < 8 * (l.length : Int) := by omega
      have hx' : l[k / 8]? = some l[k / 8] := List.getElem?_eq_getElem (by omega)
      have hS1 : refS l (k + 1) = bs (refS l k ^^^ bitAt l k) := rfl
      have hb1 : bitAt l k = l[k / 8].toNat / 2 ^ (k % 8) % 2 := by unfold bitAt; rw [hx']; rfl
      have hbl := bitAt_le l k
      rw [bs_bitc _ _ hbl] at hS1
      rw [hb1] at hS1
      clear hx' hb1 hbl
      generalize refS l k = S at *
      generalize l[k / 8] = x at *
      have hx8 : (x.toNat : Int) < 256 := by have := UInt8.toNat_lt x; omega
      by_cases hb : x.toNat / 2 ^ (k % 8) % 2 = S % 2
      · rw [if_pos hb] at hS1
        have hb' : ((x.toNat : Int) / 2 ^ (k % 8) % 2 != (S : Int) % 2) = false := by
          rw [bne_eq_false_iff_eq]
          exact_mod_cast hb
        have HS := Lib.hid hS1
        clear hb hS1
        go_wp2_with fail
        all_goals (go_roundw)
        case rel => exact ⟨k + 1, by omega, by go_num, by rw [HS.out]; rfl, by first | rfl | trivial⟩
        case measure => simp [intOf]; omega
      · rw [if_neg hb] at hS1
        have hb' : ((x.toNat : Int) / 2 ^ (k % 8) % 2 != (S : Int) % 2) = true := by
          rw [bne_iff_ne]
          exact_mod_cast hb
        have hxor := u32_xor_nat (S / 2) pol (by omega) (by decide)
        rw [← hS1, show ((S / 2 : Nat) : Int) = (S : Int) / 2 from rfl, show ((pol : Nat) : Int) = 2197175160 from rfl] at hxor
        clear hb hS1
        go_wp2_with fail
        go_roundw
        case rel => exact ⟨k + 1, by omega, by go_num, rfl, by first | rfl | trivial⟩
        case measure => simp [intOf]; omega
    · obtain rfl : k = 8 * l.length := by omega
      have hN : Hid ((4294967295 - (refS l (8 * l.length) : Nat) : Int) = (sumB l : Nat)) := by
        show _ = _
        have h1 := refS_lt l (8 * l.length)
        have h2 := refS_crc l l.length (Nat.le_refl _)
        rw [List.take_length] at h2
        rw [sumB_eq, ← h2]; omega
      have hlt' := refS_lt l (8 * l.length)
      go_wp2_with fail
      go_ret
      refine ⟨?_, rfl⟩
      rw [← hN.out]
      rfl
set_option maxRecDepth 100000 in
set_option maxHeartbeats 2000000 in
theorem rwrap_any {w : World} {v : Value} {l : List UInt8} (h : BIs w v l) (hl : l.length ≤ 16384) :
    Calls Tryz.prog 125 #[v] w fun e w' => ∃ x, e = .returned x ∧ OwnBy w' w.heap.size x (frameB l) ∧ Below w.heap.size w w' := by
  have HBI := Lib.hid h
  obtain ⟨A, cap, rfl, _, _, h3⟩ := h
  have HPL : Hid ((preB l).length = l.length + 3) := preB_len l
  have HLEN : Hid (frameB l = preB l ++ be4 (sumB (preB l))) := rfl
  have HPRE : Hid (preB l = headB l.length ++ l) := rfl
  have hT : (l.length : Int) ≤ 16384 := by omega
  clear h3
  generalize hTT : l.length = T at *
  have HTT := Lib.hid hTT
  have hcells : (bc (headB T)).toArray = #[.int .u8 167, .int .u8 ((T : Int) / 256), .int .u8 ((T : Int) % 256)] := by
    have e1 : (((T / 256).toUInt8.toNat : Nat) : Int) = (T : Int) / 256 := by rw [u8_mod]; omega
    have e2 : ((T.toUInt8.toNat : Nat) : Int) = (T : Int) % 256 := by rw [u8_mod]; omega
    simp only [bc, headB, List.map_cons, List.map_nil, e1, e2]
    rfl
  have hW : Below w.heap.size w (w.alloc (.cells #[.int .u8 167, .int .u8 ((T : Int) / 256), .int .u8 ((T : Int) % 256)] 5)) := (Below.refl _ _).alloc (Nat.le_refl _) _
  have own0 : Hid (OwnBy (w.alloc (.cells #[.int .u8 167, .int .u8 ((T : Int) / 256), .int .u8 ((T : Int) % 256)] 5)) w.heap.size (.slice (some ⟨w.heap.size, 0, none⟩) 3 3) (headB T)) := by
    have := new_own w (headB T) (by simp [headB])
    rw [hcells] at this
    exact this
  have src : Hid (Src Tryz.prog 1 54 (.slice A T cap) l.length (bc l) (w.alloc (.cells #[.int .u8 167, .int .u8 ((T : Int) / 256), .int .u8 ((T : Int) % 256)] 5))) := (HBI.out.below hW).src
  rw [hTT] at src
  have HW := Lib.hid hW
  have q1 : ¬ (16384 : Int) < (T : Int) := by omega
  clear hcells hW hTT hl
  go_enter Tryz.func125, Tryz.ntmps125
  go_wp2_with (at_builtin; refine wpList_append_by _ rfl _ _ 54 rfl w.heap.size (headB T) l _ _ rfl rfl own0.out (by rw [HTT.out]; exact src.out) ?_ ?_ ?_)
  · have : (headB T).length = 3 := rfl
    have := HTT.out
    omega
  intro v' w1 hown hg
  rw [← HPRE.out] at hown
  have HO := Lib.hid hown
  have HB := Lib.hid (HW.out.grown hg HW.out.size own0.out.rows)
  have HSUM := Lib.hid (rsum_any hown.bis (by rw [HPL.out]; omega))
  generalize preB l = F at *
  obtain ⟨A6, c6, rfl, g1, g2, g3⟩ := hown.bis
  have hS := sumB_lt F
  generalize sumB F = S at *
  have hS' : (S : Int) < 4294967296 := by omega
  have HS := Lib.hid hS
  clear hown hg g3 hS
  go_wp2_with fail
  refine (HSUM.out).mono ?_
  rintro e w2 ⟨rfl, rfl⟩
  have SRC := Lib.hid (new_word w1 S HS.out)
  have hA2 : Below w1.heap.size w1 (w1.alloc (.cells #[.int .u8 ((S : Int) / 16777216), .int .u8 ((S : Int) / 65536 % 256), .int .u8 ((S : Int) / 256 % 256), .int .u8 ((S : Int) % 256)] 5)) := (Below.refl _ _).alloc (Nat.le_refl _) _
  have HOB := Lib.hid (HO.out.below hA2)
  have HAB := Lib.hid (HB.out.trans (hA2.mono HB.out.size))
  clear hA2
  go_wp2_with (at_builtin; refine wpList_append_by _ rfl _ _ 54 rfl w.heap.size F (be4 S) _ _ rfl rfl HOB.out SRC.out ?_ HAB.out.size ?_)
  · rw [HPL.out]
    have : (be4 S).length = 4 := rfl
    omega
  intro v' w' hown hg
  have HO' := Lib.hid hown
  have HB' := Lib.hid (HAB.out.grown hg HAB.out.size HOB.out.rows)
  clear hown hg
  go_wp2
  go_ret
  exact ⟨_, rfl, by rw [HLEN.out]; exact HO'.out, HB'.out⟩
end Go.Proofs.YtabfbnpbgdlinaaGreatDoor
