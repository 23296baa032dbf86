/- The document's own writers of bytes: Nat, Num, Str. (Of stage 1's OctV, OctX.) -/
import Derived.Test.YtabfbnpbgdlinaaGreatDoorZOmwC
import Derived.Deep.LoopGhost
import Derived.Lib.ItoaNum
import Derived.Lib.AtoiErrMem
set_option linter.unusedSimpArgs false
set_option linter.unusedVariables false
set_option linter.unnecessarySimpa false
namespace Go.Proofs.YtabfbnpbgdlinaaGreatDoor
open Go.RowKit Go.Shelf Go.Lib

theorem own_one (w : World) (x : Int) (b : UInt8) (hx : x = (b.toNat : Int)) : OwnBy (w.alloc (.cells #[.int .u8 x] 5)) w.heap.size (.slice (some ⟨w.heap.size, 0, none⟩) 1 1) [b] := by
  subst hx
  exact .inr ⟨w.heap.size, 1, rfl, ⟨Nat.le_refl _, by simp, Nat.le_refl _, by unfold maxLen; omega, fun j c hj => by
    rw [cell_of_row _ _ _ _ _ _ (heap_alloc_new w _)]
    match j with
    | 0 => simp at hj; subst hj; rfl
    | j + 1 => simp at hj, fun j hj => ⟨by
      rw [cell_of_row _ _ _ _ _ _ (heap_alloc_new w _)]
      obtain rfl : j = 0 := by omega
      rfl, free0 (heap_alloc_new w _) j⟩⟩⟩
theorem byte_val (m : Nat) : ((m : Int) % 256) = ((UInt8.ofNat (m % 256)).toNat : Int) := by simp
set_option maxRecDepth 100000 in
set_option maxHeartbeats 2000000 in
theorem fnat_any (n : Nat) (hn : n ≤ 18446744073709551615) (w : World) :
    Calls Tryz.prog 123 #[.int .u64 (n : Int)] w fun e w' => ∃ v, e = .returned v ∧ OwnBy w' w.heap.size v (natB n) ∧ Below w.heap.size w w' := by
  have hs8 := sizeB_le n hn
  go_enter Tryz.func123, Tryz.ntmps123
  go_wp2_with fail
  go_loopg [0, 3] (sizeB n) (fun g m b wr => ∃ j : Nat, j ≤ sizeB n ∧ g = sizeB n - j ∧ m = .int .u64 ((n / 256 ^ j : Nat) : Int) ∧ OwnBy wr w.heap.size b (beB j n) ∧ Below w.heap.size w wr)
  case atStart => exact ⟨0, by omega, by omega, by simp, .inl ⟨rfl, rfl⟩, Below.refl _ _⟩
  case round =>
    obtain ⟨j, hj, hg, rfl, hown, hb⟩ := hrel
    have hG := Lib.hid hg
    clear hg
    have hm0 : n / 256 ^ j ≤ n := Nat.div_le_self _ _
    have hm1 : ((n / 256 ^ j : Nat) : Int) ≤ 18446744073709551615 := by omega
    have hsp := sizeB_spec n hn j
    generalize hm : n / 256 ^ j = m at *
    have HM := Lib.hid hm
    clear hm
    obtain ⟨Ab, cb, rfl⟩ := hown.len
    rw [beB_length] at hown ⊢
    by_cases hlt : j < sizeB n
    · have hmp : (0 : Int) < (m : Int) := by have := hsp.1 hlt; omega
      have HO := Lib.hid hown
      have HB := Lib.hid hb
      have src := Lib.hid (src_any (hown.below ((Below.refl _ _).alloc (Nat.le_refl _) (.cells #[.int .u8 ((m : Int) % 256)] 5))))
      rw [beB_length] at src
      have own := Lib.hid (own_one wr ((m : Int) % 256) (UInt8.ofNat (m % 256)) (byte_val m))
      clear hown hb hsp
      go_wp2_with (at_builtin; refine wpList_append_by _ rfl _ _ 54 rfl wr.heap.size [UInt8.ofNat (m % 256)] (beB j n) _ _ rfl rfl own.out ?_ ?_ ?_ ?_)
      · rw [beB_length]; exact src.out
      · rw [beB_length]; simp; omega
      · simp
      intro v' w' hown hg
      have hsz : w.heap.size ≤ wr.heap.size := HB.out.size
      have HOWN := Lib.hid (hown.mono hsz)
      have HB2 := Lib.hid ((HB.out.alloc hsz (.cells #[.int .u8 ((m : Int) % 256)] 5)).grown hg (by rw [World.size_alloc]; omega) (by intro k hk; cases hk; exact hsz))
      clear hown hg src own
      have q0 : (0 : Int) ≤ (m : Int) / 256 := by omega
      have q1 : (m : Int) / 256 ≤ 18446744073709551615 := by omega
      go_wp2
      go_roundg (sizeB n - (j + 1))
      case measure => rw [hG.out]; omega
      case rel =>
        refine ⟨j + 1, by omega, rfl, ?_, by rw [beB_cons, HM.out]; exact HOWN.out, HB2.out⟩
        rw [Nat.pow_succ, ← Nat.div_div_eq_div_mul, HM.out]
        simp
    · have hm : m = 0 := by
        have := mt hsp.2 hlt
        omega
      obtain rfl : j = sizeB n := by omega
      have HO := Lib.hid hown
      have HB := Lib.hid hb
      have src := Lib.hid (src_any (hown.below ((Below.refl _ _).alloc (Nat.le_refl _) (.cells #[.int .u8 ((sizeB n : Int))] 5))))
      rw [beB_length] at src
      have own := Lib.hid (own_one wr (sizeB n : Int) (UInt8.ofNat (sizeB n)) (by simp; omega))
      clear hown hb hsp
      subst hm
      generalize hs : sizeB n = s at *
      have HS := Lib.hid hs
      clear hs
      have r1 : (s : Int) % 256 = (s : Int) := by omega
      have r2 : (s : Int) ≤ 8 := by omega
      go_wp2_with (at_builtin; refine wpList_append_by _ rfl _ _ 54 rfl wr.heap.size [UInt8.ofNat s] (beB s n) _ _ rfl rfl own.out ?_ ?_ ?_ ?_)
      · rw [beB_length]; exact src.out
      · rw [beB_length]; simp; omega
      · simp
      intro v' w' hown hg
      have hsz : w.heap.size ≤ wr.heap.size := HB.out.size
      have HOWN := Lib.hid (hown.mono hsz)
      have HB2 := Lib.hid ((HB.out.alloc hsz (.cells #[.int .u8 (s : Int)] 5)).grown hg (by rw [World.size_alloc]; omega) (by intro k hk; cases hk; exact hsz))
      clear hown hg src own
      go_wp2
      go_ret
      refine ⟨_, rfl, ?_, HB2.out⟩
      unfold natB
      rw [HS.out]
      exact HOWN.out
set_option maxRecDepth 100000 in
set_option maxHeartbeats 1000000 in
theorem fnum_any (m : Int) (h0 : -9223372036854775808 ≤ m) (h1 : m ≤ 9223372036854775807) (w : World) :
    Calls Tryz.prog 124 #[.int .i64 m] w fun e w' => ∃ v, e = .returned v ∧ OwnBy w' w.heap.size v (natB (numN m)) ∧ Below w.heap.size w w' := by
  have HN := Lib.hid (fnat_any (numN m) (by unfold numN; split <;> omega) w)
  by_cases hm : m < 0
  · have HE : Hid ((numN m : Int) = 2 * (-1 - m) + 1) := by show (numN m : Int) = _; unfold numN; rw [if_pos hm]; omega
    go_enter Tryz.func124, Tryz.ntmps124
    go_wp2_with fail
    rw [show (2 * (-1 - m) + 1 : Int) = (numN m : Int) from HE.out.symm]
    refine (HN.out).mono ?_
    rintro e w1 ⟨v, rfl, hO, hB⟩
    have HO := Lib.hid hO
    have HB := Lib.hid hB
    clear hO hB
    go_wp2
    go_ret
    exact ⟨_, rfl, HO.out, HB.out⟩
  · have HE : Hid ((numN m : Int) = 2 * m) := by show (numN m : Int) = _; unfold numN; rw [if_neg hm]; omega
    have hm' : 0 ≤ m := by omega
    clear hm
    go_enter Tryz.func124, Tryz.ntmps124
    go_wp2_with fail
    rw [show (2 * m : Int) = (numN m : Int) from HE.out.symm]
    refine (HN.out).mono ?_
    rintro e w1 ⟨v, rfl, hO, hB⟩
    have HO := Lib.hid hO
    have HB := Lib.hid hB
    clear hO hB
    go_wp2
    go_ret
    exact ⟨_, rfl, HO.out, HB.out⟩
theorem src_bytes (w : World) (s : ByteArray) : Src Tryz.prog 1 54 (.slice (some ⟨w.heap.size, 0, none⟩) s.size (grownCap w s.size 0 5)) s.data.toList.length (bc s.data.toList) (Lib.bytesWorld w 5 s) := by
  have hl : s.data.toList.length = s.size := by simp
  have := Src.ofSlice (w := Lib.bytesWorld w 5 s) (size := 1) (P := Tryz.prog) Tryz.underlying54 ⟨w.heap.size, 0, none⟩ s.size (grownCap w s.size 0 5) (bc s.data.toList) (by rw [bc_length, hl]; omega) (fun j u hu => by
    obtain ⟨b, hb, rfl⟩ := bc_at hu
    have hj : j < s.size := by rw [← hl]; exact (List.getElem?_eq_some_iff.1 hb).1
    rw [add0, Lib.bytesWorld_cell w 5 s j hj]
    simp only [List.getD, hb]; rfl) (bc_one _)
  rw [hl]; exact this
set_option maxRecDepth 100000 in
set_option maxHeartbeats 1000000 in
theorem fstr_any (s : ByteArray) (hs : s.size ≤ 536870912) (w : World) :
    Calls Tryz.prog 126 #[.string s] w fun e w' => ∃ v, e = .returned v ∧ OwnBy w' w.heap.size v (strB s) ∧ Below w.heap.size w w' := by
  have HN := Lib.hid (fnat_any s.size (by omega) w)
  have hz : (s.size : Int) ≤ 536870912 := by omega
  have hz0 : (0 : Int) ≤ (s.size : Int) := by omega
  go_enter Tryz.func126, Tryz.ntmps126
  go_wp2_with fail
  refine (HN.out).mono ?_
  rintro e w1 ⟨v, rfl, hO, hB⟩
  have HO := Lib.hid hO
  have HB := Lib.hid hB
  clear hO hB
  go_wp2_with fail
  rw [Lib.run_convert_string_bytes (P := Tryz.prog) w1 9 54 5 s Tryz.underlying9 Tryz.underlying54 Tryz.underlying5]
  have hb2 := Lib.bytesWorld_below w1 5 s
  have src := src_bytes w1 s
  have HOv := Lib.hid (HO.out.below hb2)
  have HB2 := Lib.hid (HB.out.trans (hb2.mono HB.out.size))
  generalize Lib.bytesWorld w1 5 s = w2 at *
  generalize grownCap w1 s.size 0 5 = cap at *
  have SRC := Lib.hid src
  have hlen : (natB s.size).length + s.data.toList.length ≤ 1073741824 := by
    have := sizeB_le s.size (by omega)
    have h2 : s.data.toList.length = s.size := by simp
    rw [natB_len, h2]; omega
  have HL := Lib.hid hlen
  clear hb2 src hlen
  go_wp2_with (at_builtin; refine wpList_append_by _ rfl _ _ 54 rfl w.heap.size (natB s.size) s.data.toList _ _ rfl rfl HOv.out SRC.out HL.out HB2.out.size ?_)
  intro v' w' hown hg
  have HO' := Lib.hid hown
  have HB' := Lib.hid (HB2.out.grown hg HB2.out.size HOv.out.rows)
  clear hown hg
  go_wp2
  go_ret
  exact ⟨_, rfl, HO'.out, HB'.out⟩
end Go.Proofs.YtabfbnpbgdlinaaGreatDoor
