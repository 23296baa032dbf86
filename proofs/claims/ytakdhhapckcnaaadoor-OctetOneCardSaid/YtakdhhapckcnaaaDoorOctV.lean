/- The reference functions Nat, Num, Str, Yes and Strs of layer 2: the same bytes as package octet's. -/
import Derived.Test.YtakdhhapckcnaaaDoorOctU
import Derived.Lib.ItoaNum
set_option linter.unusedSimpArgs false
set_option linter.unusedVariables false
set_option linter.unnecessarySimpa false
namespace Go.Proofs.YtakdhhapckcnaaaDoor
open Go.RowKit

theorem beB_cons (j n : Nat) : beB (j + 1) n = UInt8.ofNat (n / 256 ^ j % 256) :: beB j n := by
  induction j generalizing n with
  | zero => simp [beB]
  | succ j ih =>
    rw [beB, ih, beB, Nat.div_div_eq_div_mul, Nat.pow_succ, Nat.mul_comm 256]
    rfl
theorem sizeB_spec (n : Nat) (hn : n ≤ 18446744073709551615) (j : Nat) : j < sizeB n ↔ n / 256 ^ j ≠ 0 := by
  by_cases h0 : n = 0
  · subst h0
    have : sizeB 0 = 0 := by decide
    rw [this]; simp
  · have hb := Lib.bitLenAux_bounds 64 n (by omega) h0
    have e : 256 ^ j = 2 ^ (8 * j) := by rw [Nat.pow_mul]
    have hd : n / 256 ^ j ≠ 0 ↔ 256 ^ j ≤ n := by
      rw [Ne, Nat.div_eq_zero_iff]
      have : 0 < 256 ^ j := Nat.pow_pos (by omega)
      omega
    rw [hd, e]
    have hs : sizeB n = (Lib.bitLenAux 64 n + 7) / 8 := rfl
    rw [hs]
    constructor
    · intro h
      exact Nat.le_trans (Nat.pow_le_pow_right (by omega) (by omega)) hb.2.1
    · intro h
      have h1 : 2 ^ (8 * j) < 2 ^ Lib.bitLenAux 64 n := Nat.lt_of_le_of_lt h hb.2.2
      have h2 := (Nat.pow_lt_pow_iff_right (by omega : 1 < 2)).1 h1
      omega
theorem src_any {w : World} {base : Nat} {v : Value} {l : List UInt8} (h : OwnBy w base v l) : Src Tryd.prog 1 54 v l.length (bc l) w := by
  by_cases hl : l = []
  · subst hl
    rcases h with ⟨rfl, _⟩ | ⟨g, cap, rfl, h⟩
    · exact Src.ofNil w Tryd.underlying54 0
    · exact Src.ofSlice _ Tryd.underlying54 ⟨g, 0, none⟩ 0 cap [] rfl (fun j u hu => by simp at hu) (fun u hu => by cases hu)
  · exact src_own h hl
theorem own_one (w : World) (x : Int) (b : UInt8) (hx : x = (b.toNat : Int)) : OwnBy (w.alloc (.cells #[.int .u8 x] 5)) w.heap.size (.slice (some ⟨w.heap.size, 0, none⟩) 1 1) [b] := by
  subst hx
  exact .inr ⟨w.heap.size, 1, rfl, ⟨Nat.le_refl _, by simp, Nat.le_refl _, by unfold maxLen; omega, fun j c hj => by
    rw [cell_of_row _ _ _ _ _ _ (heap_alloc_new w _)]
    match j with
    | 0 => simp at hj; subst hj; rfl
    | j + 1 => simp at hj, fun j hj => ⟨by
      rw [cell_of_row _ _ _ _ _ _ (heap_alloc_new w _)]
      obtain rfl : j = 0 := by omega
      rfl, free0 (heap_alloc_new w _) j⟩⟩⟩
theorem byte_val (m : Nat) : ((m : Int) % 256) = ((UInt8.ofNat (m % 256)).toNat : Int) := by simp
theorem OwnBy.mono {w : World} {base base' : Nat} {v : Value} {l : List UInt8} (h : OwnBy w base v l) (hb : base' ≤ base) : OwnBy w base' v l := by
  rcases h with h | ⟨g, cap, rfl, h⟩
  · exact .inl h
  · exact .inr ⟨g, cap, rfl, ⟨Nat.le_trans hb h.new, h.lt, h.le, h.max, h.holds, h.there⟩⟩
theorem OwnBy.len {w : World} {base : Nat} {v : Value} {l : List UInt8} (h : OwnBy w base v l) : ∃ A cap, v = .slice A l.length cap := by
  rcases h with ⟨rfl, rfl⟩ | ⟨g, cap, rfl, _⟩
  · exact ⟨_, _, rfl⟩
  · exact ⟨_, _, rfl⟩
set_option maxRecDepth 100000 in
set_option maxHeartbeats 2000000 in
theorem fnat_any (n : Nat) (hn : n ≤ 18446744073709551615) (w : World) :
    Calls Tryd.prog 40 #[.int .u64 (n : Int)] w fun e w' => ∃ v, e = .returned v ∧ OwnBy w' w.heap.size v (natB n) ∧ Below w.heap.size w w' := by
  have hs8 := sizeB_le n hn
  go_enter Tryd.func40, Tryd.ntmps40
  go_wp2_with fail
  go_loopg [0, 3] (sizeB n) (fun g m b wr => ∃ j : Nat, j ≤ sizeB n ∧ g = sizeB n - j ∧ m = .int .u64 ((n / 256 ^ j : Nat) : Int) ∧ OwnBy wr w.heap.size b (beB j n) ∧ Below w.heap.size w wr)
  case atStart => exact ⟨0, by omega, by omega, by simp, .inl ⟨rfl, rfl⟩, Below.refl _ _⟩
  case round =>
    obtain ⟨j, hj, hg, rfl, hown, hb⟩ := hrel
    have hG := Lib.hid hg
    clear hg
    have hm0 : n / 256 ^ j ≤ n := Nat.div_le_self _ _
    have hm1 : ((n / 256 ^ j : Nat) : Int) ≤ 18446744073709551615 := by omega
    have hsp := sizeB_spec n hn j
    generalize hm : n / 256 ^ j = m at *
    have HM := Lib.hid hm
    clear hm
    obtain ⟨Ab, cb, rfl⟩ := hown.len
    rw [beB_length] at hown ⊢
    by_cases hlt : j < sizeB n
    · have hmp : (0 : Int) < (m : Int) := by have := hsp.1 hlt; omega
      have HO := Lib.hid hown
      have HB := Lib.hid hb
      have src := Lib.hid (src_any (hown.below ((Below.refl _ _).alloc (Nat.le_refl _) (.cells #[.int .u8 ((m : Int) % 256)] 5))))
      rw [beB_length] at src
      have own := Lib.hid (own_one wr ((m : Int) % 256) (UInt8.ofNat (m % 256)) (byte_val m))
      clear hown hb hsp
      go_wp2_with (at_builtin; refine wpList_append_by _ rfl _ _ 54 rfl wr.heap.size [UInt8.ofNat (m % 256)] (beB j n) _ _ rfl rfl own.out ?_ ?_ ?_ ?_)
      · rw [beB_length]; exact src.out
      · rw [beB_length]; simp; omega
      · simp
      intro v' w' hown hg
      have hsz : w.heap.size ≤ wr.heap.size := HB.out.size
      have HOWN := Lib.hid (hown.mono hsz)
      have HB2 := Lib.hid ((HB.out.alloc hsz (.cells #[.int .u8 ((m : Int) % 256)] 5)).grown hg (by rw [World.size_alloc]; omega) (by intro k hk; cases hk; exact hsz))
      clear hown hg src own
      have q0 : (0 : Int) ≤ (m : Int) / 256 := by omega
      have q1 : (m : Int) / 256 ≤ 18446744073709551615 := by omega
      go_wp2
      go_roundg (sizeB n - (j + 1))
      case measure => rw [hG.out]; omega
      case rel =>
        refine ⟨j + 1, by omega, rfl, ?_, by rw [beB_cons, HM.out]; exact HOWN.out, HB2.out⟩
        rw [Nat.pow_succ, ← Nat.div_div_eq_div_mul, HM.out]
        simp
    · have hm : m = 0 := by
        have := mt hsp.2 hlt
        omega
      obtain rfl : j = sizeB n := by omega
      have HO := Lib.hid hown
      have HB := Lib.hid hb
      have src := Lib.hid (src_any (hown.below ((Below.refl _ _).alloc (Nat.le_refl _) (.cells #[.int .u8 ((sizeB n : Int))] 5))))
      rw [beB_length] at src
      have own := Lib.hid (own_one wr (sizeB n : Int) (UInt8.ofNat (sizeB n)) (by simp; omega))
      clear hown hb hsp
      subst hm
      generalize hs : sizeB n = s at *
      have HS := Lib.hid hs
      clear hs
      have r1 : (s : Int) % 256 = (s : Int) := by omega
      have r2 : (s : Int) ≤ 8 := by omega
      go_wp2_with (at_builtin; refine wpList_append_by _ rfl _ _ 54 rfl wr.heap.size [UInt8.ofNat s] (beB s n) _ _ rfl rfl own.out ?_ ?_ ?_ ?_)
      · rw [beB_length]; exact src.out
      · rw [beB_length]; simp; omega
      · simp
      intro v' w' hown hg
      have hsz : w.heap.size ≤ wr.heap.size := HB.out.size
      have HOWN := Lib.hid (hown.mono hsz)
      have HB2 := Lib.hid ((HB.out.alloc hsz (.cells #[.int .u8 (s : Int)] 5)).grown hg (by rw [World.size_alloc]; omega) (by intro k hk; cases hk; exact hsz))
      clear hown hg src own
      go_wp2
      go_ret
      refine ⟨_, rfl, ?_, HB2.out⟩
      unfold natB
      rw [HS.out]
      exact HOWN.out
end Go.Proofs.YtakdhhapckcnaaaDoor
