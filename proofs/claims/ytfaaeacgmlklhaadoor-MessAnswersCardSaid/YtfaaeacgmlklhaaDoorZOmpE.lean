/- Numbers and texts as bytes, and back. (Of stage 1's OctD, OctJ, OctX.) -/
import Derived.Test.YtfaaeacgmlklhaaDoorZOmpD
import Derived.Test.YtfaaeacgmlklhaaDoorZOmwC
set_option linter.unusedSimpArgs false
set_option linter.unusedVariables false
set_option linter.unnecessarySimpa false
namespace Go.Proofs.YtfaaeacgmlklhaaDoor
open Go.RowKit Go.Shelf Go.Lib

theorem foldB_beB (j n : Nat) : foldB (beB j n) = n % 256 ^ j := by
  induction j generalizing n with
  | zero => simp [beB, foldB, Nat.mod_one]
  | succ j ih =>
    rw [beB, foldB_snoc, ih, Nat.pow_succ, Nat.mul_comm (256 ^ j), Nat.mod_mul]
    simp
    omega
theorem natP_natB (n : Nat) (hn : n ≤ 18446744073709551615) (rest : List UInt8) : natP (natB n ++ rest) = some (n, (natB n).length) := by
  have h8 := sizeB_le n hn
  have hlt : n / 256 ^ sizeB n = 0 := by
    have := mt (sizeB_spec n hn (sizeB n)).2 (by omega)
    exact Classical.byContradiction this
  have hlt2 : n < 256 ^ sizeB n := by
    rcases Nat.div_eq_zero_iff.1 hlt with h | h
    · exact absurd h (Nat.pos_iff_ne_zero.1 (Nat.pow_pos (by omega)))
    · exact h
  have hk : (UInt8.ofNat (sizeB n)).toNat = sizeB n := by simp; omega
  unfold natB
  rw [List.cons_append, natP, hk, if_neg (by omega), if_neg (by rw [List.length_append, beB_length]; omega), if_neg, List.take_left' (beB_length _ _), foldB_beB, Nat.mod_eq_of_lt hlt2]
  · rw [List.length_cons, beB_length]
  · rintro ⟨h0, h1⟩
    obtain ⟨j, hj⟩ : ∃ j, sizeB n = j + 1 := ⟨sizeB n - 1, by omega⟩
    rw [hj] at h1 hlt2
    rw [beB_cons] at h1
    have hne := (sizeB_spec n hn j).1 (by omega)
    have : n / 256 ^ j < 256 := by
      rw [Nat.div_lt_iff_lt_mul (Nat.pow_pos (by omega)), Nat.mul_comm, ← Nat.pow_succ]; exact hlt2
    generalize n / 256 ^ j = x at *
    rw [List.cons_append, List.getElem?_cons_zero] at h1
    have h3 := congrArg UInt8.toNat (Option.some.inj h1)
    rw [show (UInt8.ofNat (x % 256)).toNat = x % 256 from by simp] at h3
    have h4 : x % 256 = 0 := h3
    omega
theorem strP_strB {most : Nat} {s : ByteArray} (hs : s.size ≤ most) (hm : most ≤ 1073741824) (rest : List UInt8) : strP most (strB s ++ rest) = some (s, (strB s).length) := by
  have hl : s.data.toList.length = s.size := by simp
  unfold strP strB
  rw [List.append_assoc, natP_natB _ (by omega)]
  simp only
  rw [if_neg (by omega), if_neg (by simp only [List.length_append]; omega), List.drop_left' rfl, List.take_left' hl]
  simp

theorem natP_cut {n k : Nat} (hn : n ≤ 18446744073709551615) (hk : k < (natB n).length) : natP ((natB n).take k) = none := by
  have h8 := sizeB_le n hn
  rw [natB_len] at hk
  cases k with
  | zero => rfl
  | succ j =>
    have hs : (UInt8.ofNat (sizeB n)).toNat = sizeB n := by simp; omega
    unfold natB
    rw [List.take_succ_cons, natP, hs, if_neg (by omega), if_pos (by rw [List.length_take, beB_length]; omega)]
theorem strP_none {most : Nat} {l : List UInt8} (h : natP l = none) : strP most l = none := by unfold strP; rw [h]
theorem beB_foldB (l : List UInt8) : beB l.length (foldB l) = l := by
  rw [← List.reverse_reverse l]
  induction l.reverse with
  | nil => rfl
  | cons x t ih =>
    rw [List.reverse_cons, List.length_append, foldB_snoc]
    have hx := x.toNat_lt
    rw [show t.reverse.length + [x].length = t.reverse.length + 1 from rfl, beB, show (foldB t.reverse * 256 + x.toNat) / 256 = foldB t.reverse from by omega, ih, show (foldB t.reverse * 256 + x.toNat) % 256 = x.toNat from by omega]
    simp
theorem natP_only {l : List UInt8} {n sz : Nat} (h : natP l = some (n, sz)) : n ≤ 18446744073709551615 ∧ l.take sz = natB n ∧ sz = (natB n).length := by
  cases l with
  | nil => simp [natP] at h
  | cons k r =>
    rw [natP] at h
    split at h
    · cases h
    · rename_i h8
      split at h
      · cases h
      · rename_i hr
        split at h
        · cases h
        · rename_i hz
          have h1 : foldB (r.take k.toNat) = n := congrArg Prod.fst (Option.some.inj h)
          have h2 : k.toNat + 1 = sz := congrArg Prod.snd (Option.some.inj h)
          have hl : (r.take k.toNat).length = k.toNat := by rw [List.length_take]; omega
          have hlt := foldB_lt (r.take k.toNat)
          rw [hl, h1] at hlt
          have hbe := beB_foldB (r.take k.toNat)
          rw [hl, h1] at hbe
          have hn : n ≤ 18446744073709551615 := by
            have : 256 ^ k.toNat ≤ 256 ^ 8 := Nat.pow_le_pow_right (by omega) (by omega)
            have e : (256 : Nat) ^ 8 = 18446744073709551616 := by decide
            omega
          have hs : sizeB n = k.toNat := by
            have hle : ¬ k.toNat < sizeB n := fun h => (sizeB_spec n hn _).1 h (Nat.div_eq_of_lt hlt)
            rcases Nat.lt_or_ge (sizeB n) k.toNat with hlow | hge
            · exfalso
              obtain ⟨j, hj⟩ : ∃ j, k.toNat = j + 1 := ⟨k.toNat - 1, by omega⟩
              have hd : n / 256 ^ j = 0 := Classical.byContradiction fun hne => absurd ((sizeB_spec n hn j).2 hne) (by omega)
              rw [hj, beB_cons, hd] at hbe
              refine hz ⟨by omega, ?_⟩
              have := congrArg (fun l : List UInt8 => l[0]?) hbe
              simp only [List.getElem?_cons_zero, List.getElem?_take] at this
              rw [if_pos (by omega)] at this
              exact this.symm
            · omega
          refine ⟨hn, ?_, ?_⟩
          · rw [← h2, List.take_succ_cons, ← hbe]
            unfold natB
            rw [hs]
            simp
          · rw [natB_len, hs]; omega
theorem strP_only {most : Nat} {l : List UInt8} {s : ByteArray} {k : Nat} (h : strP most l = some (s, k)) : s.size ≤ most ∧ k ≤ l.length ∧ l.take k = strB s ∧ k = (strB s).length := by
  unfold strP at h
  split at h
  · cases h
  · rename_i n sz hn
    split at h
    · cases h
    · split at h
      · cases h
      · rename_i h1 h2
        obtain ⟨_, h4, h5⟩ := natP_only hn
        have e1 : (⟨((l.drop sz).take n).toArray⟩ : ByteArray) = s := congrArg Prod.fst (Option.some.inj h)
        have e2 : sz + n = k := congrArg Prod.snd (Option.some.inj h)
        have hsz : s.size = n := by rw [← e1]; show ((l.drop sz).take n).toArray.size = n; simp; omega
        have hd : s.data.toList = (l.drop sz).take n := by rw [← e1]
        refine ⟨by omega, by omega, ?_, ?_⟩
        · unfold strB
          rw [hsz, ← h4, hd, ← e2, List.take_add]
        · unfold strB
          rw [List.length_append, hsz, ← h5]
          have : s.data.toList.length = s.size := by simp
          omega
theorem numN_numV (n : Nat) : numN (numV n) = n := by
  unfold numN numV
  split <;> split <;> omega
end Go.Proofs.YtfaaeacgmlklhaaDoor
