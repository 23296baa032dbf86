/- What can be read, and what can't: no beginning of a number's or a text's bytes is one; what is read as a number is just its bytes. -/
import Derived.Test.YtakdhhapckcnaaaDoorOctI
set_option linter.unusedSimpArgs false
set_option linter.unusedVariables false
set_option linter.unnecessarySimpa false
namespace Go.Proofs.YtakdhhapckcnaaaDoor
open Go.RowKit

theorem natP_cut {n k : Nat} (hn : n ≤ 18446744073709551615) (hk : k < (natB n).length) : natP ((natB n).take k) = none := by
  have h8 := sizeB_le n hn
  rw [natB_len] at hk
  cases k with
  | zero => rfl
  | succ j =>
    have hs : (UInt8.ofNat (sizeB n)).toNat = sizeB n := by simp; omega
    unfold natB
    rw [List.take_succ_cons, natP, hs, if_neg (by omega), if_pos (by rw [List.length_take, beB_length]; omega)]
theorem strP_none {most : Nat} {l : List UInt8} (h : natP l = none) : strP most l = none := by unfold strP; rw [h]
theorem strP_cut {s : ByteArray} {k : Nat} (hs : s.size ≤ 300) (hk : k < (strB s).length) : strP 300 ((strB s).take k) = none := by
  have hl : s.data.toList.length = s.size := by simp
  unfold strB at hk ⊢
  rw [List.length_append, hl] at hk
  by_cases h : k < (natB s.size).length
  · rw [List.take_append_of_le_length (by omega)]
    exact strP_none (natP_cut (by omega) h)
  · rw [List.take_append, List.take_of_length_le (by omega)]
    unfold strP
    rw [natP_natB _ (by omega)]
    simp only
    rw [if_neg (by omega), if_pos (by rw [List.length_append, List.length_take, hl]; omega)]
theorem beB_foldB (l : List UInt8) : beB l.length (foldB l) = l := by
  rw [← List.reverse_reverse l]
  induction l.reverse with
  | nil => rfl
  | cons x t ih =>
    rw [List.reverse_cons, List.length_append, foldB_snoc]
    have hx := x.toNat_lt
    rw [show t.reverse.length + [x].length = t.reverse.length + 1 from rfl, beB, show (foldB t.reverse * 256 + x.toNat) / 256 = foldB t.reverse from by omega, ih, show (foldB t.reverse * 256 + x.toNat) % 256 = x.toNat from by omega]
    simp
theorem natP_only {l : List UInt8} {n sz : Nat} (h : natP l = some (n, sz)) : n ≤ 18446744073709551615 ∧ l.take sz = natB n ∧ sz = (natB n).length := by
  cases l with
  | nil => simp [natP] at h
  | cons k r =>
    rw [natP] at h
    split at h
    · cases h
    · rename_i h8
      split at h
      · cases h
      · rename_i hr
        split at h
        · cases h
        · rename_i hz
          have h1 : foldB (r.take k.toNat) = n := congrArg Prod.fst (Option.some.inj h)
          have h2 : k.toNat + 1 = sz := congrArg Prod.snd (Option.some.inj h)
          have hl : (r.take k.toNat).length = k.toNat := by rw [List.length_take]; omega
          have hlt := foldB_lt (r.take k.toNat)
          rw [hl, h1] at hlt
          have hbe := beB_foldB (r.take k.toNat)
          rw [hl, h1] at hbe
          have hn : n ≤ 18446744073709551615 := by
            have : 256 ^ k.toNat ≤ 256 ^ 8 := Nat.pow_le_pow_right (by omega) (by omega)
            have e : (256 : Nat) ^ 8 = 18446744073709551616 := by decide
            omega
          have hs : sizeB n = k.toNat := by
            have hle : ¬ k.toNat < sizeB n := fun h => (sizeB_spec n hn _).1 h (Nat.div_eq_of_lt hlt)
            rcases Nat.lt_or_ge (sizeB n) k.toNat with hlow | hge
            · exfalso
              obtain ⟨j, hj⟩ : ∃ j, k.toNat = j + 1 := ⟨k.toNat - 1, by omega⟩
              have hd : n / 256 ^ j = 0 := Classical.byContradiction fun hne => absurd ((sizeB_spec n hn j).2 hne) (by omega)
              rw [hj, beB_cons, hd] at hbe
              refine hz ⟨by omega, ?_⟩
              have := congrArg (fun l : List UInt8 => l[0]?) hbe
              simp only [List.getElem?_cons_zero, List.getElem?_take] at this
              rw [if_pos (by omega)] at this
              exact this.symm
            · omega
          refine ⟨hn, ?_, ?_⟩
          · rw [← h2, List.take_succ_cons, ← hbe]
            unfold natB
            rw [hs]
            simp
          · rw [natB_len, hs]; omega
theorem strP_only {most : Nat} {l : List UInt8} {s : ByteArray} {k : Nat} (h : strP most l = some (s, k)) : s.size ≤ most ∧ k ≤ l.length ∧ l.take k = strB s ∧ k = (strB s).length := by
  unfold strP at h
  split at h
  · cases h
  · rename_i n sz hn
    split at h
    · cases h
    · split at h
      · cases h
      · rename_i h1 h2
        obtain ⟨_, h4, h5⟩ := natP_only hn
        have e1 : (⟨((l.drop sz).take n).toArray⟩ : ByteArray) = s := congrArg Prod.fst (Option.some.inj h)
        have e2 : sz + n = k := congrArg Prod.snd (Option.some.inj h)
        have hsz : s.size = n := by rw [← e1]; show ((l.drop sz).take n).toArray.size = n; simp; omega
        have hd : s.data.toList = (l.drop sz).take n := by rw [← e1]
        refine ⟨by omega, by omega, ?_, ?_⟩
        · unfold strB
          rw [hsz, ← h4, hd, ← e2, List.take_add]
        · unfold strB
          rw [List.length_append, hsz, ← h5]
          have : s.data.toList.length = s.size := by simp
          omega
theorem textsP_only {most n : Nat} {l : List UInt8} {ss : List ByteArray} {b : Nat} (h : textsP most n l = some (ss, b)) : ss.length = n ∧ (∀ s ∈ ss, s.size ≤ most) ∧ b ≤ l.length ∧ l.take b = ss.flatMap strB ∧ b = (ss.flatMap strB).length := by
  induction n generalizing l ss b with
  | zero =>
    simp [textsP] at h
    obtain ⟨rfl, rfl⟩ := h
    exact ⟨rfl, fun s hs => by simp at hs, Nat.zero_le _, by simp, by simp⟩
  | succ n ih =>
    rw [textsP] at h
    split at h
    · cases h
    · rename_i s a hs
      split at h
      · cases h
      · rename_i rs c hr
        have e1 : s :: rs = ss := congrArg Prod.fst (Option.some.inj h)
        have e2 : a + c = b := congrArg Prod.snd (Option.some.inj h)
        subst e1 e2
        obtain ⟨i1, i2, i3, i4, i5⟩ := ih hr
        obtain ⟨j1, j2, j3, j4⟩ := strP_only hs
        rw [List.length_drop] at i3
        refine ⟨by simp [i1], ?_, by omega, ?_, ?_⟩
        · intro x hx
          rcases List.mem_cons.1 hx with rfl | hx
          · exact j1
          · exact i2 x hx
        · rw [List.flatMap_cons, ← j3, ← i4, List.take_add]
        · rw [List.flatMap_cons, List.length_append, ← j4, ← i5]
end Go.Proofs.YtakdhhapckcnaaaDoor
