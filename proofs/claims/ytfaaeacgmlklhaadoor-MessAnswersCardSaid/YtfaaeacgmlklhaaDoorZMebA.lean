/- ops.plain, Key, system: which texts are keys. -/
import Derived.Test.YtfaaeacgmlklhaaDoorZMeaP
import Derived.BigQuiet
set_option linter.unusedSimpArgs false
set_option linter.unusedVariables false
set_option linter.unnecessarySimpa false
namespace Go.Proofs.YtfaaeacgmlklhaaDoor
open Go.RowKit Go.Shelf

theorem take_snoc (s : ByteArray) (k : Nat) (h : k < s.size) : s.data.toList.take (k + 1) = s.data.toList.take k ++ [s[k]] := by
  rw [List.take_succ_eq_append_getElem (by simpa using h)]; rfl
theorem plain_take {s : ByteArray} {k : Nat} (h : k < s.size) (hk : plainL (s.data.toList.take k) = true) : plainL (s.data.toList.take (k + 1)) = okc s[k] := by
  rw [take_snoc s k h]
  unfold plainL at hk ⊢
  rw [List.all_append, hk]
  simp
theorem plain_no {s : ByteArray} {k : Nat} (h : k < s.size) (hk : okc s[k] = false) : plainL s.data.toList = false := by
  unfold plainL
  rw [List.all_eq_false]
  refine ⟨s[k], ?_, by simp [hk]⟩
  have : s.data.toList[k]? = some s[k] := by
    rw [List.getElem?_eq_getElem (by simpa using h)]; rfl
  exact List.mem_of_getElem? this
theorem ret_bool {a b : Bool} (h : a = b) : Ending.returned (.bool a) = .returned (.bool b) := by rw [h]
set_option maxRecDepth 100000 in
set_option maxHeartbeats 1000000 in
theorem plain_any (s : ByteArray) (w : World) (hs : s.size ≤ 1073741824) :
    Calls Tryd.prog 66 #[.string s] w fun e w' => e = .returned (.bool (plainL s.data.toList)) ∧ w = w' := by
  go_enter Tryd.func66, Tryd.ntmps66
  go_wp2
  go_loop [7] (fun i => ∃ k : Nat, k ≤ s.size ∧ i = .int .i64 k ∧ plainL (s.data.toList.take k) = true) (fun i => s.size - (intOf i).toNat)
  case atStart => exact ⟨0, Nat.zero_le _, rfl, rfl⟩
  case round =>
    obtain ⟨k, hk, rfl, hp⟩ := hrel
    by_cases hlt : k < s.size
    · have HP := Lib.hid (plain_take hlt hp)
      have HN := Lib.hid (plain_no (s := s) hlt)
      have HO : Hid (okc s[k] = decide ((97 ≤ s[k].toNat ∧ s[k].toNat ≤ 122) ∨ (48 ≤ s[k].toNat ∧ s[k].toNat ≤ 57) ∨ s[k].toNat = 46 ∨ s[k].toNat = 95)) := Lib.hid rfl
      clear hp
      go_wp2
      all_goals first
        | (go_round
           case rel => exact ⟨k + 1, by omega, by go_num, by rw [HP.out, HO.out]; (try simp only [bne_iff_ne, ne_eq, bne_eq_false_iff_eq] at *); simp only [decide_eq_true_eq]; omega⟩
           case measure => simp [intOf]; omega)
        | (go_ret
           exact ⟨ret_bool (by rw [HN.out (by rw [HO.out]; (try simp only [bne_iff_ne, ne_eq, bne_eq_false_iff_eq] at *); simp only [decide_eq_false_iff_not]; omega)]), rfl⟩)
    · go_wp2
      go_ret
      exact ⟨ret_bool (by rw [List.take_of_length_le (by simp; omega)] at hp; rw [hp]), rfl⟩
end Go.Proofs.YtfaaeacgmlklhaaDoor
