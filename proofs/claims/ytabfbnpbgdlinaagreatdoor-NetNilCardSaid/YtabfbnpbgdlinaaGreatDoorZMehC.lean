/- The document's own Has, has, in (genmehc.py wrote it.) -/
import Derived.Test.YtabfbnpbgdlinaaGreatDoorZMehA
import Derived.Test.YtabfbnpbgdlinaaGreatDoorZMecB
set_option linter.unusedSimpArgs false
set_option linter.unusedVariables false
set_option linter.unnecessarySimpa false
namespace Go.Proofs.YtabfbnpbgdlinaaGreatDoor
open Go.RowKit Go.Shelf

set_option maxRecDepth 100000 in
set_option maxHeartbeats 1000000 in
theorem rin_any (n lo hi : Int) (w : World) :
    Calls Tryz.prog 115 #[.int .i64 n, .int .i64 lo, .int .i64 hi] w fun e w' => e = .returned (.bool (fitP true n lo hi)) ∧ w = w' := by
  by_cases h : lo ≤ n
  · have HK : Hid (fitP true n lo hi = decide (n ≤ hi)) := Lib.hid (by unfold fitP; simp [h])
    go_enter Tryz.func115, Tryz.ntmps115
    go_wp2_with fail
    go_ret
    exact ⟨ret_bool HK.out.symm, rfl⟩
  · have HK : Hid (fitP true n lo hi = false) := Lib.hid (by unfold fitP; simp [h])
    go_enter Tryz.func115, Tryz.ntmps115
    go_wp2_with fail
    go_ret
    exact ⟨ret_bool HK.out.symm, rfl⟩
def hasL (l : List UInt8) (c : Nat) : Bool := l.any fun x => x.toNat == c
theorem hasL_take {s : ByteArray} {c k : Nat} (h : k < s.size) (hk : hasL (s.data.toList.take k) c = false) : hasL (s.data.toList.take (k + 1)) c = (s[k].toNat == c) := by
  rw [take_snoc s k h]
  unfold hasL at hk ⊢
  rw [List.any_append, hk]
  simp
theorem hasL_yes {s : ByteArray} {c k : Nat} (h : k < s.size) (hk : s[k].toNat = c) : hasL s.data.toList c = true := by
  unfold hasL
  rw [List.any_eq_true]
  refine ⟨s[k], ?_, by simp [hk]⟩
  have : s.data.toList[k]? = some s[k] := by
    rw [List.getElem?_eq_getElem (by simpa using h)]; rfl
  exact List.mem_of_getElem? this
set_option maxRecDepth 100000 in
set_option maxHeartbeats 1000000 in
theorem rhas_any (s : ByteArray) (c : Nat) (w : World) (hs : s.size ≤ 1073741824) :
    Calls Tryz.prog 116 #[.string s, .int .u8 (c : Int)] w fun e w' => e = .returned (.bool (hasL s.data.toList c)) ∧ w = w' := by
  obtain ⟨hb, hhb⟩ : ∃ b, hasL s.data.toList c = b := ⟨_, rfl⟩
  rw [hhb]
  have HHB := Lib.hid hhb
  clear hhb
  go_enter Tryz.func116, Tryz.ntmps116
  go_wp2
  go_loop [5] (fun i => ∃ k : Nat, k ≤ s.size ∧ i = .int .i64 k ∧ hasL (s.data.toList.take k) c = false) (fun i => s.size - (intOf i).toNat)
  case atStart => exact ⟨0, Nat.zero_le _, rfl, rfl⟩
  case round =>
    obtain ⟨k, hk, rfl, hp⟩ := hrel
    by_cases hlt : k < s.size
    · have HP := Lib.hid (hasL_take hlt hp)
      by_cases hc : s[k].toNat = c
      · have HY := Lib.hid (hasL_yes hlt hc)
        have hq : (((s[k].toNat : Nat) : Int) == (c : Int)) = true := by rw [hc]; simp
        clear hp hc
        go_wp2
        go_ret
        exact ⟨ret_bool (by rw [← HHB.out, HY.out]), rfl⟩
      · have HN : Hid (hasL (s.data.toList.take (k + 1)) c = false) := Lib.hid (by rw [HP.out]; simpa using hc)
        have hq : (((s[k].toNat : Nat) : Int) == (c : Int)) = false := by simp; omega
        clear hp hc
        go_wp2
        go_round
        case rel => exact ⟨k + 1, by omega, by go_num, HN.out⟩
        case measure => simp [intOf]; omega
    · have HF : Hid (hb = false) := Lib.hid (by
        rw [List.take_of_length_le (by simp; omega)] at hp
        rw [← HHB.out]
        exact hp)
      clear hp
      go_wp2
      go_ret
      exact ⟨ret_bool HF.out.symm, rfl⟩
set_option maxRecDepth 100000 in
set_option maxHeartbeats 1000000 in
theorem rHas_A {k : Int} (hk : k ∈ ([1, 4] : List Int)) (w : World) :
    Calls Tryz.prog 114 #[.int .i64 k] w fun e w' => e = .returned (.string ⟨#[116, 108, 111]⟩) ∧ w = w' := by
  simp only [List.mem_cons, List.not_mem_nil, or_false] at hk
  rcases hk with rfl | rfl
  all_goals
    go_enter Tryz.func114, Tryz.ntmps114
    go_wp2_with fail
    go_ret
    exact ⟨rfl, rfl⟩
set_option maxRecDepth 100000 in
set_option maxHeartbeats 1000000 in
theorem rHas_B {k : Int} (hk : k ∈ ([2] : List Int)) (w : World) :
    Calls Tryz.prog 114 #[.int .i64 k] w fun e w' => e = .returned (.string ⟨#[116, 108]⟩) ∧ w = w' := by
  simp only [List.mem_cons, List.not_mem_nil, or_false] at hk
  rcases hk with rfl
  all_goals
    go_enter Tryz.func114, Tryz.ntmps114
    go_wp2_with fail
    go_ret
    exact ⟨rfl, rfl⟩
set_option maxRecDepth 100000 in
set_option maxHeartbeats 1000000 in
theorem rHas_C {k : Int} (hk : k ∈ ([3] : List Int)) (w : World) :
    Calls Tryz.prog 114 #[.int .i64 k] w fun e w' => e = .returned (.string ⟨#[108]⟩) ∧ w = w' := by
  simp only [List.mem_cons, List.not_mem_nil, or_false] at hk
  rcases hk with rfl
  all_goals
    go_enter Tryz.func114, Tryz.ntmps114
    go_wp2_with fail
    go_ret
    exact ⟨rfl, rfl⟩
set_option maxRecDepth 100000 in
set_option maxHeartbeats 1000000 in
theorem rHas_D {k : Int} (hk : k ∈ ([11] : List Int)) (w : World) :
    Calls Tryz.prog 114 #[.int .i64 k] w fun e w' => e = .returned (.string ⟨#[116, 107]⟩) ∧ w = w' := by
  simp only [List.mem_cons, List.not_mem_nil, or_false] at hk
  rcases hk with rfl
  all_goals
    go_enter Tryz.func114, Tryz.ntmps114
    go_wp2_with fail
    go_ret
    exact ⟨rfl, rfl⟩
set_option maxRecDepth 100000 in
set_option maxHeartbeats 1000000 in
theorem rHas_E {k : Int} (hk : k ∈ ([12, 14] : List Int)) (w : World) :
    Calls Tryz.prog 114 #[.int .i64 k] w fun e w' => e = .returned (.string ⟨#[116, 99]⟩) ∧ w = w' := by
  simp only [List.mem_cons, List.not_mem_nil, or_false] at hk
  rcases hk with rfl | rfl
  all_goals
    go_enter Tryz.func114, Tryz.ntmps114
    go_wp2_with fail
    go_ret
    exact ⟨rfl, rfl⟩
set_option maxRecDepth 100000 in
set_option maxHeartbeats 1000000 in
theorem rHas_F {k : Int} (hk : k ∈ ([13, 15, 16] : List Int)) (w : World) :
    Calls Tryz.prog 114 #[.int .i64 k] w fun e w' => e = .returned (.string ⟨#[]⟩) ∧ w = w' := by
  simp only [List.mem_cons, List.not_mem_nil, or_false] at hk
  rcases hk with rfl | rfl | rfl
  all_goals
    go_enter Tryz.func114, Tryz.ntmps114
    go_wp2_with fail
    go_ret
    exact ⟨rfl, rfl⟩
set_option maxRecDepth 100000 in
set_option maxHeartbeats 1000000 in
theorem rHas_none {k : Int} (hk : ¬ ((1 ≤ k ∧ k ≤ 4) ∨ (11 ≤ k ∧ k ≤ 16))) (w : World) :
    Calls Tryz.prog 114 #[.int .i64 k] w fun e w' => e = .returned (.string ⟨#[63]⟩) ∧ w = w' := by
  have g1 : ¬ k = 1 := by omega
  have g2 : ¬ k = 2 := by omega
  have g3 : ¬ k = 3 := by omega
  have g4 : ¬ k = 4 := by omega
  have g5 : ¬ k = 11 := by omega
  have g6 : ¬ k = 12 := by omega
  have g7 : ¬ k = 13 := by omega
  have g8 : ¬ k = 14 := by omega
  have g9 : ¬ k = 15 := by omega
  have g10 : ¬ k = 16 := by omega
  clear hk
  go_enter Tryz.func114, Tryz.ntmps114
  go_wp2_with fail
  go_ret
  exact ⟨rfl, rfl⟩
end Go.Proofs.YtabfbnpbgdlinaaGreatDoor
