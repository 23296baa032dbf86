/- ops.plain, Key, system: which texts are keys. ops.Key, system, May, asked. -/
import Derived.Test.YtfddlhcdlgdofaaGreatDoorZMeaP
import Derived.BigQuiet
set_option linter.unusedSimpArgs false
set_option linter.unusedVariables false
set_option linter.unnecessarySimpa false
namespace Go.Proofs.YtfddlhcdlgdofaaGreatDoor
open Go.RowKit Go.Shelf

theorem take_snoc (s : ByteArray) (k : Nat) (h : k < s.size) : s.data.toList.take (k + 1) = s.data.toList.take k ++ [s[k]] := by
  rw [List.take_succ_eq_append_getElem (by simpa using h)]; rfl
theorem plain_take {s : ByteArray} {k : Nat} (h : k < s.size) (hk : plainL (s.data.toList.take k) = true) : plainL (s.data.toList.take (k + 1)) = okc s[k] := by
  rw [take_snoc s k h]
  unfold plainL at hk ⊢
  rw [List.all_append, hk]
  simp
theorem plain_no {s : ByteArray} {k : Nat} (h : k < s.size) (hk : okc s[k] = false) : plainL s.data.toList = false := by
  unfold plainL
  rw [List.all_eq_false]
  refine ⟨s[k], ?_, by simp [hk]⟩
  have : s.data.toList[k]? = some s[k] := by
    rw [List.getElem?_eq_getElem (by simpa using h)]; rfl
  exact List.mem_of_getElem? this
theorem ret_bool {a b : Bool} (h : a = b) : Ending.returned (.bool a) = .returned (.bool b) := by rw [h]
set_option maxRecDepth 100000 in
set_option maxHeartbeats 1000000 in
theorem plain_any (s : ByteArray) (w : World) (hs : s.size ≤ 1073741824) :
    Calls Tryz.prog 169 #[.string s] w fun e w' => e = .returned (.bool (plainL s.data.toList)) ∧ w = w' := by
  go_enter Tryz.func169, Tryz.ntmps169
  go_wp2
  go_loop [7] (fun i => ∃ k : Nat, k ≤ s.size ∧ i = .int .i64 k ∧ plainL (s.data.toList.take k) = true) (fun i => s.size - (intOf i).toNat)
  case atStart => exact ⟨0, Nat.zero_le _, rfl, rfl⟩
  case round =>
    obtain ⟨k, hk, rfl, hp⟩ := hrel
    by_cases hlt : k < s.size
    · have HP := Lib.hid (plain_take hlt hp)
      have HN := Lib.hid (plain_no (s := s) hlt)
      have HO : Hid (okc s[k] = decide ((97 ≤ s[k].toNat ∧ s[k].toNat ≤ 122) ∨ (48 ≤ s[k].toNat ∧ s[k].toNat ≤ 57) ∨ s[k].toNat = 46 ∨ s[k].toNat = 95)) := Lib.hid rfl
      clear hp
      go_wp2
      all_goals first
        | (go_round
           case rel => exact ⟨k + 1, by omega, by go_num, by rw [HP.out, HO.out]; (try simp only [bne_iff_ne, ne_eq, bne_eq_false_iff_eq] at *); simp only [decide_eq_true_eq]; omega⟩
           case measure => simp [intOf]; omega)
        | (go_ret
           exact ⟨ret_bool (by rw [HN.out (by rw [HO.out]; (try simp only [bne_iff_ne, ne_eq, bne_eq_false_iff_eq] at *); simp only [decide_eq_false_iff_not]; omega)]), rfl⟩)
    · go_wp2
      go_ret
      exact ⟨ret_bool (by rw [List.take_of_length_le (by simp; omega)] at hp; rw [hp]), rfl⟩
end Go.Proofs.YtfddlhcdlgdofaaGreatDoor

namespace Go.Proofs.YtfddlhcdlgdofaaGreatDoor
open Go.RowKit Go.Shelf

set_option maxRecDepth 100000 in
set_option maxHeartbeats 1000000 in
theorem key_any (s : ByteArray) (w : World) (hs : s.size ≤ 1073741824) :
    Calls Tryz.prog 152 #[.string s] w fun e w' => e = .returned (.bool (keyP s)) ∧ w = w' := by
  have HP := Lib.hid (plain_any s w hs)
  by_cases h0 : s = ⟨#[]⟩
  · subst h0
    go_enter Tryz.func152, Tryz.ntmps152
    go_wp2_with fail
    go_ret
    exact ⟨rfl, rfl⟩
  · have hz : s.size ≠ 0 := fun e => h0 (by
      obtain ⟨⟨l⟩⟩ := s
      have : l.length = 0 := e
      rw [List.length_eq_zero_iff.1 this])
    have hne : ¬ s.toList = [] := fun e => h0 (by
      have := (toList_nil_iff_emptyBytes s).1 e
      rw [this]; rfl)
    have hne2 : s.toList.isEmpty = false := by
      cases h : s.toList with
      | nil => exact absurd h hne
      | cons a b => rfl
    by_cases h16 : s.size ≤ 16
    · obtain ⟨b, hb⟩ : ∃ b, plainL s.data.toList = b := ⟨_, rfl⟩
      rw [hb] at HP
      have HK : Hid (keyP s = b) := Lib.hid (by unfold keyP; rw [hb]; simp [hz, h16])
      clear hb
      have hI : (s.size : Int) ≤ 16 := by omega
      go_enter Tryz.func152, Tryz.ntmps152
      go_wp2_with fail
      refine (HP.out).mono ?_
      rintro e w' ⟨rfl, rfl⟩
      go_wp2_with fail
      go_ret
      exact ⟨ret_bool HK.out.symm, rfl⟩
    · have hI : ¬ (s.size : Int) ≤ 16 := by omega
      have HK : Hid (keyP s = false) := Lib.hid (by unfold keyP; simp [h16])
      clear HP
      go_enter Tryz.func152, Tryz.ntmps152
      go_wp2_with fail
      go_ret
      exact ⟨ret_bool HK.out.symm, rfl⟩
theorem ext_toList (s : ByteArray) (a b : Nat) : (s.extract a b).data.toList = (s.data.toList.take b).drop a := by
  rw [ByteArray.data_extract, Array.toList_extract, List.extract_eq_take_drop, List.drop_take]
set_option maxRecDepth 100000 in
set_option maxHeartbeats 1000000 in
theorem system_any (s : ByteArray) (w : World) (hs : s.size ≤ 1073741824) :
    Calls Tryz.prog 153 #[.string s] w fun e w' => e = .returned (.bool (sysP s)) ∧ w = w' := by
  have hsz := size_list s
  by_cases h1 : 1 < s.size
  · obtain ⟨c, d, r, hl⟩ : ∃ c d r, s.data.toList = c :: d :: r := by
      match hs' : s.data.toList with
      | [] => rw [hs'] at hsz; simp at hsz; omega
      | [_] => rw [hs'] at hsz; simp at hsz; omega
      | c :: d :: r => exact ⟨c, d, r, rfl⟩
    have hr : r.length + 2 = s.size := by rw [hl] at hsz; simpa using hsz
    have h1I : (1 : Int) < (s.size : Int) := by omega
    by_cases h16 : s.size ≤ 16
    · have hI : (s.size : Int) ≤ 16 := by omega
      have hc0 : s[0]'(Nat.lt_trans Nat.zero_lt_one h1) = c := by
        have : s.data.toList[0]? = some (s[0]'(Nat.lt_trans Nat.zero_lt_one h1)) := by
          rw [List.getElem?_eq_getElem (by simp; omega)]; rfl
        rw [hl] at this
        simpa using this.symm
      have hex : (s.extract 1 s.size).data.toList = d :: r := by
        rw [ext_toList, List.take_of_length_le (by simp), hl]
        rfl
      have hexs : (s.extract 1 s.size).size ≤ 1073741824 := by
        have := size_list (s.extract 1 s.size)
        rw [hex, List.length_cons] at this
        omega
      have HP := Lib.hid (plain_any (s.extract 1 s.size) w hexs)
      rw [hex] at HP
      obtain ⟨b, hb⟩ : ∃ b, plainL (d :: r) = b := ⟨_, rfl⟩
      rw [hb] at HP
      have HK : Hid (sysP s = (decide (c.toNat = 126) && b)) := Lib.hid (by unfold sysP; rw [hl]; simp only [sysL]; rw [hb]; (have h14 : r.length ≤ 14 := by omega); simp [h14])
      have HC := Lib.hid hc0
      clear hb hex hl hsz hc0 hexs
      by_cases hc : c.toNat = 126
      · have q0 : (((s[0]'(Nat.lt_trans Nat.zero_lt_one h1)).toNat : Int) == 126) = true := by rw [HC.out, hc]; rfl
        go_enter Tryz.func153, Tryz.ntmps153
        go_wp2_with fail
        refine (HP.out).mono ?_
        rintro e w' ⟨rfl, rfl⟩
        go_wp2_with fail
        go_ret
        exact ⟨ret_bool (by rw [HK.out]; simp [hc]), rfl⟩
      · have q0 : (((s[0]'(Nat.lt_trans Nat.zero_lt_one h1)).toNat : Int) == 126) = false := by rw [HC.out]; simp; omega
        clear HP
        go_enter Tryz.func153, Tryz.ntmps153
        go_wp2_with fail
        go_ret
        exact ⟨ret_bool (by rw [HK.out]; simp [hc]), rfl⟩
    · have hI : ¬ (s.size : Int) ≤ 16 := by omega
      have HK : Hid (sysP s = false) := Lib.hid (by
        cases h : sysP s with
        | false => rfl
        | true => have := sysP_le h; omega)
      go_enter Tryz.func153, Tryz.ntmps153
      go_wp2_with fail
      go_ret
      exact ⟨ret_bool HK.out.symm, rfl⟩
  · have hI : ¬ (1 : Int) < (s.size : Int) := by omega
    have HK : Hid (sysP s = false) := Lib.hid (by
      unfold sysP
      match hs' : s.data.toList with
      | [] => rfl
      | [_] => rfl
      | c :: d :: r => rw [hs'] at hsz; simp at hsz; omega)
    clear hsz
    go_enter Tryz.func153, Tryz.ntmps153
    go_wp2_with fail
    go_ret
    exact ⟨ret_bool HK.out.symm, rfl⟩
/-- An operation as a value. -/
abbrev opV (o : OpV) : Value := .agg #[.int .i64 o.k, .string o.s, .int .i64 o.n, .int .i64 o.lo]
theorem kindO_iff (o : OpV) : kindO o = true ↔ (1 ≤ o.k ∧ o.k ≤ 6) ∧ (o.k = 5 ∨ o.lo = 0) ∧ ((o.k = 1 ∨ o.k = 3) → o.n = 0) := by unfold kindO; simp only [decide_eq_true_eq]
theorem mayO_not {o : OpV} (h : ¬ ((1 ≤ o.k ∧ o.k ≤ 6) ∧ (o.k = 5 ∨ o.lo = 0) ∧ ((o.k = 1 ∨ o.k = 3) → o.n = 0))) : mayO o = false := by
  unfold mayO
  cases hk : kindO o with
  | false => rfl
  | true => exact absurd ((kindO_iff o).1 hk) h
theorem mayO_yes {o : OpV} (h : (1 ≤ o.k ∧ o.k ≤ 6) ∧ (o.k = 5 ∨ o.lo = 0) ∧ ((o.k = 1 ∨ o.k = 3) → o.n = 0)) : mayO o = (keyP o.s || sysP o.s) := by
  unfold mayO
  rw [(kindO_iff o).2 h]
  rfl
set_option maxRecDepth 100000 in
set_option maxHeartbeats 2000000 in
theorem opmay_any (k : Int) (s : ByteArray) (n lo : Int) (w : World) (hs : s.size ≤ 1073741824) :
    Calls Tryz.prog 106 #[.agg #[.int .i64 k, .string s, .int .i64 n, .int .i64 lo]] w fun e w' => e = .returned (.bool (mayO ⟨k, s, n, lo⟩)) ∧ Below w.heap.size w w' := by
  have HKY := Lib.hid (fun W => key_any s W hs)
  have HSY := Lib.hid (fun W => system_any s W hs)
  by_cases hk : kindO ⟨k, s, n, lo⟩ = true
  · have HM := Lib.hid (mayO_yes ((kindO_iff _).1 hk))
    obtain ⟨⟨h1, h6⟩, h5, h0⟩ := (kindO_iff _).1 hk
    simp only at h1 h6 h5 h0 HM
    obtain ⟨kb, hkb⟩ : ∃ b, keyP s = b := ⟨_, rfl⟩
    obtain ⟨sb, hsb⟩ : ∃ b, sysP s = b := ⟨_, rfl⟩
    rw [hkb] at HKY HM
    rw [hsb] at HSY HM
    have HB : Hid (Below w.heap.size w (w.alloc (.cells #[.int .i64 k, .string s, .int .i64 n, .int .i64 lo] 168))) := Lib.hid (below_new _)
    clear hk hkb hsb
    have hcs : (k = 1 ∧ n = 0 ∧ lo = 0) ∨ (k = 3 ∧ n = 0 ∧ lo = 0) ∨ (k = 2 ∧ lo = 0) ∨ (k = 4 ∧ lo = 0) ∨ (k = 6 ∧ lo = 0) ∨ k = 5 := by omega
    clear h1 h6 h0 h5
    rcases hcs with ⟨rfl, rfl, rfl⟩ | ⟨rfl, rfl, rfl⟩ | ⟨rfl, rfl⟩ | ⟨rfl, rfl⟩ | ⟨rfl, rfl⟩ | rfl
    all_goals
      go_enter Tryz.func106, Tryz.ntmps106
      go_wp2_with fail
      refine (HKY.out _).mono ?_
      rintro e w' ⟨rfl, rfl⟩
      cases kb with
      | true =>
        go_wp2_with fail
        go_ret
        exact ⟨ret_bool (by rw [HM.out]; rfl), HB.out⟩
      | false =>
        go_wp2_with fail
        refine (HSY.out _).mono ?_
        rintro e w' ⟨rfl, rfl⟩
        go_wp2_with fail
        go_ret
        exact ⟨ret_bool (by rw [HM.out]; rfl), HB.out⟩
  · have HM : Hid (mayO ⟨k, s, n, lo⟩ = false) := Lib.hid (mayO_not fun h => hk ((kindO_iff _).2 h))
    have HB : Hid (Below w.heap.size w (w.alloc (.cells #[.int .i64 k, .string s, .int .i64 n, .int .i64 lo] 168))) := Lib.hid (below_new _)
    have hk2 : ¬ ((1 ≤ k ∧ k ≤ 6) ∧ (k = 5 ∨ lo = 0) ∧ ((k = 1 ∨ k = 3) → n = 0)) := fun h => hk ((kindO_iff _).2 h)
    clear HKY HSY hk
    by_cases hr : 1 ≤ k ∧ k ≤ 6
    · have hcs : k = 1 ∨ k = 3 ∨ k = 2 ∨ k = 4 ∨ k = 6 ∨ k = 5 := by omega
      by_cases hlo : lo = 0
      · have hn : ¬ n = 0 := fun hn => hk2 ⟨hr, .inr hlo, fun _ => hn⟩
        have hnb : (n != 0) = true := by simpa using hn
        have hcs : k = 1 ∨ k = 3 := by
          refine Classical.byContradiction fun h => hk2 ⟨hr, .inr hlo, fun h' => absurd h' h⟩
        clear hk2 hr
        subst hlo
        rcases hcs with rfl | rfl
        all_goals
          go_enter Tryz.func106, Tryz.ntmps106
          go_wp2_with fail
          go_ret
          exact ⟨ret_bool HM.out.symm, HB.out⟩
      · have hlb : (lo != 0) = true := by simpa using hlo
        have h5 : k ≠ 5 ∨ False := by
          by_cases h5 : k = 5
          · subst h5
            exact absurd ⟨hr, .inl rfl, fun h => by omega⟩ hk2
          · exact .inl h5
        have hcs : k = 1 ∨ k = 3 ∨ k = 2 ∨ k = 4 ∨ k = 6 := by omega
        clear hk2 hr h5
        by_cases hn : n = 0
        · subst hn
          rcases hcs with rfl | rfl | rfl | rfl | rfl
          all_goals
            go_enter Tryz.func106, Tryz.ntmps106
            go_wp2_with fail
            go_ret
            exact ⟨ret_bool HM.out.symm, HB.out⟩
        · have hnb : (n != 0) = true := by simpa using hn
          rcases hcs with rfl | rfl | rfl | rfl | rfl
          all_goals
            go_enter Tryz.func106, Tryz.ntmps106
            go_wp2_with fail
            go_ret
            exact ⟨ret_bool HM.out.symm, HB.out⟩
    · have g1 : ¬ k = 1 := by omega
      have g2 : ¬ k = 2 := by omega
      have g3 : ¬ k = 3 := by omega
      have g4 : ¬ k = 4 := by omega
      have g5 : ¬ k = 5 := by omega
      have g6 : ¬ k = 6 := by omega
      clear hk2 hr
      go_enter Tryz.func106, Tryz.ntmps106
      go_wp2_with fail
      go_ret
      exact ⟨ret_bool HM.out.symm, HB.out⟩
end Go.Proofs.YtfddlhcdlgdofaaGreatDoor
