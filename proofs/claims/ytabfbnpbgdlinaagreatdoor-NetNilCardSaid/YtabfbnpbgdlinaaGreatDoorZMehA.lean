/- The document's own letters, Key, May, Check of operations. The document's own May and Check of operations. (genmehb.py wrote it.) -/
import Derived.Test.YtabfbnpbgdlinaaGreatDoorZMebC
set_option linter.unusedSimpArgs false
set_option linter.unusedVariables false
set_option linter.unnecessarySimpa false
namespace Go.Proofs.YtabfbnpbgdlinaaGreatDoor
open Go.RowKit Go.Shelf

def lettersP (s : ByteArray) : Bool := plainL s.data.toList && decide (0 < s.size)
set_option maxRecDepth 100000 in
set_option maxHeartbeats 1000000 in
theorem rletters_any (s : ByteArray) (w : World) (hs : s.size ≤ 1073741824) :
    Calls Tryz.prog 175 #[.string s] w fun e w' => e = .returned (.bool (lettersP s)) ∧ w = w' := by
  go_enter Tryz.func175, Tryz.ntmps175
  go_wp2
  go_loop [3] (fun i => ∃ k : Nat, k ≤ s.size ∧ i = .int .i64 k ∧ plainL (s.data.toList.take k) = true) (fun i => s.size - (intOf i).toNat)
  case atStart => exact ⟨0, Nat.zero_le _, rfl, rfl⟩
  case round =>
    obtain ⟨k, hk, rfl, hp⟩ := hrel
    by_cases hlt : k < s.size
    · have HP := Lib.hid (plain_take hlt hp)
      have HN : Hid (okc s[k] = false → lettersP s = false) := Lib.hid (fun h => by unfold lettersP; rw [plain_no (s := s) hlt h]; rfl)
      have HO : Hid (okc s[k] = decide ((97 ≤ s[k].toNat ∧ s[k].toNat ≤ 122) ∨ (48 ≤ s[k].toNat ∧ s[k].toNat ≤ 57) ∨ s[k].toNat = 46 ∨ s[k].toNat = 95)) := Lib.hid rfl
      clear hp
      go_wp2
      all_goals first
        | (go_round
           case rel => exact ⟨k + 1, by omega, by go_num, by rw [HP.out, HO.out]; (try simp only [bne_iff_ne, ne_eq, bne_eq_false_iff_eq] at *); simp only [decide_eq_true_eq]; omega⟩
           case measure => simp [intOf]; omega)
        | (go_ret
           exact ⟨ret_bool (by rw [HN.out (by rw [HO.out]; (try simp only [bne_iff_ne, ne_eq, bne_eq_false_iff_eq] at *); simp only [decide_eq_false_iff_not]; omega)]), rfl⟩)
    · have HL : Hid (lettersP s = decide ((0 : Int) < (s.size : Int))) := Lib.hid (by
        rw [List.take_of_length_le (by simp; omega)] at hp
        unfold lettersP
        rw [hp]
        simp)
      clear hp
      go_wp2
      go_ret
      exact ⟨ret_bool (by rw [HL.out]; simp), rfl⟩
theorem keyP_letters (s : ByteArray) : keyP s = (decide (s.size ≤ 16) && lettersP s) := by
  unfold keyP lettersP
  by_cases h : s.size = 0
  · simp [h]
  · have : 0 < s.size := by omega
    simp [h, this]
set_option maxRecDepth 100000 in
set_option maxHeartbeats 1000000 in
theorem rkey_any (s : ByteArray) (w : World) (hs : s.size ≤ 1073741824) :
    Calls Tryz.prog 153 #[.string s] w fun e w' => e = .returned (.bool (keyP s)) ∧ w = w' := by
  have HP := Lib.hid (rletters_any s w hs)
  obtain ⟨b, hb⟩ : ∃ b, lettersP s = b := ⟨_, rfl⟩
  rw [hb] at HP
  have HK := Lib.hid (keyP_letters s)
  rw [hb] at HK
  clear hb
  by_cases h16 : s.size ≤ 16
  · have hI : (s.size : Int) ≤ 16 := by omega
    have HK2 : Hid (keyP s = b) := Lib.hid (by rw [HK.out]; simp [h16])
    go_enter Tryz.func153, Tryz.ntmps153
    go_wp2_with fail
    refine (HP.out).mono ?_
    rintro e w' ⟨rfl, rfl⟩
    go_wp2_with fail
    go_ret
    exact ⟨ret_bool HK2.out.symm, rfl⟩
  · have hI : ¬ (s.size : Int) ≤ 16 := by omega
    have HK2 : Hid (keyP s = false) := Lib.hid (by rw [HK.out]; simp [h16])
    clear HP
    go_enter Tryz.func153, Tryz.ntmps153
    go_wp2_with fail
    go_ret
    exact ⟨ret_bool HK2.out.symm, rfl⟩
/-- How a text is told to be one of the system's. -/
inductive SysWay (s : ByteArray) : Prop where
  | long (h : ¬ s.size ≤ 16) (hs : sysP s = false)
  | short (h : s.size ≤ 16) (h1 : ¬ 1 < s.size) (hs : sysP s = false)
  | other (h : s.size ≤ 16) (h1 : 1 < s.size) (hc : ¬ (s[0]'(Nat.lt_trans Nat.zero_lt_one h1)).toNat = 126) (hs : sysP s = false)
  | tilde (h : s.size ≤ 16) (h1 : 1 < s.size) (hc : (s[0]'(Nat.lt_trans Nat.zero_lt_one h1)).toNat = 126) (hs : sysP s = lettersP (s.extract 1 s.size)) (hl : (s.extract 1 s.size).size ≤ 1073741824)
theorem sysWay (s : ByteArray) : SysWay s := by
  have hsz := size_list s
  by_cases h16 : s.size ≤ 16
  · by_cases h1 : 1 < s.size
    · obtain ⟨c, d, r, hl⟩ : ∃ c d r, s.data.toList = c :: d :: r := by
        match hs' : s.data.toList with
        | [] => rw [hs'] at hsz; simp at hsz; omega
        | [_] => rw [hs'] at hsz; simp at hsz; omega
        | c :: d :: r => exact ⟨c, d, r, rfl⟩
      have hr : r.length + 2 = s.size := by rw [hl] at hsz; simpa using hsz
      have hc0 : s[0]'(Nat.lt_trans Nat.zero_lt_one h1) = c := by
        have : s.data.toList[0]? = some (s[0]'(Nat.lt_trans Nat.zero_lt_one h1)) := by
          rw [List.getElem?_eq_getElem (by simp; omega)]; rfl
        rw [hl] at this
        simpa using this.symm
      have hex : (s.extract 1 s.size).data.toList = d :: r := by
        rw [ext_toList, List.take_of_length_le (by simp), hl]
        rfl
      have hexs : (s.extract 1 s.size).size = r.length + 1 := by
        have := size_list (s.extract 1 s.size)
        rw [hex, List.length_cons] at this
        omega
      by_cases hc : c.toNat = 126
      · refine .tilde h16 h1 (by rw [hc0]; exact hc) ?_ (by omega)
        unfold sysP lettersP
        rw [hl, hex, hexs]
        simp only [sysL]
        have h14 : r.length ≤ 14 := by omega
        simp [hc, h14]
      · refine .other h16 h1 (by rw [hc0]; exact hc) ?_
        unfold sysP
        rw [hl]
        simp [sysL, hc]
    · refine .short h16 h1 ?_
      unfold sysP
      match hs' : s.data.toList with
      | [] => rfl
      | [_] => rfl
      | c :: d :: r => rw [hs'] at hsz; simp at hsz; omega
  · refine .long h16 ?_
    cases h : sysP s with
    | false => rfl
    | true => have := sysP_le h; omega
end Go.Proofs.YtabfbnpbgdlinaaGreatDoor

namespace Go.Proofs.YtabfbnpbgdlinaaGreatDoor
open Go.RowKit Go.Shelf

set_option maxRecDepth 100000 in
set_option maxHeartbeats 4000000 in
theorem ropmay_any (k : Int) (s : ByteArray) (n lo : Int) (w : World) (hs : s.size ≤ 1073741824) :
    Calls Tryz.prog 152 #[.agg #[.int .i64 k, .string s, .int .i64 n, .int .i64 lo]] w fun e w' => e = .returned (.bool (mayO ⟨k, s, n, lo⟩)) ∧ Below w.heap.size w w' := by
  have HKY := Lib.hid (fun W => rkey_any s W hs)
  have HB : Hid (Below w.heap.size w (w.alloc (.cells #[.int .i64 k, .string s, .int .i64 n, .int .i64 lo] 153))) := Lib.hid (below_new _)
  have HSW := Lib.hid (sysWay s)
  by_cases hk : kindO ⟨k, s, n, lo⟩ = true
  · have HM := Lib.hid (mayO_yes ((kindO_iff _).1 hk))
    obtain ⟨⟨h1, h6⟩, h5, h0⟩ := (kindO_iff _).1 hk
    simp only at h1 h6 h5 h0 HM
    obtain ⟨kb, hkb⟩ : ∃ b, keyP s = b := ⟨_, rfl⟩
    obtain ⟨sb, hsb⟩ : ∃ b, sysP s = b := ⟨_, rfl⟩
    rw [hkb] at HKY HM
    rw [hsb] at HM
    have HSB := Lib.hid hsb
    have a1 : ¬ k < 1 := by omega
    have a6 : ¬ 6 < k := by omega
    have hcs : (lo = 0 ∧ n = 0) ∨ (lo = 0 ∧ ¬ n = 0 ∧ ¬ k = 1 ∧ ¬ k = 3) ∨ (¬ lo = 0 ∧ k = 5 ∧ n = 0) ∨ (¬ lo = 0 ∧ k = 5 ∧ ¬ n = 0) := by omega
    clear hk hkb hsb h1 h6 h5 h0
    rcases hcs with ⟨rfl, rfl⟩ | ⟨rfl, hn, g1, g3⟩ | ⟨hlo, rfl, rfl⟩ | ⟨hlo, rfl, hn⟩
    all_goals
      try (have hnb : (n != 0) = true := by simpa using hn)
      try (have hlb : (lo != 0) = true := by simpa using hlo)
      try (have gb1 : (k == 1) = false := by simpa using g1)
      try (have gb3 : (k == 3) = false := by simpa using g3)
      go_enter Tryz.func152, Tryz.ntmps152
      go_wp2_with fail
      refine (HKY.out _).mono ?_
      rintro e w' ⟨rfl, rfl⟩
      cases kb with
      | true =>
        go_wp2_with fail
        go_ret
        exact ⟨ret_bool (by rw [HM.out]; rfl), HB.out⟩
      | false =>
        rcases HSW.out with ⟨h, e⟩ | ⟨h, h1, e⟩ | ⟨h, h1, hc, e⟩ | ⟨h, h1, hc, e, hl⟩
        · have hI : ¬ (s.size : Int) ≤ 16 := by omega
          have HE := Lib.hid (HSB.out.symm.trans e)
          clear e h
          go_wp2_with fail
          go_ret
          exact ⟨ret_bool (by rw [HM.out, HE.out]; rfl), HB.out⟩
        · have hI : (s.size : Int) ≤ 16 := by omega
          have hI1 : ¬ (1 : Int) < (s.size : Int) := by omega
          have HE := Lib.hid (HSB.out.symm.trans e)
          clear e h h1
          go_wp2_with fail
          go_ret
          exact ⟨ret_bool (by rw [HM.out, HE.out]; rfl), HB.out⟩
        · have hI : (s.size : Int) ≤ 16 := by omega
          have hI1 : (1 : Int) < (s.size : Int) := by omega
          have q0 : (((s[0]'(Nat.lt_trans Nat.zero_lt_one h1)).toNat : Int) == 126) = false := by simp; omega
          have HE := Lib.hid (HSB.out.symm.trans e)
          clear e h hc
          go_wp2_with fail
          go_ret
          exact ⟨ret_bool (by rw [HM.out, HE.out]; rfl), HB.out⟩
        · have hI : (s.size : Int) ≤ 16 := by omega
          have hI1 : (1 : Int) < (s.size : Int) := by omega
          have q0 : (((s[0]'(Nat.lt_trans Nat.zero_lt_one h1)).toNat : Int) == 126) = true := by rw [hc]; rfl
          have HE := Lib.hid (HSB.out.symm.trans e)
          have HLT := Lib.hid (fun W => rletters_any (s.extract 1 s.size) W hl)
          obtain ⟨lb, hlb2⟩ : ∃ b, lettersP (s.extract 1 s.size) = b := ⟨_, rfl⟩
          rw [hlb2] at HLT HE
          clear e h hc hlb2 hl
          go_wp2_with fail
          refine (HLT.out _).mono ?_
          rintro e w' ⟨rfl, rfl⟩
          go_wp2_with fail
          go_ret
          exact ⟨ret_bool (by rw [HM.out, HE.out]; rfl), HB.out⟩
  · have HM : Hid (mayO ⟨k, s, n, lo⟩ = false) := Lib.hid (mayO_not fun h => hk ((kindO_iff _).2 h))
    have hk2 : ¬ ((1 ≤ k ∧ k ≤ 6) ∧ (k = 5 ∨ lo = 0) ∧ ((k = 1 ∨ k = 3) → n = 0)) := fun h => hk ((kindO_iff _).2 h)
    clear HKY hk HSW
    have hcs : k < 1 ∨ 6 < k ∨ (1 ≤ k ∧ k ≤ 6 ∧ ¬ lo = 0 ∧ ¬ k = 5) ∨ (lo = 0 ∧ k = 1 ∧ ¬ n = 0) ∨ (lo = 0 ∧ k = 3 ∧ ¬ n = 0) := by omega
    clear hk2
    rcases hcs with h | h | ⟨h1, h6, h, h5⟩ | ⟨rfl, rfl, h⟩ | ⟨rfl, rfl, h⟩
    · go_enter Tryz.func152, Tryz.ntmps152
      go_wp2_with fail
      go_ret
      exact ⟨ret_bool HM.out.symm, HB.out⟩
    · have h' : ¬ k < 1 := by omega
      go_enter Tryz.func152, Tryz.ntmps152
      go_wp2_with fail
      go_ret
      exact ⟨ret_bool HM.out.symm, HB.out⟩
    · have h' : ¬ k < 1 := by omega
      have h6' : ¬ 6 < k := by omega
      have hb : (lo != 0) = true := by simpa using h
      have hb5 : (k != 5) = true := by simpa using h5
      go_enter Tryz.func152, Tryz.ntmps152
      go_wp2_with fail
      go_ret
      exact ⟨ret_bool HM.out.symm, HB.out⟩
    all_goals
      have hb : (n != 0) = true := by simpa using h
      go_enter Tryz.func152, Tryz.ntmps152
      go_wp2_with fail
      go_ret
      exact ⟨ret_bool HM.out.symm, HB.out⟩
set_option maxRecDepth 100000 in
set_option maxHeartbeats 2000000 in
theorem rcheck_any {w : World} {v : Value} {l : List OpV} (h : OpsAt w v l) (hk : KeysIn l) :
    Calls Tryz.prog 117 #[v] w fun e w' => e = .returned (.int .i64 (checkO l)) ∧ Below w.heap.size w w' := by
  obtain ⟨A, cap, rfl, hc1, hc2, hcell⟩ := h.form
  unfold maxLen at hc2
  by_cases h8 : 8 < l.length
  · have HP : Hid (checkO l = 7) := Lib.hid (by unfold checkO; rw [if_pos h8])
    have h8I : (8 : Int) < (l.length : Int) := by omega
    clear h hcell hk
    go_enter Tryz.func117, Tryz.ntmps117
    go_wp2_with fail
    go_ret
    exact ⟨ret_int' (by rw [HP.out]; rfl), Below.refl _ _⟩
  · have h8I : ¬ (8 : Int) < (l.length : Int) := by omega
    have hlI : (l.length : Int) ≤ 8 := by omega
    have HC := Lib.hid hcell
    have HK := Lib.hid hk
    obtain ⟨m, hm⟩ : ∃ m, l.length = m := ⟨_, rfl⟩
    have HM := Lib.hid hm
    rw [hm] at h8 h8I hlI hc1
    clear h hcell hk
    rw [hm]
    clear hm
    obtain ⟨ck, hck⟩ : ∃ c, checkO l = c := ⟨_, rfl⟩
    rw [hck]
    have HCK := Lib.hid hck
    clear hck
    go_enter Tryz.func117, Tryz.ntmps117
    go_wp2_with fail
    go_loopw [10] (fun iv wr => ∃ i : Nat, i ≤ m ∧ iv = .int .i64 i ∧ (l.take i).all askO = true ∧ Below w.heap.size w wr) (fun iv _ => m - (intOf iv).toNat)
    case atStart => exact ⟨0, Nat.zero_le _, rfl, rfl, Below.refl _ _⟩
    case round =>
      obtain ⟨i, hi, rfl, hall, hbw⟩ := hrel
      by_cases hlt : i < m
      · obtain ⟨o, ho⟩ : ∃ o, l[i]? = some o := ⟨_, List.getElem?_eq_getElem (by rw [HM.out]; exact hlt)⟩
        obtain ⟨a, rfl, q1, k0, k1, k2, k3⟩ := HC.out i o ho
        have hblk : (a.add (i * 4)).block < w.heap.size := by rw [add_block]; exact q1
        replace k0 := (hbw.cell hblk).trans k0
        replace k1 := (hbw.cell (p := ⟨(a.add (i * 4)).block, (a.add (i * 4)).off + 1, none⟩) hblk).trans k1
        replace k2 := (hbw.cell (p := ⟨(a.add (i * 4)).block, (a.add (i * 4)).off + 2, none⟩) hblk).trans k2
        replace k3 := (hbw.cell (p := ⟨(a.add (i * 4)).block, (a.add (i * 4)).off + 3, none⟩) hblk).trans k3
        have hsz := HK.out o (List.mem_of_getElem? ho)
        have HNX := Lib.hid (all_take ho hall)
        have HNO : Hid (askO o = false → ck = 2) := Lib.hid (fun h => by
          rw [← HCK.out]
          unfold checkO
          rw [HM.out, if_neg h8, if_neg]
          rw [Bool.not_eq_true, List.all_eq_false]
          exact ⟨o, List.mem_of_getElem? ho, by simp [h]⟩)
        obtain ⟨kd, s, n, lo⟩ := o
        simp only at k0 k1 k2 k3 hsz
        have HMY := Lib.hid (fun W => ropmay_any kd s n lo W hsz)
        have HKY := Lib.hid (fun W => rkey_any s W hsz)
        obtain ⟨mb, hmb⟩ : ∃ b, mayO ⟨kd, s, n, lo⟩ = b := ⟨_, rfl⟩
        obtain ⟨kb, hkb⟩ : ∃ b, keyP s = b := ⟨_, rfl⟩
        rw [hmb] at HMY
        rw [hkb] at HKY
        have hA : askO ⟨kd, s, n, lo⟩ = (mb && kb) := by unfold askO; rw [hmb]; simp only; rw [hkb]
        rw [hA] at HNX HNO
        have hiI : (i : Int) < (m : Int) := by omega
        have HLT := Lib.hid hlt
        have HBW := Lib.hid (hbw.trans ((below_new (w := wr) (.cells #[.int .i64 kd, .string s, .int .i64 n, .int .i64 lo] 153)).mono hbw.size))
        have HAT := Lib.hid (alloc_at wr (.cells #[.int .i64 kd, .string s, .int .i64 n, .int .i64 lo] 153))
        clear ho hall hbw hlt hblk q1 hi hmb hkb hA
        go_wp2_with fail
        refine (HMY.out _).mono ?_
        rintro e w1 ⟨rfl, hb1⟩
        have HB1 := Lib.hid (HBW.out.trans (hb1.mono HBW.out.size))
        have c1 : w1.cell? ⟨wr.heap.size, 1, none⟩ = some (.string s) := (hb1.cell (p := ⟨wr.heap.size, 1, none⟩) (by show wr.heap.size < _; rw [asz]; omega)).trans (cell_of HAT.out 1)
        clear hb1 k0 k1 k2 k3
        cases mb with
        | false =>
          have HE := Lib.hid (HNO.out rfl)
          clear HNO HNX
          go_wp2_with fail
          go_ret
          exact ⟨ret_int' (by rw [HE.out]; rfl), HB1.out⟩
        | true =>
          go_wp2_with fail
          refine (HKY.out _).mono ?_
          rintro e w2 ⟨rfl, rfl⟩
          cases kb with
          | false =>
            have HE := Lib.hid (HNO.out rfl)
            clear HNO HNX
            go_wp2_with fail
            go_ret
            exact ⟨ret_int' (by rw [HE.out]; rfl), HB1.out⟩
          | true =>
            have HX := Lib.hid (show (l.take (i + 1)).all askO = true from HNX.out)
            clear HNO HNX
            go_wp2_with fail
            go_roundw
            case rel => exact ⟨i + 1, HLT.out, by go_num, HX.out, HB1.out⟩
            case measure => have := HLT.out; simp [intOf]; omega
      · obtain rfl : i = m := by omega
        have HF : Hid (ck = 0) := Lib.hid (by
          rw [List.take_of_length_le (by rw [HM.out]; omega)] at hall
          rw [← HCK.out]
          unfold checkO
          rw [HM.out, if_neg h8, if_pos hall])
        have HB := Lib.hid hbw
        clear hall hbw
        go_wp2_with fail
        go_ret
        exact ⟨ret_int' (by rw [HF.out]; rfl), HB.out⟩
end Go.Proofs.YtabfbnpbgdlinaaGreatDoor
