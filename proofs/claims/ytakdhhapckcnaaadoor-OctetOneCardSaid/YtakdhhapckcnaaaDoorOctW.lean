/- octet.Num and octet.Str; the closed examples of chapter 2 (awake); the law OctetNil, walked: it answers true at all numbers. -/
import Derived.Test.YtakdhhapckcnaaaDoorOctQ
import Derived.Laws.IdiomStrings
set_option linter.unusedSimpArgs false
set_option linter.unusedVariables false
set_option linter.unnecessarySimpa false
namespace Go.Proofs.YtakdhhapckcnaaaDoor
open Go.RowKit

def numN (m : Int) : Nat := if m < 0 then (2 * (-1 - m) + 1).toNat else (2 * m).toNat
set_option maxRecDepth 100000 in
set_option maxHeartbeats 1000000 in
theorem onum_any (m : Int) (h0 : -9223372036854775808 ≤ m) (h1 : m ≤ 9223372036854775807) (w : World) :
    Calls Tryd.prog 36 #[.int .i64 m] w fun e w' => ∃ v, e = .returned v ∧ OwnBy w' w.heap.size v (natB (numN m)) ∧ Below w.heap.size w w' := by
  have HN := Lib.hid (onat_any (numN m) (by unfold numN; split <;> omega) w)
  by_cases hm : m < 0
  · have HE : Hid ((numN m : Int) = 2 * (-1 - m) + 1) := by show (numN m : Int) = _; unfold numN; rw [if_pos hm]; omega
    go_enter Tryd.func36, Tryd.ntmps36
    go_wp2_with fail
    rw [show ((-1 - m) * 2 + 1 : Int) = (numN m : Int) from by rw [HE.out]; omega]
    refine (HN.out).mono ?_
    rintro e w1 ⟨v, rfl, hO, hB⟩
    have HO := Lib.hid hO
    have HB := Lib.hid hB
    clear hO hB
    go_wp2
    go_ret
    exact ⟨_, rfl, HO.out, HB.out⟩
  · have HE : Hid ((numN m : Int) = 2 * m) := by show (numN m : Int) = _; unfold numN; rw [if_neg hm]; omega
    have hm' : 0 ≤ m := by omega
    clear hm
    go_enter Tryd.func36, Tryd.ntmps36
    go_wp2_with fail
    rw [show (m * 2 : Int) = (numN m : Int) from by rw [HE.out]; omega]
    refine (HN.out).mono ?_
    rintro e w1 ⟨v, rfl, hO, hB⟩
    have HO := Lib.hid hO
    have HB := Lib.hid hB
    clear hO hB
    go_wp2
    go_ret
    exact ⟨_, rfl, HO.out, HB.out⟩

def strB (s : ByteArray) : List UInt8 := natB s.size ++ s.data.toList
theorem sizeB_le (n : Nat) (hn : n ≤ 18446744073709551615) : sizeB n ≤ 8 := by
  have := bitLen_le n hn
  unfold sizeB; omega
theorem natB_len (n : Nat) : (natB n).length = 1 + sizeB n := by unfold natB; rw [List.length_cons, beB_length]; omega
theorem OwnBy.rows {w : World} {base : Nat} {v : Value} {l : List UInt8} (h : OwnBy w base v l) : ∀ k, v.ownBlock = some k → base ≤ k := by
  intro k hk
  rcases h with ⟨rfl, _⟩ | ⟨g, cap, rfl, h⟩
  · simp [Value.ownBlock] at hk
  · have : g = k := by simpa [Value.ownBlock] using hk
    subst this
    exact h.new
set_option maxRecDepth 100000 in
set_option maxHeartbeats 1000000 in
theorem ostr_any (s : ByteArray) (hs : s.size ≤ 536870912) (w : World) :
    Calls Tryd.prog 37 #[.string s] w fun e w' => ∃ v, e = .returned v ∧ OwnBy w' w.heap.size v (strB s) ∧ Below w.heap.size w w' := by
  have HN := Lib.hid (onat_any s.size (by omega) w)
  have hz : (s.size : Int) ≤ 536870912 := by omega
  have hz0 : (0 : Int) ≤ (s.size : Int) := by omega
  go_enter Tryd.func37, Tryd.ntmps37
  go_wp2_with fail
  refine (HN.out).mono ?_
  rintro e w1 ⟨v, rfl, hO, hB⟩
  have HO := Lib.hid hO
  have HB := Lib.hid hB
  have src : Hid (Src Tryd.prog 1 9 (.string s) s.data.toList.length (bc s.data.toList) w1) := Src.ofString w1 Tryd.underlying9 s
  have hlen : (natB s.size).length + s.data.toList.length ≤ 1073741824 := by
    have := sizeB_le s.size (by omega)
    have h2 : s.data.toList.length = s.size := by simp
    rw [natB_len, h2]; omega
  have HL := Lib.hid hlen
  clear hO hB hlen
  go_wp2_with (at_builtin; refine wpList_append_by _ rfl _ _ 9 rfl w.heap.size (natB s.size) s.data.toList _ _ rfl rfl HO.out src.out HL.out HB.out.size ?_)
  intro v' w' hown hg
  have HO' := Lib.hid hown
  have HB' := Lib.hid (HB.out.grown hg HB.out.size HO.out.rows)
  clear hown hg
  go_wp2
  go_ret
  exact ⟨_, rfl, HO'.out, HB'.out⟩

theorem own_string {w : World} {base : Nat} {v : Value} {l : List UInt8} (h : OwnBy w base v l) (hl : l ≠ []) : (convert 54 9 v).run Tryd.prog w = .ok (.string ⟨l.toArray⟩) w := by
  rcases h with ⟨_, h⟩ | ⟨g, cap, rfl, h⟩
  · exact absurd h hl
  · exact run_convert_bytes_back w 54 9 5 ⟨g, 0, none⟩ cap l Tryd.underlying54 Tryd.underlying5 Tryd.underlying9 (fun j hj => by rw [add0]; exact h.holds j _ (List.getElem?_eq_getElem hj))

set_option maxRecDepth 100000 in
set_option maxHeartbeats 4000000 in
theorem awake2 {w : World} (hG : Glob w) : Calls Tryd.prog 45 #[] w fun e w' => e = .returned (.bool true) ∧ Below w.heap.size w w' := by
  have HG := Lib.hid hG
  have hA : Below w.heap.size w (w.alloc (.cells #[.int .u8 1, .int .u8 1, .int .u8 1, .int .u8 9, .int .u8 97] 5)) := (Below.refl _ _).alloc (Nat.le_refl _) _
  have HA := Lib.hid hA
  have hof : Hid (∀ (cap : Nat), Calls Tryd.prog 46 #[.slice (some ⟨w.heap.size, 0, none⟩) 5 cap] (w.alloc (.cells #[.int .u8 1, .int .u8 1, .int .u8 1, .int .u8 9, .int .u8 97] 5)) fun e w' => ∃ g A cap', e = .returned (.pointer (some ⟨g, 0, none⟩)) ∧ (w.alloc (.cells #[.int .u8 1, .int .u8 1, .int .u8 1, .int .u8 9, .int .u8 97] 5)).heap.size ≤ g ∧ Rd w' g A cap' [1, 1, 1, 9, 97] 0 .nilIface [] ∧ Below (w.alloc (.cells #[.int .u8 1, .int .u8 1, .int .u8 1, .int .u8 9, .int .u8 97] 5)).heap.size (w.alloc (.cells #[.int .u8 1, .int .u8 1, .int .u8 1, .int .u8 9, .int .u8 97] 5)) w') := fun cap =>
    of_some (l := [1, 1, 1, 9, 97]) (by decide) (fun i b hi => by
      rw [Nat.zero_add, cell_of_row _ _ _ _ _ _ (heap_alloc_new w _)]
      match i with
      | 0 => simp at hi; subst hi; rfl
      | 1 => simp at hi; subst hi; rfl
      | 2 => simp at hi; subst hi; rfl
      | 3 => simp at hi; subst hi; rfl
      | 4 => simp at hi; subst hi; rfl
      | i + 5 => simp at hi) (by simp)
  clear hG hA
  go_enter Tryd.func45, Tryd.ntmps45
  go_wp2_with fail
  refine (hof.out _).mono ?_
  rintro e w1 ⟨g, A, cap', rfl, hg, hR, hb⟩
  have HR := Lib.hid hR
  have HB1 := Lib.hid (HA.out.trans (hb.mono HA.out.size))
  have HG1 := Lib.hid hg
  clear hR hb hg
  go_wp2_with fail
  refine (rnat_ok (n := 1) (sz := 2) HR.out (by decide)).mono ?_
  rintro e w2 ⟨rfl, hR2, hO2⟩
  have HR2 := Lib.hid hR2
  have HO2 := Lib.hid hO2
  clear hR2 hO2
  go_wp2_with fail
  refine (rstr_long (most := 4) (n := 9) (sz := 2) HR2.out (by decide) (by decide) (by decide)).mono ?_
  rintro e w3 ⟨rfl, ⟨t, u, hR3⟩, hO3⟩
  have HR3 := Lib.hid hR3
  have HO3 := Lib.hid (HO2.out.trans hO3)
  clear hR3 hO3
  go_wp2_with fail
  have h300 : Calls Tryd.prog 35 #[.int .u64 300] w3 fun e w' => ∃ v, e = .returned v ∧ OwnBy w' w3.heap.size v (natB 300) ∧ Below w3.heap.size w3 w' := onat_any 300 (by decide) w3
  refine h300.mono ?_
  rintro e w4 ⟨v4, rfl, hO4, hb4⟩
  clear h300
  have cv4 := own_string hO4 (by decide)
  rw [show natB 300 = [2, 1, 44] from by decide] at cv4
  have HB4 := Lib.hid hb4
  clear hO4 hb4
  go_wp2_with fail
  have h3 : Calls Tryd.prog 36 #[.int .i64 (-3)] w4 fun e w' => ∃ v, e = .returned v ∧ OwnBy w' w4.heap.size v (natB (numN (-3))) ∧ Below w4.heap.size w4 w' := onum_any (-3) (by decide) (by decide) w4
  refine h3.mono ?_
  rintro e w5 ⟨v5, rfl, hO5, hb5⟩
  clear h3 cv4
  have cv5 := own_string hO5 (by decide)
  rw [show natB (numN (-3)) = [1, 5] from by decide] at cv5
  have HB5 := Lib.hid (HB4.out.trans (hb5.mono HB4.out.size))
  clear hO5 hb5
  go_wp2_with fail
  refine (ostr_any ⟨#[97, 98]⟩ (by decide) _).mono ?_
  rintro e w6 ⟨v6, rfl, hO6, hb6⟩
  clear cv5
  have cv6 := own_string hO6 (by decide)
  rw [show strB ⟨#[97, 98]⟩ = [1, 2, 97, 98] from by decide] at cv6
  have HB6 := Lib.hid (HB5.out.trans (hb6.mono HB5.out.size))
  clear hO6 hb6
  have HR6 := Lib.hid (HR3.out.below HB6.out)
  have HG6 : Hid (Glob w6) := by
    have h1 : Glob w1 := HG.out.below HB1.out
    have h0g : (0 : Nat) ≠ g := by
      have := HG1.out
      simp at this
      omega
    have h3 : Glob w3 := (World.cell?_of_block (a := ⟨0, 0, none⟩) (HO3.out.block 0 h1.lt h0g)).trans h1
    exact h3.below HB6.out
  have hok : Hid (NumOk [Lk.plc ((0 + 2 : Nat) : Int), Lk.num 7]) := by
    intro e he
    simp at he
    omega
  go_wp2_with fail
  refine (rerr_any HG6.out HR6.out hok.out (by decide)).mono ?_
  rintro e w7 ⟨rfl, hb7⟩
  rw [show codeOf [Lk.plc ((0 + 2 : Nat) : Int), Lk.num 7] = 7 from rfl]
  have HB7 := Lib.hid hb7
  clear hb7 cv6
  go_wp2_with fail
  refine (rplc_any (HG6.out.below HB7.out) (HR6.out.below HB7.out) (by decide)).mono ?_
  rintro e w8 ⟨rfl, hb8⟩
  rw [show placeOf [Lk.plc ((0 + 2 : Nat) : Int), Lk.num 7] = 2 from rfl]
  have HB8 := Lib.hid hb8
  clear hb8
  go_wp2
  go_ret
  refine ⟨rfl, ?_⟩
  have hsz : w.heap.size ≤ g := by
    have := HG1.out
    simp at this
    omega
  have o3 : Below w.heap.size w w3 := HB1.out.trans ⟨HO3.out.os, HO3.out.tape, HO3.out.output, HO3.out.size, fun k hk => HO3.out.block k (Nat.lt_of_lt_of_le hk HB1.out.size) (by omega)⟩
  have o6 := o3.trans (HB6.out.mono o3.size)
  have o7 := o6.trans (HB7.out.mono o6.size)
  exact o7.trans (HB8.out.mono o7.size)

set_option maxRecDepth 100000 in
set_option maxHeartbeats 4000000 in
theorem law_onil {w : World} (a b : Int) (hG : Glob w) : Calls Tryd.prog 12 #[.int .i64 a, .int .i64 b] w fun e w' => e = .returned (.bool true) ∧ Below w.heap.size w w' := by
  have HA := Lib.hid (awake2 hG)
  clear hG
  go_enter Tryd.func12, Tryd.ntmps12
  go_wp2_with (first | (go_at_call 47; refine (rnat_nil _).mono ?_; rintro e w' ⟨rfl, rfl⟩) | (go_at_call 48; refine (rnum_nil _).mono ?_; rintro e w' ⟨rfl, rfl⟩) | (go_at_call 49; refine (rstr_nil _ _).mono ?_; rintro e w' ⟨rfl, rfl⟩) | (go_at_call 50; refine (ryes_nil _).mono ?_; rintro e w' ⟨rfl, rfl⟩) | (go_at_call 51; refine (rstrs_nil _ _ _).mono ?_; rintro e w' ⟨rfl, rfl⟩) | (go_at_call 57; refine (rupto_nil _ _ _).mono ?_; rintro e w' ⟨rfl, rfl⟩) | (go_at_call 54; refine (rerr_nil _).mono ?_; rintro e w' ⟨rfl, rfl⟩) | (go_at_call 56; refine (rend_nil _).mono ?_; rintro e w' ⟨rfl, rfl⟩) | (go_at_call 55; refine (rplace_nil _).mono ?_; rintro e w' ⟨rfl, rfl⟩) | (go_at_call 53; refine (rleft_nil _).mono ?_; rintro e w' ⟨rfl, rfl⟩) | (go_at_call 45; refine (HA.out).mono ?_; rintro e w1 ⟨rfl, hb⟩))
  go_ret
  exact ⟨rfl, hb⟩
end Go.Proofs.YtakdhhapckcnaaaDoor
