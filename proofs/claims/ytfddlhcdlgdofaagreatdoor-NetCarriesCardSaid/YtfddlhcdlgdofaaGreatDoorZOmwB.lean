/- octet.Num, Str, Seq. (Of stage 1's OctW, OctV, OctU.) -/
import Derived.Test.YtfddlhcdlgdofaaGreatDoorZOmwA
import Derived.Laws.IdiomStrings
set_option linter.unusedSimpArgs false
set_option linter.unusedVariables false
set_option linter.unnecessarySimpa false
namespace Go.Proofs.YtfddlhcdlgdofaaGreatDoor
open Go.RowKit Go.Shelf Go.Lib

theorem src_own {w : World} {base : Nat} {v : Value} {l : List UInt8} (h : OwnBy w base v l) (hl : l ≠ []) : Src Tryz.prog 1 54 v l.length (bc l) w := by
  rcases h with ⟨_, h⟩ | ⟨g, cap, rfl, h⟩
  · exact absurd h hl
  · exact Src.ofSlice _ Tryz.underlying54 ⟨g, 0, none⟩ l.length cap (bc l) (by simp [bc_length]) (fun j u hu => by
      obtain ⟨b, hb, rfl⟩ := bc_at hu
      rw [add0]; exact h.holds j b hb) (bc_one l)
theorem src_any {w : World} {base : Nat} {v : Value} {l : List UInt8} (h : OwnBy w base v l) : Src Tryz.prog 1 54 v l.length (bc l) w := by
  by_cases hl : l = []
  · subst hl
    rcases h with ⟨rfl, _⟩ | ⟨g, cap, rfl, h⟩
    · exact Src.ofNil w Tryz.underlying54 0
    · exact Src.ofSlice _ Tryz.underlying54 ⟨g, 0, none⟩ 0 cap [] rfl (fun j u hu => by simp at hu) (fun u hu => by cases hu)
  · exact src_own h hl
theorem OwnBy.mono {w : World} {base base' : Nat} {v : Value} {l : List UInt8} (h : OwnBy w base v l) (hb : base' ≤ base) : OwnBy w base' v l := by
  rcases h with h | ⟨g, cap, rfl, h⟩
  · exact .inl h
  · exact .inr ⟨g, cap, rfl, ⟨Nat.le_trans hb h.new, h.lt, h.le, h.max, h.holds, h.there⟩⟩
theorem OwnBy.len {w : World} {base : Nat} {v : Value} {l : List UInt8} (h : OwnBy w base v l) : ∃ A cap, v = .slice A l.length cap := by
  rcases h with ⟨rfl, rfl⟩ | ⟨g, cap, rfl, _⟩
  · exact ⟨_, _, rfl⟩
  · exact ⟨_, _, rfl⟩
def numN (m : Int) : Nat := if m < 0 then (2 * (-1 - m) + 1).toNat else (2 * m).toNat
set_option maxRecDepth 100000 in
set_option maxHeartbeats 1000000 in
theorem onum_any (m : Int) (h0 : -9223372036854775808 ≤ m) (h1 : m ≤ 9223372036854775807) (w : World) :
    Calls Tryz.prog 167 #[.int .i64 m] w fun e w' => ∃ v, e = .returned v ∧ OwnBy w' w.heap.size v (natB (numN m)) ∧ Below w.heap.size w w' := by
  have HN := Lib.hid (onat_any (numN m) (by unfold numN; split <;> omega) w)
  by_cases hm : m < 0
  · have HE : Hid ((numN m : Int) = 2 * (-1 - m) + 1) := by show (numN m : Int) = _; unfold numN; rw [if_pos hm]; omega
    go_enter Tryz.func167, Tryz.ntmps167
    go_wp2_with fail
    rw [show ((-1 - m) * 2 + 1 : Int) = (numN m : Int) from by rw [HE.out]; omega]
    refine (HN.out).mono ?_
    rintro e w1 ⟨v, rfl, hO, hB⟩
    have HO := Lib.hid hO
    have HB := Lib.hid hB
    clear hO hB
    go_wp2
    go_ret
    exact ⟨_, rfl, HO.out, HB.out⟩
  · have HE : Hid ((numN m : Int) = 2 * m) := by show (numN m : Int) = _; unfold numN; rw [if_neg hm]; omega
    have hm' : 0 ≤ m := by omega
    clear hm
    go_enter Tryz.func167, Tryz.ntmps167
    go_wp2_with fail
    rw [show (m * 2 : Int) = (numN m : Int) from by rw [HE.out]; omega]
    refine (HN.out).mono ?_
    rintro e w1 ⟨v, rfl, hO, hB⟩
    have HO := Lib.hid hO
    have HB := Lib.hid hB
    clear hO hB
    go_wp2
    go_ret
    exact ⟨_, rfl, HO.out, HB.out⟩

def strB (s : ByteArray) : List UInt8 := natB s.size ++ s.data.toList
theorem sizeB_le (n : Nat) (hn : n ≤ 18446744073709551615) : sizeB n ≤ 8 := by
  have := bitLen_le n hn
  unfold sizeB; omega
theorem natB_len (n : Nat) : (natB n).length = 1 + sizeB n := by unfold natB; rw [List.length_cons, beB_length]; omega
set_option maxRecDepth 100000 in
set_option maxHeartbeats 1000000 in
theorem ostr_any (s : ByteArray) (hs : s.size ≤ 536870912) (w : World) :
    Calls Tryz.prog 146 #[.string s] w fun e w' => ∃ v, e = .returned v ∧ OwnBy w' w.heap.size v (strB s) ∧ Below w.heap.size w w' := by
  have HN := Lib.hid (onat_any s.size (by omega) w)
  have hz : (s.size : Int) ≤ 536870912 := by omega
  have hz0 : (0 : Int) ≤ (s.size : Int) := by omega
  go_enter Tryz.func146, Tryz.ntmps146
  go_wp2_with fail
  refine (HN.out).mono ?_
  rintro e w1 ⟨v, rfl, hO, hB⟩
  have HO := Lib.hid hO
  have HB := Lib.hid hB
  have src : Hid (Src Tryz.prog 1 9 (.string s) s.data.toList.length (bc s.data.toList) w1) := Src.ofString w1 Tryz.underlying9 s
  have hlen : (natB s.size).length + s.data.toList.length ≤ 1073741824 := by
    have := sizeB_le s.size (by omega)
    have h2 : s.data.toList.length = s.size := by simp
    rw [natB_len, h2]; omega
  have HL := Lib.hid hlen
  clear hO hB hlen
  go_wp2_with (at_builtin; refine wpList_append_by _ rfl _ _ 9 rfl w.heap.size (natB s.size) s.data.toList _ _ rfl rfl HO.out src.out HL.out HB.out.size ?_)
  intro v' w' hown hg
  have HO' := Lib.hid hown
  have HB' := Lib.hid (HB.out.grown hg HB.out.size HO.out.rows)
  clear hown hg
  go_wp2
  go_ret
  exact ⟨_, rfl, HO'.out, HB'.out⟩

/-- A slice value that reads as slices of bytes. -/
def PartsIs (w : World) (v : Value) (ls : List (List UInt8)) : Prop :=
  (v = .slice none 0 0 ∧ ls = []) ∨ ∃ b cap, v = .slice (some ⟨b, 0, none⟩) ls.length cap ∧ b < w.heap.size ∧ ls.length ≤ 1000 ∧ ∀ i l, ls[i]? = some l → l ≠ [] ∧ ∃ x, w.cell? ⟨b, i, none⟩ = some x ∧ OwnBy w 0 x l
set_option maxRecDepth 100000 in
set_option maxHeartbeats 2000000 in
theorem oseq_any {w : World} {v : Value} {ls : List (List UInt8)} (h : PartsIs w v ls) (hl : ls.flatten.length ≤ 536870912) :
    Calls Tryz.prog 168 #[v] w fun e w' => ∃ v, e = .returned v ∧ OwnBy w' w.heap.size v ls.flatten ∧ Below w.heap.size w w' := by
  rcases h with ⟨rfl, rfl⟩ | ⟨b, cap, rfl, hbl, hn, h6⟩
  · go_enter Tryz.func168, Tryz.ntmps168
    go_wp2
    refine wp_loop_rounds 1 ?_
    rw [rounds_succ]
    go_wp2
    go_ret
    exact ⟨_, rfl, .inl ⟨rfl, rfl⟩, Below.refl _ _⟩
  · have H6 := Lib.hid h6
    have HL := Lib.hid hl
    clear h6 hl
    go_enter Tryz.func168, Tryz.ntmps168
    go_wp2_with fail
    go_loopw [3, 8] (fun v i wr => ∃ k : Nat, k ≤ ls.length ∧ i = .int .i64 k ∧ OwnBy wr w.heap.size v (ls.take k).flatten ∧ Below w.heap.size w wr) (fun _ i _ => ls.length - (RowKit.intOf i).toNat)
    case atStart => exact ⟨0, by omega, rfl, .inl ⟨rfl, by simp⟩, Below.refl _ _⟩
    case round =>
      obtain ⟨k, hk, rfl, hown, hb⟩ := hrel
      by_cases hlt : k < ls.length
      · have hx : ls[k]? = some ls[k] := List.getElem?_eq_getElem hlt
        generalize hll : ls[k] = l at hx
        obtain ⟨hne, x, hc, hox⟩ := H6.out k l hx
        have c0 := (hb.cell (p := ⟨b, k, none⟩) hbl).trans hc
        have src := Lib.hid (src_own (hox.below hb) hne)
        have HX : Hid ((ls.take (k + 1)).flatten = (ls.take k).flatten ++ l) := by
          show (ls.take (k + 1)).flatten = (ls.take k).flatten ++ l
          rw [List.take_succ_eq_append_getElem hlt, hll, List.flatten_append]; simp
        have hlen : Hid ((ls.take k).flatten.length + l.length ≤ 1073741824) := by
          have h1 : (ls.take (k + 1)).flatten.length ≤ ls.flatten.length := by
            have : ls.flatten = (ls.take (k + 1)).flatten ++ (ls.drop (k + 1)).flatten := by rw [← List.flatten_append, List.take_append_drop]
            rw [this, List.length_append]; omega
          rw [HX.out, List.length_append] at h1
          have := HL.out
          show (ls.take k).flatten.length + l.length ≤ 1073741824
          omega
        have HB := Lib.hid hb
        have HO := Lib.hid hown
        obtain ⟨Ax, cx, rfl⟩ : ∃ Ax cx, x = .slice Ax l.length cx := by
          rcases hox with ⟨rfl, rfl⟩ | ⟨g, c, rfl, _⟩
          · exact ⟨_, _, rfl⟩
          · exact ⟨_, _, rfl⟩
        clear hx hb hown hc hox hll hne
        go_wp2_with (at_builtin; refine wpList_append_by _ rfl _ _ 54 rfl w.heap.size (ls.take k).flatten l _ _ rfl rfl HO.out src.out hlen.out HB.out.size ?_)
        intro v' w' hown hg
        have HO' := Lib.hid hown
        have HB' := Lib.hid (HB.out.grown hg HB.out.size HO.out.rows)
        clear hown hg
        go_wp2
        go_roundw
        case rel => exact ⟨k + 1, by omega, by go_num, by rw [HX.out]; exact HO'.out, HB'.out⟩
        case measure => simp [RowKit.intOf]; omega
      · obtain rfl : k = ls.length := by omega
        have HB := Lib.hid hb
        have HO := Lib.hid hown
        clear hb hown
        go_wp2
        go_ret
        refine ⟨_, rfl, ?_, HB.out⟩
        have := HO.out
        rw [List.take_length] at this
        exact this
end Go.Proofs.YtfddlhcdlgdofaaGreatDoor
