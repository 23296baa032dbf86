/- What the law OctetTells calls: short, some, octet.Yes, octet.Strs, octet.Seq, and the reference functions of layer 2. -/
import Derived.Test.YtakdhhapckcnaaaDoorOctW
set_option linter.unusedSimpArgs false
set_option linter.unusedVariables false
set_option linter.unnecessarySimpa false
namespace Go.Proofs.YtakdhhapckcnaaaDoor
open Go.RowKit

def shortB (s : ByteArray) : ByteArray := if 300 < s.size then s.extract 0 300 else s
theorem shortB_le (s : ByteArray) : (shortB s).size ≤ 300 := by
  unfold shortB
  split
  · rw [ByteArray.size_extract]; omega
  · omega
set_option maxHeartbeats 400000 in
theorem short_any (s : ByteArray) (hs : s.size ≤ 9223372036854775807) (w : World) : Calls Tryd.prog 32 #[.string s] w fun e w' => e = .returned (.string (shortB s)) ∧ w = w' := by
  by_cases h : 300 < s.size
  · have e : shortB s = s.extract 0 300 := by unfold shortB; rw [if_pos h]
    rw [e]
    go_enter Tryd.func32, Tryd.ntmps32
    go_wp2
    go_ret
    exact ⟨rfl, rfl⟩
  · have e : shortB s = s := by unfold shortB; rw [if_neg h]
    rw [e]
    go_enter Tryd.func32, Tryd.ntmps32
    go_wp2
    go_ret
    exact ⟨rfl, rfl⟩

def someL (ls : List ByteArray) : List ByteArray := (ls.take 20).map shortB
def TxtIn (w : World) (v : Value) (ss : List ByteArray) : Prop := ((∃ A cap, v = .slice A 0 cap ∧ ss = []) ∨ TxtIs w v ss) ∧ ∀ s ∈ ss, s.size ≤ 9223372036854775807
theorem someL_le (ls : List ByteArray) : (someL ls).length ≤ 20 := by unfold someL; simp; omega
theorem someL_size (ls : List ByteArray) : ∀ s ∈ someL ls, s.size ≤ 300 := by
  intro s hs
  unfold someL at hs
  obtain ⟨t, _, rfl⟩ := List.mem_map.1 hs
  exact shortB_le t
theorem someL_snoc {ls : List ByteArray} {k : Nat} {x : ByteArray} (hx : ls[k]? = some x) : someL (ls.take (k + 1)) = if k < 20 then someL (ls.take k) ++ [shortB x] else someL (ls.take k) := by
  have hlt : k < ls.length := (List.getElem?_eq_some_iff.1 hx).1
  unfold someL
  rw [List.take_take, List.take_take]
  split
  · rw [Nat.min_eq_right (by omega), Nat.min_eq_right (by omega), List.take_succ_eq_append_getElem hlt, List.map_append, (List.getElem?_eq_some_iff.1 hx).2]; rfl
  · rw [Nat.min_eq_left (by omega), Nat.min_eq_left (by omega)]
set_option maxRecDepth 100000 in
set_option maxHeartbeats 2000000 in
theorem some_any {w : World} {v : Value} {ls : List ByteArray} (h : TxtIn w v ls) : Calls Tryd.prog 33 #[v] w fun e w' => ∃ v, e = .returned v ∧ TxtIs w' v (someL ls) ∧ Below w.heap.size w w' := by
  obtain ⟨h, hsz⟩ := h
  have h0 : ∀ A cap, Calls Tryd.prog 33 #[.slice A 0 cap] w fun e w' => ∃ v, e = .returned v ∧ TxtIs w' v [] ∧ Below w.heap.size w w' := by
    intro A cap
    go_enter Tryd.func33, Tryd.ntmps33
    go_wp2
    refine wp_loop_rounds 1 ?_
    rw [rounds_succ]
    go_wp2
    go_ret
    exact ⟨_, rfl, .inl ⟨rfl, rfl⟩, Below.refl _ _⟩
  rcases h with ⟨A, cap, rfl, rfl⟩ | ⟨rfl, rfl⟩ | ⟨a, cap, rfl, hlc, hcm, hal, h6⟩
  · exact h0 A cap
  · exact h0 none 0
  · clear h0
    unfold maxLen at hcm
    have hlm : ls.length ≤ 9223372036854775807 := by omega
    obtain ⟨i0, hi, hz0, hz1, hz2⟩ := info_parts info9
    have HSZ := Lib.hid hsz
    clear hsz
    go_enter Tryd.func33, Tryd.ntmps33
    go_wp2_with fail
    go_loopw [3, 8] (fun v i wr => ∃ k : Nat, k ≤ ls.length ∧ i = .int .i64 k ∧ wr.ownsRow w.heap.size 9 1 v (someL (ls.take k)).length ((someL (ls.take k)).map Value.string) ∧ Below w.heap.size w wr) (fun _ i _ => ls.length - (intOf i).toNat)
    case atStart => exact ⟨0, by omega, rfl, World.ownsRow_nil _ _ _ _, Below.refl _ _⟩
    case round =>
      obtain ⟨k, hk, rfl, hown, hb⟩ := hrel
      by_cases hlt : k < ls.length
      · have hx : ls[k]? = some ls[k] := List.getElem?_eq_getElem hlt
        generalize ls[k] = x at hx
        have c0 := (hb.cell (p := a.add k) (by rw [add_block]; exact hal)).trans (h6 k x hx)
        have HX := Lib.hid hx
        have HB := Lib.hid hb
        have HO := Lib.hid hown
        have hszw : w.heap.size ≤ wr.heap.size := hb.size
        have hnl := someL_le (ls.take k)
        have hxs := HSZ.out x (List.mem_of_getElem? hx)
        have HSh := Lib.hid (short_any x hxs)
        clear hx hb h6 hown hxs
        by_cases hk2 : (k : Int) < 20
        · have hkn : k < 20 := by omega
          have HS := Lib.hid (someL_snoc HX.out)
          go_wp2_with fail
          refine (HSh.out _).mono ?_
          rintro e w' ⟨rfl, rfl⟩
          go_wp2_with (at_builtin; refine wpList_append_own _ rfl _ _ 36 rfl w.heap.size 9 i0 _ 1 16 Tryd.underlying36 hi hz0 hz1 hz2 rfl (by decide) _ _ _ rfl (HO.out.alloc _) ⟨wr.heap.size, 0, none⟩ 1 1 [.string (shortB x)] rfl rfl (one_new _ _ rfl _ _) (str_one _) ?_ ?_ ?_ ?_)
          · unfold maxLen; omega
          · omega
          · (try simp); omega
          intro v' w' hown' hgrow _
          have hB' : Below w.heap.size w w' := (HB.out.alloc hszw _).grown hgrow (by simp; omega) (fun j hj => (HO.out.lt j hj).1)
          have HO' := Lib.hid hown'
          have HBw := Lib.hid hB'
          clear hown' hgrow hB'
          go_wp2
          go_roundw
          case rel =>
            refine ⟨k + 1, by omega, by go_num, ?_, HBw.out⟩
            rw [HS.out, if_pos hkn, List.length_append, List.map_append]
            exact HO'.out
          case measure => simp [intOf]; omega
        · have hkn : ¬ k < 20 := by omega
          have HS := Lib.hid (someL_snoc HX.out)
          go_wp2
          go_roundw
          case rel =>
            refine ⟨k + 1, by omega, by go_num, ?_, HB.out⟩
            rw [HS.out, if_neg hkn]
            exact HO.out
          case measure => simp [intOf]; omega
      · obtain rfl : k = ls.length := by omega
        have HB := Lib.hid hb
        have HO := Lib.hid hown
        clear hb h6 hown
        go_wp2
        go_ret
        refine ⟨_, rfl, ?_, HB.out⟩
        have := HO.out
        rw [List.take_length] at this
        exact txt_of_own this

def yesB (b : Bool) : List UInt8 := if b then [1] else [0]
set_option maxHeartbeats 400000 in
theorem oyes_any (b : Bool) (w : World) : Calls Tryd.prog 38 #[.bool b] w fun e w' => ∃ v, e = .returned v ∧ OwnBy w' w.heap.size v (yesB b) ∧ Below w.heap.size w w' := by
  have own1 : ∀ x : UInt8, OwnBy (w.alloc (.cells #[.int .u8 (x.toNat : Int)] 5)) w.heap.size (.slice (some ⟨w.heap.size, 0, none⟩) 1 1) [x] := fun x =>
    .inr ⟨w.heap.size, 1, rfl, ⟨Nat.le_refl _, by simp, Nat.le_refl _, by unfold maxLen; omega, fun j b hj => by
      rw [cell_of_row _ _ _ _ _ _ (heap_alloc_new w _)]
      match j with
      | 0 => simp at hj; subst hj; rfl
      | j + 1 => simp at hj, fun j hj => ⟨by
        rw [cell_of_row _ _ _ _ _ _ (heap_alloc_new w _)]
        obtain rfl : j = 0 := by omega
        rfl, free0 (heap_alloc_new w _) j⟩⟩⟩
  have H1 := Lib.hid (own1 1)
  have H0 := Lib.hid (own1 0)
  clear own1
  cases b
  · go_enter Tryd.func38, Tryd.ntmps38
    go_wp2
    go_ret
    exact ⟨_, rfl, H0.out, (Below.refl _ _).alloc (Nat.le_refl _) _⟩
  · go_enter Tryd.func38, Tryd.ntmps38
    go_wp2
    go_ret
    exact ⟨_, rfl, H1.out, (Below.refl _ _).alloc (Nat.le_refl _) _⟩
end Go.Proofs.YtakdhhapckcnaaaDoor
