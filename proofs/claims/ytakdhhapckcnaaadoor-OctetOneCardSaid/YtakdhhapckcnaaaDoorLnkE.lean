/- fault.First at every slice of errors, and the closed example of chapter 1 (awake). -/
import Derived.Test.YtakdhhapckcnaaaDoorLnkD
set_option linter.unusedSimpArgs false
set_option linter.unusedVariables false
namespace Go.Proofs.YtakdhhapckcnaaaDoor
open Go.RowKit

/-- A slice value that reads as errors. -/
def ErrsIs (w : World) (v : Value) (vs : List Value) : Prop :=
  (v = .slice none 0 0 ∧ vs = []) ∨ ∃ b cap, v = .slice (some ⟨b, 0, none⟩) vs.length cap ∧ vs.length ≤ 1000 ∧ (∀ i x, vs[i]? = some x → w.cell? ⟨b, i, none⟩ = some x) ∧ ∀ x ∈ vs, x = .nilIface ∨ ∃ t u, x = .iface t u
def firstV : List Value → Value
  | [] => .nilIface
  | .nilIface :: r => firstV r
  | x :: _ => x
theorem firstV_skip {vs : List Value} {k : Nat} (h : ∀ i x, i < k → vs[i]? = some x → x = .nilIface) : firstV vs = firstV (vs.drop k) := by
  induction k generalizing vs with
  | zero => rfl
  | succ k ih =>
    cases vs with
    | nil => rfl
    | cons x r =>
      obtain rfl := h 0 x (by omega) rfl
      rw [firstV]
      exact ih (fun i y hi hy => h (i + 1) y (by omega) (by simpa using hy))
set_option maxRecDepth 100000 in
set_option maxHeartbeats 2000000 in
theorem first_any {w : World} {v : Value} {vs : List Value} (h : ErrsIs w v vs) : Calls Tryd.prog 31 #[v] w fun e w' => e = .returned (firstV vs) ∧ w = w' := by
  rcases h with ⟨rfl, rfl⟩ | ⟨b, cap, rfl, hl, hc, hf⟩
  · go_enter Tryd.func31, Tryd.ntmps31
    go_wp2
    refine wp_loop_rounds 1 ?_
    rw [rounds_succ]
    go_wp2
    go_ret
    exact ⟨rfl, rfl⟩
  · go_enter Tryd.func31, Tryd.ntmps31
    go_wp2_with fail
    go_loop [7] (fun i => ∃ k : Nat, k ≤ vs.length ∧ i = .int .i64 k ∧ ∀ i x, i < k → vs[i]? = some x → x = .nilIface) (fun i => vs.length - (intOf i).toNat)
    case atStart => exact ⟨0, by omega, rfl, fun i x hi _ => by omega⟩
    case round =>
      obtain ⟨k, hk, rfl, hpre⟩ := hrel
      have HP := Lib.hid hpre
      by_cases hlt : k < vs.length
      · have hx : vs[k]? = some vs[k] := List.getElem?_eq_getElem hlt
        generalize vs[k] = x at hx
        have c0 := hc k x hx
        have HX := Lib.hid hx
        have hdrop : Hid (vs.drop k = x :: vs.drop (k + 1)) := by
          show vs.drop k = x :: vs.drop (k + 1)
          rw [List.drop_eq_getElem_cons hlt, (List.getElem?_eq_some_iff.1 hx).2]
        rcases hf x (List.mem_of_getElem? hx) with rfl | ⟨t, u, rfl⟩
        · have HN : Hid (∀ i x, i < k + 1 → vs[i]? = some x → x = .nilIface) := by
            intro i y hi hy
            by_cases hik : i < k
            · exact hpre i y hik hy
            · obtain rfl : i = k := by omega
              rw [hx] at hy; cases hy; rfl
          clear hx hpre hc hf
          go_wp2
          go_round
          case rel => exact ⟨k + 1, by omega, by go_num, HN.out⟩
          case measure => simp [intOf]; omega
        · clear hx hpre hc hf
          go_wp2
          go_ret
          exact ⟨by rw [firstV_skip HP.out, hdrop.out]; rfl, rfl⟩
      · obtain rfl : k = vs.length := by omega
        clear hpre hc hf
        go_wp2
        go_ret
        exact ⟨by rw [firstV_skip HP.out, List.drop_length]; rfl, rfl⟩

def keyB : ByteArray := ⟨#[107, 101, 121]⟩
noncomputable def awW (w : World) : World := (w.alloc (.cells #[.iface 84 (.agg #[.int .i64 7]), .string ⟨#[107, 101, 121]⟩] 98)).alloc (.cells #[.iface 94 (.pointer (some ⟨w.heap.size, 0, none⟩)), .int .i64 3] 91)
theorem awW_below (w : World) : Below w.heap.size w (awW w) := ((Below.refl _ _).alloc (Nat.le_refl _) _).alloc (by simp) _
theorem awW_err (w : World) : ErrIs (awW w) [.plc 3, .nam ⟨#[107, 101, 121]⟩, .num 7] (.iface 87 (.pointer (some ⟨w.heap.size + 1, 0, none⟩))) := by
  refine ⟨by simp, _, _, rfl, by unfold awW; rw [← heap_size_alloc_cells w #[.iface 84 (.agg #[.int .i64 7]), .string ⟨#[107, 101, 121]⟩] 98]; exact heap_alloc_new _ _, by simp, _, _, rfl, block_alloc (heap_alloc_new w _), rfl, rfl⟩
theorem awW_size (w : World) : (awW w).heap.size = w.heap.size + 1 + 1 := by unfold awW; simp
set_option maxRecDepth 100000 in
set_option maxHeartbeats 4000000 in
theorem awake1 {w : World} (hG : Glob w) : Calls Tryd.prog 26 #[] w fun e w' => e = .returned (.bool true) ∧ Below w.heap.size w w' := by
  have n0 := Lib.hid (new_zero)
  have n7 := Lib.hid (new_num 7 (by decide))
  have n6 := Lib.hid (new_num 6 (by decide))
  have n2 := Lib.hid (new_num 2 (by decide))
  have HG := Lib.hid hG
  clear hG
  go_enter Tryd.func26, Tryd.ntmps26
  go_wp2_with fail
  refine (n7.out _).mono ?_
  rintro e w' ⟨rfl, rfl⟩
  go_wp2_with fail
  refine (in_some _ _ _ _).mono ?_
  rintro e w' ⟨rfl, rfl⟩
  go_wp2_with fail
  refine (at_some _ _ _ _).mono ?_
  rintro e w' ⟨rfl, rfl⟩
  go_wp2_with fail
  have hE := Lib.hid (awW_err w)
  have hG2 := Lib.hid (HG.out.below (awW_below w))
  have hz : Hid (NumOk [.plc 3, .nam ⟨#[107, 101, 121]⟩, .num 7]) := by
    intro e he
    simp at he
    omega
  refine (trail_any (W := awW w) hG2.out hE.out (by decide) (Below.refl _ _)).mono ?_
  rintro e w3 ⟨v3, rfl, hT, hb3⟩
  obtain ⟨a, cap, rfl, hal, hk⟩ : ∃ a cap, v3 = .slice (some a) 1 cap ∧ a.block < w3.heap.size ∧ w3.cell? a = some (.string ⟨#[107, 101, 121]⟩) := by
    rcases hT with ⟨_, h⟩ | ⟨a, cap, rfl, _, _, h3, h4⟩
    · cases h
    · exact ⟨a, cap, rfl, h3, h4 0 _ rfl⟩
  have HB3 := Lib.hid hb3
  have HK := Lib.hid hk
  clear hb3 hk hT
  go_wp2_with fail
  refine (code_any hG2.out hE.out hz.out (by decide) HB3.out).mono ?_
  rintro e w4 ⟨rfl, hb4⟩
  have HB4 := Lib.hid (HB3.out.trans (hb4.mono HB3.out.size))
  have HK4 := Lib.hid ((hb4.cell hal).trans HK.out)
  have hal4 : a.block < w4.heap.size := Nat.lt_of_lt_of_le hal hb4.size
  rw [show codeOf [.plc 3, .nam ⟨#[107, 101, 121]⟩, .num 7] = 7 from rfl]
  clear hb4
  go_wp2_with fail
  refine (place_any hG2.out hE.out (by decide) HB4.out).mono ?_
  rintro e w5 ⟨rfl, hb5⟩
  have HB5 := Lib.hid (HB4.out.trans (hb5.mono HB4.out.size))
  have hk5 := (hb5.cell hal4).trans HK4.out
  rw [show placeOf [.plc 3, .nam ⟨#[107, 101, 121]⟩, .num 7] = 3 from rfl]
  clear hb5
  go_wp2_with fail
  refine (depth_any hE.out HB5.out (by decide)).mono ?_
  rintro e w6 ⟨rfl, hb6⟩
  have HB6 := Lib.hid (HB5.out.trans (hb6.mono HB5.out.size))
  clear hb6 hk5
  go_wp2_with fail
  refine (n6.out _).mono ?_
  rintro e w' ⟨rfl, rfl⟩
  go_wp2_with fail
  refine (n2.out _).mono ?_
  rintro e w' ⟨rfl, rfl⟩
  go_wp2_with fail
  have hb7 : Below w6.heap.size w6 (w6.alloc (.cells #[.nilIface, .iface 84 (.agg #[.int .i64 6]), .iface 84 (.agg #[.int .i64 2])] 25)) := (Below.refl _ _).alloc (Nat.le_refl _) _
  have HB7 := Lib.hid (HB6.out.trans (hb7.mono HB6.out.size))
  have hF : Hid (ErrsIs (w6.alloc (.cells #[.nilIface, .iface 84 (.agg #[.int .i64 6]), .iface 84 (.agg #[.int .i64 2])] 25)) (.slice (some ⟨w6.heap.size, 0, none⟩) 3 3) [.nilIface, .iface 84 (.agg #[.int .i64 6]), .iface 84 (.agg #[.int .i64 2])]) := by
    refine .inr ⟨_, _, rfl, by decide, ?_, ?_⟩
    · intro i x hx
      rw [cell_of_row _ _ _ _ _ _ (heap_alloc_new w6 _)]
      simpa using hx
    · intro x hx
      simp at hx
      rcases hx with rfl | rfl | rfl
      · exact .inl rfl
      · exact .inr ⟨_, _, rfl⟩
      · exact .inr ⟨_, _, rfl⟩
  clear hb7
  refine (first_any hF.out).mono ?_
  rintro e w' ⟨rfl, rfl⟩
  rw [show firstV [.nilIface, .iface 84 (.agg #[.int .i64 6]), .iface 84 (.agg #[.int .i64 2])] = .iface 84 (.agg #[.int .i64 6]) from rfl]
  go_wp2_with fail
  have hz6 : Hid (NumOk [.num 6]) := by
    intro e he
    simp at he
    omega
  refine (code_any (c := [.num 6]) (hG2.out.below HB7.out) ⟨rfl, rfl⟩ hz6.out (by decide) (Below.refl _ _)).mono ?_
  rintro e w8 ⟨rfl, hb8⟩
  have HB8 := Lib.hid hb8
  clear hb8
  rw [show codeOf [.num 6] = 6 from rfl]
  go_wp2_with fail
  refine (n0.out _).mono ?_
  rintro e w' ⟨rfl, rfl⟩
  go_wp2
  go_ret
  exact ⟨rfl, (awW_below w).trans ((HB7.out.mono (awW_below w).size).trans (HB8.out.mono (Nat.le_trans (awW_below w).size HB7.out.size)))⟩
end Go.Proofs.YtakdhhapckcnaaaDoor
