/- The reference's Into, has and All, walked. -/
import Derived.Test.YtlbhpeeggbfcpaaZOwa
set_option linter.unusedSimpArgs false
set_option linter.unusedVariables false
set_option linter.unnecessarySimpa false
namespace Go.Proofs.Ytlbhpeeggbfcpaa
open Go.RowKit

theorem foldl_take {α β : Type} (f : β → α → β) (b : β) {l : List α} {k : Nat} {x : α} (h : l[k]? = some x) : (l.take (k + 1)).foldl f b = f ((l.take k).foldl f b) x := by
  have hk := (List.getElem?_eq_some_iff.1 h).1
  rw [List.take_succ_eq_append_getElem hk, (List.getElem?_eq_some_iff.1 h).2, List.foldl_append]
  rfl
theorem intoS_len (n : Int) (l : List Int) : (l.foldl (intoS n) ([], false)).1.length ≤ 2 * l.length := by
  refine snoc_ind (p := fun l => (l.foldl (intoS n) ([], false)).1.length ≤ 2 * l.length) l (by simp) (fun l x ih => ?_)
  rw [List.foldl_append]
  show (intoS n (l.foldl (intoS n) ([], false)) x).1.length ≤ _
  generalize l.foldl (intoS n) ([], false) = s at ih
  unfold intoS
  rw [List.length_append, List.length_append, List.length_singleton]
  have h1 : (if x = n then ([] : List Int) else [x]).length ≤ 1 := by split <;> simp
  have h2 : (if (!s.2 && decide (n ≤ x)) = true then s.1 ++ [n] else s.1).length ≤ s.1.length + 1 := by
    split
    · simp
    · omega
  show _ + _ ≤ _
  omega
set_option maxRecDepth 100000 in
set_option maxHeartbeats 4000000 in
theorem into_any {w : World} {v : Value} {l : List Int} {n : Int} (h : RowIs w 1 v l.length (ints l)) (hl : l.length ≤ 100000) : Calls Try.prog 21 #[v, .int .i64 n] w fun e w' => ∃ v', e = .returned v' ∧ RowIs w' 1 v' (intoP l n).length (ints (intoP l n)) ∧ (∀ b, v'.ownBlock = some b → w.heap.size ≤ b) ∧ Below w.heap.size w w' := by
  obtain ⟨A, cap, rfl, h1, h2, _⟩ := id h.form
  unfold maxLen at h2
  have HH := Lib.hid h
  have hl' : (l.length : Int) ≤ 100000 := by omega
  clear h
  go_enter Try.func21, Try.ntmps21
  go_wp2_with fail
  go_loopw [5, 6, 11] (fun ov bv iv wr => ∃ (k : Nat) (b : Bool) (o : List Int), k ≤ l.length ∧ iv = .int .i64 k ∧ bv = .bool b ∧ (l.take k).foldl (intoS n) ([], false) = (o, b) ∧ RowIs wr 1 ov o.length (ints o) ∧ (∀ b, ov.ownBlock = some b → w.heap.size ≤ b) ∧ Below w.heap.size w wr) (fun _ _ iv _ => l.length - (intOf iv).toNat)
  case atStart => exact ⟨0, false, [], Nat.zero_le _, rfl, rfl, rfl, RowIs.nil _ _, (fun b e => by cases e), Below.refl _ _⟩
  case round =>
    obtain ⟨k, b, o, hk, rfl, rfl, hs, hrow, ho, hb⟩ := hrel
    have HS := Lib.hid hs
    have HB := Lib.hid hb
    have HO := Lib.hid ho
    have HR := Lib.hid hrow
    have hol : o.length ≤ 200000 := by
      have h3 := intoS_len n (l.take k)
      rw [hs, List.length_take] at h3
      have h3 : o.length ≤ 2 * min k l.length := h3
      omega
    by_cases hlt : k < l.length
    · have hx : l[k]? = some l[k] := List.getElem?_eq_getElem hlt
      generalize l[k] = x at hx
      obtain ⟨_, _, e', _, _, _, _, hc⟩ := (HH.out.below hb).form
      injection e' with e1 _ e3
      subst e1 e3
      obtain ⟨g, rfl, kc⟩ := hc k (.int .i64 x) (by unfold ints; rw [List.getElem?_map, hx]; rfl)
      have hi : (k : Int) < (l.length : Int) := by omega
      have HLT := Lib.hid hlt
      have HF := Lib.hid (foldl_take (intoS n) ([], false) hx)
      rw [hs] at HF
      clear hs hx hk hc
      by_cases hbn : b = false ∧ n ≤ x
      · obtain ⟨rfl, hnx⟩ := hbn
        have q1 : (n ≤ x) = True := eq_true hnx
        obtain ⟨v1, w1, hr1, hv1, ht1, ho1⟩ := app_int n 30 hrow (by omega)
        have hb1 : Below w.heap.size w w1 := hb.trans (ht1.below (fun b e => ho b e) hb.size)
        have ho1' : ∀ b, v1.ownBlock = some b → w.heap.size ≤ b := fun b e => (ho1 b e).elim (fun e => ho b e) (fun e => by have := hb.size; omega)
        by_cases hxn : x = n
        · have q2 : (x != n) = false := by simpa using hxn
          have HI : Hid (intoS n (o, false) x = (o ++ [n], true)) := Lib.hid (by unfold intoS; simp [hnx, hxn])
          have HB1 := Lib.hid hb1
          have HO1 := Lib.hid ho1'
          have HV1 := Lib.hid hv1
          clear hxn hrow ho hb ht1 ho1 hv1 hb1 ho1' hnx
          go_wp2_with (at_builtin; refine wpList_app_run rfl _ _ _ _ rfl rfl rfl hr1 ?_)
          go_roundw
          case rel => exact ⟨k + 1, true, o ++ [n], HLT.out, by go_num, rfl, by rw [HF.out, HI.out], HV1.out, HO1.out, HB1.out⟩
          case measure => have := HLT.out; simp [intOf]; omega
        · have q2 : (x != n) = true := by simpa using hxn
          have HI : Hid (intoS n (o, false) x = (o ++ [n] ++ [x], true)) := Lib.hid (by unfold intoS; simp [hnx, hxn])
          obtain ⟨v2, w2, hr2, hv2, ht2, ho2⟩ := app_int x 30 hv1 (by rw [List.length_append, List.length_singleton]; omega)
          have hb2 : Below w.heap.size w w2 := hb1.trans (ht2.below (fun b e => ho1' b e) hb1.size)
          have ho2' : ∀ b, v2.ownBlock = some b → w.heap.size ≤ b := fun b e => (ho2 b e).elim (fun e => ho1' b e) (fun e => by have := hb1.size; omega)
          have HB1 := Lib.hid hb2
          have HO1 := Lib.hid ho2'
          have HV1 := Lib.hid hv2
          clear hxn hrow ho hb ht1 ho1 hv1 hb1 ho1' hnx hv2 ht2 ho2 hb2 ho2'
          go_wp2_with (first | (at_builtin; refine wpList_app_run rfl _ _ _ _ rfl rfl rfl hr1 ?_) | (at_builtin; refine wpList_app_run rfl _ _ _ _ rfl rfl rfl hr2 ?_))
          go_roundw
          case rel => exact ⟨k + 1, true, o ++ [n] ++ [x], HLT.out, by go_num, rfl, by rw [HF.out, HI.out], HV1.out, HO1.out, HB1.out⟩
          case measure => have := HLT.out; simp [intOf]; omega
      · have hno : (!b && decide (n ≤ x)) = false := by
          cases b
          · simp
            simp at hbn
            exact hbn
          · rfl
        have hb' : (b || decide (n ≤ x)) = b := by
          cases b
          · simp
            simp at hbn
            exact hbn
          · rfl
        by_cases hxn : x = n
        · have q2 : (x != n) = false := by simpa using hxn
          have HI : Hid (intoS n (o, b) x = (o, b)) := Lib.hid (by unfold intoS; simp [hno, hb', hxn]; simpa [hxn] using hb')
          clear hxn hrow ho hb hno hb'
          cases b with
          | true =>
            clear hbn
            go_wp2_with fail
            go_roundw
            case rel => exact ⟨k + 1, true, o, HLT.out, by go_num, rfl, by rw [HF.out, HI.out], HR.out, HO.out, HB.out⟩
            case measure => have := HLT.out; simp [intOf]; omega
          | false =>
            have q1 : (n ≤ x) = False := eq_false (fun e => hbn ⟨rfl, e⟩)
            clear hbn
            go_wp2_with fail
            go_roundw
            case rel => exact ⟨k + 1, false, o, HLT.out, by go_num, rfl, by rw [HF.out, HI.out], HR.out, HO.out, HB.out⟩
            case measure => have := HLT.out; simp [intOf]; omega
        · have q2 : (x != n) = true := by simpa using hxn
          have HI : Hid (intoS n (o, b) x = (o ++ [x], b)) := Lib.hid (by unfold intoS; rw [if_neg (by rw [hno]; simp), if_neg hxn, hb'])
          obtain ⟨v1, w1, hr1, hv1, ht1, ho1⟩ := app_int x 30 hrow (by omega)
          have HB1 : Hid (Below w.heap.size w w1) := Lib.hid (hb.trans (ht1.below (fun b e => ho b e) hb.size))
          have HO1 : Hid (∀ b, v1.ownBlock = some b → w.heap.size ≤ b) := Lib.hid (fun b e => (ho1 b e).elim (fun e => ho b e) (fun e => by have := hb.size; omega))
          have HV1 := Lib.hid hv1
          clear hxn hrow ho hb hno hb' hv1 ht1 ho1
          cases b with
          | true =>
            clear hbn
            go_wp2_with (at_builtin; refine wpList_app_run rfl _ _ _ _ rfl rfl rfl hr1 ?_)
            go_roundw
            case rel => exact ⟨k + 1, true, o ++ [x], HLT.out, by go_num, rfl, by rw [HF.out, HI.out], HV1.out, HO1.out, HB1.out⟩
            case measure => have := HLT.out; simp [intOf]; omega
          | false =>
            have q1 : (n ≤ x) = False := eq_false (fun e => hbn ⟨rfl, e⟩)
            clear hbn
            go_wp2_with (at_builtin; refine wpList_app_run rfl _ _ _ _ rfl rfl rfl hr1 ?_)
            go_roundw
            case rel => exact ⟨k + 1, false, o ++ [x], HLT.out, by go_num, rfl, by rw [HF.out, HI.out], HV1.out, HO1.out, HB1.out⟩
            case measure => have := HLT.out; simp [intOf]; omega
    · obtain rfl : k = l.length := by omega
      rw [List.take_length] at hs
      cases b with
      | true =>
        have HI : Hid (intoP l n = o) := Lib.hid (by unfold intoP; rw [hs]; simp)
        clear hlt hk hs hrow ho hb
        go_wp2_with fail
        go_ret
        exact ⟨_, rfl, by rw [HI.out]; exact HR.out, HO.out, HB.out⟩
      | false =>
        have HI : Hid (intoP l n = o ++ [n]) := Lib.hid (by unfold intoP; rw [hs]; simp)
        obtain ⟨v1, w1, hr1, hv1, ht1, ho1⟩ := app_int n 30 hrow (by omega)
        have HB1 : Hid (Below w.heap.size w w1) := Lib.hid (hb.trans (ht1.below (fun b e => ho b e) hb.size))
        have HO1 : Hid (∀ b, v1.ownBlock = some b → w.heap.size ≤ b) := Lib.hid (fun b e => (ho1 b e).elim (fun e => ho b e) (fun e => by have := hb.size; omega))
        have HV1 := Lib.hid hv1
        clear hlt hk hs hrow ho hb hv1 ht1 ho1
        go_wp2_with (at_builtin; refine wpList_app_run rfl _ _ _ _ rfl rfl rfl hr1 ?_)
        go_ret
        exact ⟨_, rfl, by rw [HI.out]; exact HV1.out, HO1.out, HB1.out⟩
end Go.Proofs.Ytlbhpeeggbfcpaa
