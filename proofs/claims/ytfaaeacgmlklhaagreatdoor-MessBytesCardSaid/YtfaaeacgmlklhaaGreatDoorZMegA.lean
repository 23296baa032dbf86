/- The law's own Cut of operations and of messages. -/
import Derived.Test.YtfaaeacgmlklhaaGreatDoorZMefC
import Derived.Test.YtfaaeacgmlklhaaGreatDoorZMeeD
set_option linter.unusedSimpArgs false
set_option linter.unusedVariables false
set_option linter.unnecessarySimpa false
namespace Go.Proofs.YtfaaeacgmlklhaaGreatDoor
open Go.RowKit Go.Shelf

def cutK (o : OpV) : OpV := if 20 < o.s.size then ⟨o.k, o.s.extract 0 20, o.n, o.lo⟩ else o
def cutO (l : List OpV) : List OpV := (l.take 12).map cutK
theorem cutO_len (l : List OpV) : (cutO l).length ≤ 12 := by unfold cutO; rw [List.length_map, List.length_take]; omega
theorem cutO_snoc {l : List OpV} {i : Nat} {o : OpV} (hi : i < 12) (h : l[i]? = some o) : cutO (l.take (i + 1)) = cutO (l.take i) ++ [cutK o] := by
  unfold cutO
  rw [List.take_take, List.take_take, show min 12 (i + 1) = i + 1 by omega, show min 12 i = i by omega, List.take_add_one, h]
  simp
theorem ext_size (s : ByteArray) (h : 20 < s.size) : (s.extract 0 20).size = 20 := by
  have := size_list (s.extract 0 20)
  rw [ext_toList] at this
  have h2 := size_list s
  simp only [List.drop_zero, List.length_take] at this
  omega
theorem cutK_size (o : OpV) : (cutK o).s.size ≤ 20 := by
  unfold cutK
  split
  · rename_i h
    have := ext_size o.s h
    simp only
    omega
  · omega
theorem cutO_keys (l : List OpV) : ∀ o ∈ cutO l, o.s.size ≤ 20 := fun o ho => by
  obtain ⟨x, _, rfl⟩ := List.mem_map.1 ho
  exact cutK_size x
set_option maxRecDepth 100000 in
set_option maxHeartbeats 4000000 in
theorem lcut_any {w : World} {v : Value} {l : List OpV} (h : OpsAt w v l) :
    Calls Tryz.prog 17 #[v] w fun e w' => ∃ v', e = .returned v' ∧ RowN w' w.heap.size 4 v' (cutO l).length (opC (cutO l)) ∧ Below w.heap.size w w' := by
  obtain ⟨A, cap, rfl, hc1, hc2, hcell⟩ := h.form
  unfold maxLen at hc2
  have HC := Lib.hid hcell
  obtain ⟨m, hm⟩ : ∃ m, l.length = m := ⟨_, rfl⟩
  have HM := Lib.hid hm
  rw [hm] at hc1 ⊢
  have hmb : m ≤ 9223372036854775807 := by omega
  clear hcell hm h
  go_enter Tryz.func17, Tryz.ntmps17
  go_wp2_with fail
  go_loopw [3, 8] (fun bv iv wr => ∃ i : Nat, i ≤ m ∧ i ≤ 12 ∧ iv = .int .i64 i ∧ RowN wr w.heap.size 4 bv i (opC (cutO (l.take i))) ∧ Below w.heap.size w wr) (fun _ iv _ => m - (intOf iv).toNat)
  case atStart => exact ⟨0, Nat.zero_le _, Nat.zero_le _, rfl, ⟨RowIs.nil _ _, (fun b e => by cases e), fun _ => rfl⟩, Below.refl _ _⟩
  case round =>
    obtain ⟨i, hi, hi2, rfl, hrow, hbw⟩ := hrel
    have hFIN : i = m ∨ i = 12 → cutO (l.take i) = cutO l ∧ (cutO l).length = i := fun h => by
      have e : cutO (l.take i) = cutO l := by
        unfold cutO
        rcases h with h | h
        · rw [List.take_of_length_le (i := i) (by rw [HM.out]; omega)]
        · subst h; rw [List.take_take]; rfl
      refine ⟨e, ?_⟩
      unfold cutO
      rw [List.length_map, List.length_take, HM.out]
      omega
    have HFIN := Lib.hid hFIN
    clear hFIN
    obtain ⟨Al, cl, rfl, _⟩ := hrow.1.form
    by_cases hlt : i < m
    · obtain ⟨o, hoi⟩ : ∃ o, l[i]? = some o := ⟨_, List.getElem?_eq_getElem (by rw [HM.out]; exact hlt)⟩
      obtain ⟨a, rfl, q1, k0, k1, k2, k3⟩ := HC.out i o hoi
      have hblk : (a.add (i * 4)).block < w.heap.size := by rw [add_block]; exact q1
      replace k0 := (hbw.cell hblk).trans k0
      replace k1 := (hbw.cell (p := ⟨(a.add (i * 4)).block, (a.add (i * 4)).off + 1, none⟩) hblk).trans k1
      replace k2 := (hbw.cell (p := ⟨(a.add (i * 4)).block, (a.add (i * 4)).off + 2, none⟩) hblk).trans k2
      replace k3 := (hbw.cell (p := ⟨(a.add (i * 4)).block, (a.add (i * 4)).off + 3, none⟩) hblk).trans k3
      have hiI : (i : Int) < (m : Int) := by omega
      by_cases h12 : i < 12
      · have h12I : ¬ (12 : Int) ≤ (i : Int) := by omega
        have HSN := Lib.hid (cutO_snoc h12 hoi)
        have HOI := Lib.hid (And.intro hlt h12)
        obtain ⟨kd, s, n, lo⟩ := o
        simp only at k0 k1 k2 k3
        have HROW := Lib.hid hrow
        have HB := Lib.hid hbw
        by_cases h20 : 20 < s.size
        · have h20I : (20 : Int) < (s.size : Int) := by omega
          have HSN2 : Hid (cutO (l.take (i + 1)) = cutO (l.take i) ++ [⟨kd, s.extract 0 20, n, lo⟩]) := Lib.hid (by rw [HSN.out]; unfold cutK; rw [if_pos h20])
          have hW1 := below_new (w := wr) (.cells #[.int .i64 kd, .string (s.extract 0 20), .int .i64 n, .int .i64 lo] 73)
          have hW2 := hW1.trans ((below_new (w := wr.alloc (.cells #[.int .i64 kd, .string (s.extract 0 20), .int .i64 n, .int .i64 lo] 73)) (.cells #[.int .i64 kd, .string (s.extract 0 20), .int .i64 n, .int .i64 lo] 73)).mono hW1.size)
          have hat2 := alloc_at (wr.alloc (.cells #[.int .i64 kd, .string (s.extract 0 20), .int .i64 n, .int .i64 lo] 73)) (.cells #[.int .i64 kd, .string (s.extract 0 20), .int .i64 n, .int .i64 lo] 73)
          rw [asz] at hat2
          have HSRC := Lib.hid (src_op (o := ⟨kd, s.extract 0 20, n, lo⟩) hat2)
          have HRW := Lib.hid (hrow.1.below hW2)
          have HB2 := Lib.hid (hbw.trans (hW2.mono hbw.size))
          clear hrow hbw hoi hblk q1 hlt h12 hW1 hW2 hat2 HSN h20 hi hi2
          go_wp2_with (at_builtin; refine wpList_append_row _ _ Tryz.underlying24 infoO rfl (by decide) (by decide) _ rfl _ _ 24 rfl i 1 (opC (cutO (l.take i))) [.int .i64 kd, .string (s.extract 0 20), .int .i64 n, .int .i64 lo] _ _ rfl rfl HRW.out HSRC.out ?_ ?_)
          · have := HOI.out; omega
          intro v' w' hr5 hg5 hb5
          have HNEW : Hid (RowN w' w.heap.size 4 v' (i + 1) (opC (cutO (l.take (i + 1)))) ∧ Below w.heap.size w w') := Lib.hid (by
            rw [HSN2.out]
            rw [← opC_snoc (cutO (l.take i)) ⟨kd, s.extract 0 20, n, lo⟩] at hr5
            refine ⟨RowN.grown ⟨HRW.out, HROW.out.2⟩ HB2.out.size hr5 (by rw [asz, asz]; exact hb5) (opC_first (by simp)), ?_⟩
            have ht := (Touch.refl (fun k => (Value.slice Al i cl).ownBlock = some k) _).grown hg5 (fun k e _ => e)
            exact HB2.out.trans (ht.below (fun b e => (HROW.out.2.1 b e).1) HB2.out.size))
          clear hr5 hg5 hb5 k0 k1 k2 k3
          go_wp2_with fail
          go_roundw
          case rel => exact ⟨i + 1, HOI.out.1, HOI.out.2, by go_num, HNEW.out.1, HNEW.out.2⟩
          case measure => have := HOI.out; simp [intOf]; omega
        · have h20I : ¬ (20 : Int) < (s.size : Int) := by omega
          have HSN2 : Hid (cutO (l.take (i + 1)) = cutO (l.take i) ++ [⟨kd, s, n, lo⟩]) := Lib.hid (by rw [HSN.out]; unfold cutK; rw [if_neg h20])
          have hW1 := below_new (w := wr) (.cells #[.int .i64 kd, .string s, .int .i64 n, .int .i64 lo] 73)
          have hW2 := hW1.trans ((below_new (w := wr.alloc (.cells #[.int .i64 kd, .string s, .int .i64 n, .int .i64 lo] 73)) (.cells #[.int .i64 kd, .string s, .int .i64 n, .int .i64 lo] 73)).mono hW1.size)
          have hat2 := alloc_at (wr.alloc (.cells #[.int .i64 kd, .string s, .int .i64 n, .int .i64 lo] 73)) (.cells #[.int .i64 kd, .string s, .int .i64 n, .int .i64 lo] 73)
          rw [asz] at hat2
          have HSRC := Lib.hid (src_op (o := ⟨kd, s, n, lo⟩) hat2)
          have HRW := Lib.hid (hrow.1.below hW2)
          have HB2 := Lib.hid (hbw.trans (hW2.mono hbw.size))
          clear hrow hbw hoi hblk q1 hlt h12 hW1 hW2 hat2 HSN h20 hi hi2
          go_wp2_with (at_builtin; refine wpList_append_row _ _ Tryz.underlying24 infoO rfl (by decide) (by decide) _ rfl _ _ 24 rfl i 1 (opC (cutO (l.take i))) [.int .i64 kd, .string s, .int .i64 n, .int .i64 lo] _ _ rfl rfl HRW.out HSRC.out ?_ ?_)
          · have := HOI.out; omega
          intro v' w' hr5 hg5 hb5
          have HNEW : Hid (RowN w' w.heap.size 4 v' (i + 1) (opC (cutO (l.take (i + 1)))) ∧ Below w.heap.size w w') := Lib.hid (by
            rw [HSN2.out]
            rw [← opC_snoc (cutO (l.take i)) ⟨kd, s, n, lo⟩] at hr5
            refine ⟨RowN.grown ⟨HRW.out, HROW.out.2⟩ HB2.out.size hr5 (by rw [asz, asz]; exact hb5) (opC_first (by simp)), ?_⟩
            have ht := (Touch.refl (fun k => (Value.slice Al i cl).ownBlock = some k) _).grown hg5 (fun k e _ => e)
            exact HB2.out.trans (ht.below (fun b e => (HROW.out.2.1 b e).1) HB2.out.size))
          clear hr5 hg5 hb5 k0 k1 k2 k3
          go_wp2_with fail
          go_roundw
          case rel => exact ⟨i + 1, HOI.out.1, HOI.out.2, by go_num, HNEW.out.1, HNEW.out.2⟩
          case measure => have := HOI.out; simp [intOf]; omega
      · have hi12 : (12 : Int) ≤ (i : Int) := by omega
        have HROW : Hid (RowN wr w.heap.size 4 (.slice Al i cl) (cutO l).length (opC (cutO l))) := Lib.hid (by
          obtain ⟨e1, e2⟩ := HFIN.out (.inr (by omega))
          rw [e1] at hrow
          rw [e2]
          exact hrow)
        have hW1 := hbw.trans ((below_new (w := wr) (.cells #[.int .i64 o.k, .string o.s, .int .i64 o.n, .int .i64 o.lo] 73)).mono hbw.size)
        have HRB : Hid (RowN (wr.alloc (.cells #[.int .i64 o.k, .string o.s, .int .i64 o.n, .int .i64 o.lo] 73)) w.heap.size 4 (.slice Al i cl) (cutO l).length (opC (cutO l))) := Lib.hid ⟨HROW.out.1.below (below_new _), HROW.out.2⟩
        have HB := Lib.hid hW1
        clear hrow hbw hoi hblk q1 hlt h12 hW1 hi hi2
        go_wp2_with fail
        go_ret
        exact ⟨_, rfl, HRB.out, HB.out⟩
    · obtain rfl : i = m := by omega
      have HROW : Hid (RowN wr w.heap.size 4 (.slice Al i cl) (cutO l).length (opC (cutO l))) := Lib.hid (by
        obtain ⟨e1, e2⟩ := HFIN.out (.inl rfl)
        rw [e1] at hrow
        rw [e2]
        exact hrow)
      have HB := Lib.hid hbw
      clear hrow hbw hlt hi2
      go_wp2_with fail
      go_ret
      exact ⟨_, rfl, HROW.out, HB.out⟩
end Go.Proofs.YtfaaeacgmlklhaaGreatDoor
