/- The law's own Cut of operations and of messages. The law's own Cut of messages, Ours, Plain (genmegb.py wrote it.) The chapter's example (genmegb.py wrote it.) What the rows of the messages' laws give a walk: the two listed variables, and a message read out of an argument. -/
import Derived.Test.YtmbonngjkgcijaaGreatDoorZMecE
import Derived.Test.YtmbonngjkgcijaaGreatDoorZMeeB
import Derived.Test.YtmbonngjkgcijaaGreatDoorRows
import Derived.Test.YtmbonngjkgcijaaGreatDoorChecked
import Derived.ProofKit
import Derived.LaidLaws
import Derived.LaidHandle
import Derived.MakeChecks
import Derived.OpenShut
import Derived.Stop.Joined
import Derived.ChangeVars
import Derived.Deep.Slices
import Derived.Handed
import Derived.LaidSub
set_option linter.unusedSimpArgs false
set_option linter.unusedVariables false
set_option linter.unnecessarySimpa false
namespace Go.Proofs.YtmbonngjkgcijaaGreatDoor
open Go.RowKit Go.Shelf

def cutK (o : OpV) : OpV := if 20 < o.s.size then ⟨o.k, o.s.extract 0 20, o.n, o.lo⟩ else o
def cutO (l : List OpV) : List OpV := (l.take 12).map cutK
theorem cutO_snoc {l : List OpV} {i : Nat} {o : OpV} (hi : i < 12) (h : l[i]? = some o) : cutO (l.take (i + 1)) = cutO (l.take i) ++ [cutK o] := by
  unfold cutO
  rw [List.take_take, List.take_take, show min 12 (i + 1) = i + 1 by omega, show min 12 i = i by omega, List.take_add_one, h]
  simp
theorem ext_size (s : ByteArray) (h : 20 < s.size) : (s.extract 0 20).size = 20 := by
  have := size_list (s.extract 0 20)
  rw [ext_toList] at this
  have h2 := size_list s
  simp only [List.drop_zero, List.length_take] at this
  omega
theorem cutK_size (o : OpV) : (cutK o).s.size ≤ 20 := by
  unfold cutK
  split
  · rename_i h
    have := ext_size o.s h
    simp only
    omega
  · omega
theorem cutO_keys (l : List OpV) : ∀ o ∈ cutO l, o.s.size ≤ 20 := fun o ho => by
  obtain ⟨x, _, rfl⟩ := List.mem_map.1 ho
  exact cutK_size x
set_option maxRecDepth 100000 in
set_option maxHeartbeats 4000000 in
theorem lcut_any {w : World} {v : Value} {l : List OpV} (h : OpsAt w v l) :
    Calls Tryz.prog 55 #[v] w fun e w' => ∃ v', e = .returned v' ∧ RowN w' w.heap.size 4 v' (cutO l).length (opC (cutO l)) ∧ Below w.heap.size w w' := by
  obtain ⟨A, cap, rfl, hc1, hc2, hcell⟩ := h.form
  unfold maxLen at hc2
  have HC := Lib.hid hcell
  obtain ⟨m, hm⟩ : ∃ m, l.length = m := ⟨_, rfl⟩
  have HM := Lib.hid hm
  rw [hm] at hc1 ⊢
  have hmb : m ≤ 9223372036854775807 := by omega
  clear hcell hm h
  go_enter Tryz.func55, Tryz.ntmps55
  go_wp2_with fail
  go_loopw [3, 8] (fun bv iv wr => ∃ i : Nat, i ≤ m ∧ i ≤ 12 ∧ iv = .int .i64 i ∧ RowN wr w.heap.size 4 bv i (opC (cutO (l.take i))) ∧ Below w.heap.size w wr) (fun _ iv _ => m - (intOf iv).toNat)
  case atStart => exact ⟨0, Nat.zero_le _, Nat.zero_le _, rfl, ⟨RowIs.nil _ _, (fun b e => by cases e), fun _ => rfl⟩, Below.refl _ _⟩
  case round =>
    obtain ⟨i, hi, hi2, rfl, hrow, hbw⟩ := hrel
    have hFIN : i = m ∨ i = 12 → cutO (l.take i) = cutO l ∧ (cutO l).length = i := fun h => by
      have e : cutO (l.take i) = cutO l := by
        unfold cutO
        rcases h with h | h
        · rw [List.take_of_length_le (i := i) (by rw [HM.out]; omega)]
        · subst h; rw [List.take_take]; rfl
      refine ⟨e, ?_⟩
      unfold cutO
      rw [List.length_map, List.length_take, HM.out]
      omega
    have HFIN := Lib.hid hFIN
    clear hFIN
    obtain ⟨Al, cl, rfl, _⟩ := hrow.1.form
    by_cases hlt : i < m
    · obtain ⟨o, hoi⟩ : ∃ o, l[i]? = some o := ⟨_, List.getElem?_eq_getElem (by rw [HM.out]; exact hlt)⟩
      obtain ⟨a, rfl, q1, k0, k1, k2, k3⟩ := HC.out i o hoi
      have hblk : (a.add (i * 4)).block < w.heap.size := by rw [add_block]; exact q1
      replace k0 := (hbw.cell hblk).trans k0
      replace k1 := (hbw.cell (p := ⟨(a.add (i * 4)).block, (a.add (i * 4)).off + 1, none⟩) hblk).trans k1
      replace k2 := (hbw.cell (p := ⟨(a.add (i * 4)).block, (a.add (i * 4)).off + 2, none⟩) hblk).trans k2
      replace k3 := (hbw.cell (p := ⟨(a.add (i * 4)).block, (a.add (i * 4)).off + 3, none⟩) hblk).trans k3
      have hiI : (i : Int) < (m : Int) := by omega
      by_cases h12 : i < 12
      · have h12I : ¬ (12 : Int) ≤ (i : Int) := by omega
        have HSN := Lib.hid (cutO_snoc h12 hoi)
        have HOI := Lib.hid (And.intro hlt h12)
        obtain ⟨kd, s, n, lo⟩ := o
        simp only at k0 k1 k2 k3
        have HROW := Lib.hid hrow
        have HB := Lib.hid hbw
        by_cases h20 : 20 < s.size
        · have h20I : (20 : Int) < (s.size : Int) := by omega
          have HSN2 : Hid (cutO (l.take (i + 1)) = cutO (l.take i) ++ [⟨kd, s.extract 0 20, n, lo⟩]) := Lib.hid (by rw [HSN.out]; unfold cutK; rw [if_pos h20])
          have hW1 := below_new (w := wr) (.cells #[.int .i64 kd, .string (s.extract 0 20), .int .i64 n, .int .i64 lo] 168)
          have hW2 := hW1.trans ((below_new (w := wr.alloc (.cells #[.int .i64 kd, .string (s.extract 0 20), .int .i64 n, .int .i64 lo] 168)) (.cells #[.int .i64 kd, .string (s.extract 0 20), .int .i64 n, .int .i64 lo] 168)).mono hW1.size)
          have hat2 := alloc_at (wr.alloc (.cells #[.int .i64 kd, .string (s.extract 0 20), .int .i64 n, .int .i64 lo] 168)) (.cells #[.int .i64 kd, .string (s.extract 0 20), .int .i64 n, .int .i64 lo] 168)
          rw [asz] at hat2
          have HSRC := Lib.hid (src_op (o := ⟨kd, s.extract 0 20, n, lo⟩) hat2)
          have HRW := Lib.hid (hrow.1.below hW2)
          have HB2 := Lib.hid (hbw.trans (hW2.mono hbw.size))
          clear hrow hbw hoi hblk q1 hlt h12 hW1 hW2 hat2 HSN h20 hi hi2
          go_wp2_with (at_builtin; refine wpList_append_row _ _ Tryz.underlying35 infoO rfl (by decide) (by decide) _ rfl _ _ 35 rfl i 1 (opC (cutO (l.take i))) [.int .i64 kd, .string (s.extract 0 20), .int .i64 n, .int .i64 lo] _ _ rfl rfl HRW.out HSRC.out ?_ ?_)
          · have := HOI.out; omega
          intro v' w' hr5 hg5 hb5
          have HNEW : Hid (RowN w' w.heap.size 4 v' (i + 1) (opC (cutO (l.take (i + 1)))) ∧ Below w.heap.size w w') := Lib.hid (by
            rw [HSN2.out]
            rw [← opC_snoc (cutO (l.take i)) ⟨kd, s.extract 0 20, n, lo⟩] at hr5
            refine ⟨RowN.grown ⟨HRW.out, HROW.out.2⟩ HB2.out.size hr5 (by rw [asz, asz]; exact hb5) (opC_first (by simp)), ?_⟩
            have ht := (Touch.refl (fun k => (Value.slice Al i cl).ownBlock = some k) _).grown hg5 (fun k e _ => e)
            exact HB2.out.trans (ht.below (fun b e => (HROW.out.2.1 b e).1) HB2.out.size))
          clear hr5 hg5 hb5 k0 k1 k2 k3
          go_wp2_with fail
          go_roundw
          case rel => exact ⟨i + 1, HOI.out.1, HOI.out.2, by go_num, HNEW.out.1, HNEW.out.2⟩
          case measure => have := HOI.out; simp [intOf]; omega
        · have h20I : ¬ (20 : Int) < (s.size : Int) := by omega
          have HSN2 : Hid (cutO (l.take (i + 1)) = cutO (l.take i) ++ [⟨kd, s, n, lo⟩]) := Lib.hid (by rw [HSN.out]; unfold cutK; rw [if_neg h20])
          have hW1 := below_new (w := wr) (.cells #[.int .i64 kd, .string s, .int .i64 n, .int .i64 lo] 168)
          have hW2 := hW1.trans ((below_new (w := wr.alloc (.cells #[.int .i64 kd, .string s, .int .i64 n, .int .i64 lo] 168)) (.cells #[.int .i64 kd, .string s, .int .i64 n, .int .i64 lo] 168)).mono hW1.size)
          have hat2 := alloc_at (wr.alloc (.cells #[.int .i64 kd, .string s, .int .i64 n, .int .i64 lo] 168)) (.cells #[.int .i64 kd, .string s, .int .i64 n, .int .i64 lo] 168)
          rw [asz] at hat2
          have HSRC := Lib.hid (src_op (o := ⟨kd, s, n, lo⟩) hat2)
          have HRW := Lib.hid (hrow.1.below hW2)
          have HB2 := Lib.hid (hbw.trans (hW2.mono hbw.size))
          clear hrow hbw hoi hblk q1 hlt h12 hW1 hW2 hat2 HSN h20 hi hi2
          go_wp2_with (at_builtin; refine wpList_append_row _ _ Tryz.underlying35 infoO rfl (by decide) (by decide) _ rfl _ _ 35 rfl i 1 (opC (cutO (l.take i))) [.int .i64 kd, .string s, .int .i64 n, .int .i64 lo] _ _ rfl rfl HRW.out HSRC.out ?_ ?_)
          · have := HOI.out; omega
          intro v' w' hr5 hg5 hb5
          have HNEW : Hid (RowN w' w.heap.size 4 v' (i + 1) (opC (cutO (l.take (i + 1)))) ∧ Below w.heap.size w w') := Lib.hid (by
            rw [HSN2.out]
            rw [← opC_snoc (cutO (l.take i)) ⟨kd, s, n, lo⟩] at hr5
            refine ⟨RowN.grown ⟨HRW.out, HROW.out.2⟩ HB2.out.size hr5 (by rw [asz, asz]; exact hb5) (opC_first (by simp)), ?_⟩
            have ht := (Touch.refl (fun k => (Value.slice Al i cl).ownBlock = some k) _).grown hg5 (fun k e _ => e)
            exact HB2.out.trans (ht.below (fun b e => (HROW.out.2.1 b e).1) HB2.out.size))
          clear hr5 hg5 hb5 k0 k1 k2 k3
          go_wp2_with fail
          go_roundw
          case rel => exact ⟨i + 1, HOI.out.1, HOI.out.2, by go_num, HNEW.out.1, HNEW.out.2⟩
          case measure => have := HOI.out; simp [intOf]; omega
      · have hi12 : (12 : Int) ≤ (i : Int) := by omega
        have HROW : Hid (RowN wr w.heap.size 4 (.slice Al i cl) (cutO l).length (opC (cutO l))) := Lib.hid (by
          obtain ⟨e1, e2⟩ := HFIN.out (.inr (by omega))
          rw [e1] at hrow
          rw [e2]
          exact hrow)
        have hW1 := hbw.trans ((below_new (w := wr) (.cells #[.int .i64 o.k, .string o.s, .int .i64 o.n, .int .i64 o.lo] 168)).mono hbw.size)
        have HRB : Hid (RowN (wr.alloc (.cells #[.int .i64 o.k, .string o.s, .int .i64 o.n, .int .i64 o.lo] 168)) w.heap.size 4 (.slice Al i cl) (cutO l).length (opC (cutO l))) := Lib.hid ⟨HROW.out.1.below (below_new _), HROW.out.2⟩
        have HB := Lib.hid hW1
        clear hrow hbw hoi hblk q1 hlt h12 hW1 hi hi2
        go_wp2_with fail
        go_ret
        exact ⟨_, rfl, HRB.out, HB.out⟩
    · obtain rfl : i = m := by omega
      have HROW : Hid (RowN wr w.heap.size 4 (.slice Al i cl) (cutO l).length (opC (cutO l))) := Lib.hid (by
        obtain ⟨e1, e2⟩ := HFIN.out (.inl rfl)
        rw [e1] at hrow
        rw [e2]
        exact hrow)
      have HB := Lib.hid hbw
      clear hrow hbw hlt hi2
      go_wp2_with fail
      go_ret
      exact ⟨_, rfl, HROW.out, HB.out⟩
end Go.Proofs.YtmbonngjkgcijaaGreatDoor

namespace Go.Proofs.YtmbonngjkgcijaaGreatDoor
open Go.RowKit Go.Shelf

/-- A message that was given: its texts may be of any length. -/
def MsgAt (w : World) (v : Value) (m : MsgV) : Prop := ∃ tA tc oA oc, v = .agg #[.int .i64 m.kd, .int .i64 m.fr, .int .i64 m.tt, .int .i64 m.g, .int .i64 m.nd, .int .i64 m.tr, .int .i64 m.lw, .int .i64 m.co, .int .i64 m.ti, .slice tA m.tl.length tc, .slice oA m.os.length oc] ∧ NumsAt w (.slice tA m.tl.length tc) m.tl ∧ OpsAt w (.slice oA m.os.length oc) m.os
theorem MsgAt.below {w w' : World} {v : Value} {m : MsgV} (h : MsgAt w v m) (hb : Below w.heap.size w w') : MsgAt w' v m := by
  obtain ⟨tA, tc, oA, oc, e, h1, h2⟩ := h
  exact ⟨tA, tc, oA, oc, e, h1.below hb, h2.below hb⟩
/-- A message's cells. -/
abbrev cellM (m : MsgV) (tA : Option Addr) (tc : Nat) (oA : Option Addr) (oc : Nat) : Array Value := #[.int .i64 m.kd, .int .i64 m.fr, .int .i64 m.tt, .int .i64 m.g, .int .i64 m.nd, .int .i64 m.tr, .int .i64 m.lw, .int .i64 m.co, .int .i64 m.ti, .slice tA m.tl.length tc, .slice oA m.os.length oc]
theorem RowN.lower {w : World} {B B' z : Nat} {v : Value} {n : Nat} {l : List Value} (h : RowN w B z v n l) (hb : B' ≤ B) : RowN w B' z v n l := ⟨h.1, fun b e => ⟨Nat.le_trans hb (h.2.1 b e).1, (h.2.1 b e).2⟩, h.2.2⟩
def cutM (m : MsgV) : MsgV := ⟨m.kd, m.fr, m.tt, m.g, m.nd, m.tr, m.lw, m.co, m.ti, m.tl.take 12, cutO m.os⟩
theorem NumsAt.take {w : World} {A : Option Addr} {n c : Nat} {l : List Int} (h : NumsAt w (.slice A n c) l) (k : Nat) (hk : k ≤ n) : NumsAt w (.slice A k c) (l.take k) := by
  obtain ⟨A', c', e, h1, h2, h3⟩ := h
  injection e with e1 e2 e3
  subst e1 e2 e3
  have hl : (l.take k).length = k := by rw [List.length_take]; omega
  refine ⟨A, c, by rw [hl], by omega, h2, fun i x hi => ?_⟩
  rw [List.getElem?_take] at hi
  split at hi
  · exact h3 i x hi
  · cases hi
theorem cut_nums {w : World} {m : MsgV} {tA : Option Addr} {tc : Nat} (h : NumsAt w (.slice tA m.tl.length tc) m.tl) : NumsAt w (.slice tA (cutM m).tl.length tc) (cutM m).tl := by
  show NumsAt w (.slice tA (m.tl.take 12).length tc) (m.tl.take 12)
  have e : m.tl.take 12 = m.tl.take (min 12 m.tl.length) := by
    rcases Nat.le_total 12 m.tl.length with h | h
    · rw [Nat.min_eq_left h]
    · rw [Nat.min_eq_right h, List.take_of_length_le h, List.take_of_length_le (Nat.le_refl _)]
  rw [List.length_take, e]
  exact h.take _ (Nat.min_le_right _ _)
set_option maxRecDepth 100000 in
set_option maxHeartbeats 8000000 in
theorem lawcut_cells {w : World} {m : MsgV} {tA oA : Option Addr} {tc oc : Nat} (ht : NumsAt w (.slice tA m.tl.length tc) m.tl) (ho : OpsAt w (.slice oA m.os.length oc) m.os) :
    Calls Tryz.prog 17 #[.agg #[.int .i64 m.kd, .int .i64 m.fr, .int .i64 m.tt, .int .i64 m.g, .int .i64 m.nd, .int .i64 m.tr, .int .i64 m.lw, .int .i64 m.co, .int .i64 m.ti, .slice tA m.tl.length tc, .slice oA m.os.length oc]] w fun e w' => ∃ oA oc, e = .returned (.agg (cellM (cutM m) tA tc oA oc)) ∧ NumsAt w (.slice tA (cutM m).tl.length tc) (cutM m).tl ∧ RowN w' w.heap.size 4 (.slice oA (cutM m).os.length oc) (cutM m).os.length (opC (cutM m).os) ∧ Below w.heap.size w w' := by
  obtain ⟨kd, fr, tt, g, nd, tr, lw, co, ti, tl, os⟩ := m
  simp only at ht ho ⊢
  have HCU := Lib.hid (fun W (hW : Below w.heap.size w W) => lcut_any (ho.below hW))
  obtain ⟨tn, htn⟩ : ∃ n, tl.length = n := ⟨_, rfl⟩
  obtain ⟨on, hon⟩ : ∃ n, os.length = n := ⟨_, rfl⟩
  have HTN := Lib.hid htn
  rw [htn] at ht ⊢
  rw [hon] at HCU ⊢
  have HFT : Hid (∃ A k, k ≤ 12 ∧ k = (tl.take 12).length ∧ NumsAt w (.slice tA k tc) (tl.take 12) ∧ A = k) := Lib.hid (by
    by_cases h : 12 < tn
    · exact ⟨12, 12, by omega, by rw [List.length_take, HTN.out]; omega, ht.take 12 (by omega), rfl⟩
    · refine ⟨tn, tn, by omega, by rw [List.length_take, HTN.out]; omega, ?_, rfl⟩
      rw [List.take_of_length_le (by rw [HTN.out]; omega)]
      exact ht)
  have hcap : tn ≤ tc := by
    obtain ⟨A', c', e, h1, _⟩ := ht
    injection e with _ _ e3
    subst e3
    rw [HTN.out] at h1
    exact h1
  clear ht ho htn hon
  by_cases h12 : 12 < tn
  · have h12I : (12 : Int) < (tn : Int) := by omega
    have hc12 : 12 ≤ tc := by omega
    have HNU : Hid (NumsAt w (.slice tA 12 tc) (tl.take 12) ∧ (tl.take 12).length = 12) := Lib.hid (by
      obtain ⟨_, k, h1, h2, h3, _⟩ := HFT.out
      have : k = 12 := by rw [h2, List.length_take, HTN.out]; omega
      subst this
      exact ⟨h3, h2.symm⟩)
    have hb1 := below_new (w := w) (.cells #[.int .i64 kd, .int .i64 fr, .int .i64 tt, .int .i64 g, .int .i64 nd, .int .i64 tr, .int .i64 lw, .int .i64 co, .int .i64 ti, .slice tA 12 tc, .slice oA on oc] 37)
    have hb2 := hb1.trans ((below_new (w := w.alloc (.cells #[.int .i64 kd, .int .i64 fr, .int .i64 tt, .int .i64 g, .int .i64 nd, .int .i64 tr, .int .i64 lw, .int .i64 co, .int .i64 ti, .slice tA 12 tc, .slice oA on oc] 37)) (.cells #[.int .i64 0, .int .i64 0, .int .i64 0, .int .i64 0, .int .i64 0, .int .i64 0, .int .i64 0, .int .i64 0, .int .i64 0, .slice none 0 0, .slice none 0 0] 37)).mono hb1.size)
    have hat1 := alloc_at w (.cells #[.int .i64 kd, .int .i64 fr, .int .i64 tt, .int .i64 g, .int .i64 nd, .int .i64 tr, .int .i64 lw, .int .i64 co, .int .i64 ti, .slice tA 12 tc, .slice oA on oc] 37)
    have hat1 := ((below_new (w := w.alloc (.cells #[.int .i64 kd, .int .i64 fr, .int .i64 tt, .int .i64 g, .int .i64 nd, .int .i64 tr, .int .i64 lw, .int .i64 co, .int .i64 ti, .slice tA 12 tc, .slice oA on oc] 37)) (.cells #[.int .i64 0, .int .i64 0, .int .i64 0, .int .i64 0, .int .i64 0, .int .i64 0, .int .i64 0, .int .i64 0, .int .i64 0, .slice none 0 0, .slice none 0 0] 37)).block w.heap.size (heap_lt hat1)).trans hat1
    have hat2 := alloc_at (w.alloc (.cells #[.int .i64 kd, .int .i64 fr, .int .i64 tt, .int .i64 g, .int .i64 nd, .int .i64 tr, .int .i64 lw, .int .i64 co, .int .i64 ti, .slice tA 12 tc, .slice oA on oc] 37)) (.cells #[.int .i64 0, .int .i64 0, .int .i64 0, .int .i64 0, .int .i64 0, .int .i64 0, .int .i64 0, .int .i64 0, .int .i64 0, .slice none 0 0, .slice none 0 0] 37)
    rw [asz] at hat2
    have HB := Lib.hid hb2
    have HA := Lib.hid (And.intro hat1 hat2)
    clear hb1 hb2 hat1 hat2 h12 HFT
    go_enter Tryz.func17, Tryz.ntmps17
    go_wp2_with fail
    refine (HCU.out _ HB.out).mono ?_
    rintro e w3 ⟨vo, rfl, hro, hb3⟩
    have HM3 := Lib.hid ((hb3.block w.heap.size (heap_lt HA.out.1)).trans HA.out.1)
    have HZ3 := Lib.hid ((hb3.block (w.heap.size + 1) (heap_lt HA.out.2)).trans HA.out.2)
    have HB3 := Lib.hid (HB.out.trans (hb3.mono HB.out.size))
    have HRO := Lib.hid hro
    have hsz : w.heap.size + 1 < w3.heap.size := heap_lt HZ3.out
    obtain ⟨Ao, co2, rfl, _⟩ := hro.1.form
    have hzM := HM3.out
    have hz := HZ3.out
    have d0 := cell_of hzM 0; have d1 := cell_of hzM 1; have d2 := cell_of hzM 2; have d3 := cell_of hzM 3; have d4 := cell_of hzM 4; have d5 := cell_of hzM 5; have d6 := cell_of hzM 6; have d7 := cell_of hzM 7; have d8 := cell_of hzM 8; have d9 := cell_of hzM 9; have d10 := cell_of hzM 10
    simp at d0 d1 d2 d3 d4 d5 d6 d7 d8 d9 d10
    have e10 := free0 hzM 10; have c0 := cell_of hz 0; have c1 := cell_of hz 1; have c2 := cell_of hz 2; have c3 := cell_of hz 3; have c4 := cell_of hz 4; have c5 := cell_of hz 5; have c6 := cell_of hz 6; have c7 := cell_of hz 7; have c8 := cell_of hz 8; have c9 := cell_of hz 9; have c10 := cell_of hz 10
    simp at c0 c1 c2 c3 c4 c5 c6 c7 c8 c9 c10
    have f0 := free0 hz 0; have f1 := free0 hz 1; have f2 := free0 hz 2; have f3 := free0 hz 3; have f4 := free0 hz 4; have f5 := free0 hz 5; have f6 := free0 hz 6; have f7 := free0 hz 7; have f8 := free0 hz 8; have f9 := free0 hz 9; have f10 := free0 hz 10
    have hzx := (Below.heap_setCell w3 ⟨w.heap.size, 10, none⟩ (.slice Ao (cutO os).length co2) (w.heap.size + 1) (by show w.heap.size + 1 ≠ w.heap.size; omega)).trans hz
    have HZ5 := Lib.hid (setCells_at (w.heap.size + 1) [.int .i64 kd, .int .i64 fr, .int .i64 tt, .int .i64 g, .int .i64 nd, .int .i64 tr, .int .i64 lw, .int .i64 co, .int .i64 ti, .slice tA 12 tc, .slice Ao (cutO os).length co2] [] [.int .i64 0, .int .i64 0, .int .i64 0, .int .i64 0, .int .i64 0, .int .i64 0, .int .i64 0, .int .i64 0, .int .i64 0, .slice none 0 0, .slice none 0 0] (w3.setCell ⟨w.heap.size, 10, none⟩ (.slice Ao (cutO os).length co2)) rfl hzx)
    have HT5 := Lib.hid (setCells_touch (S := fun k => k = w.heap.size ∨ k = w.heap.size + 1) (a := w3) (w.heap.size + 1) (fun _ => .inr rfl) [.int .i64 kd, .int .i64 fr, .int .i64 tt, .int .i64 g, .int .i64 nd, .int .i64 tr, .int .i64 lw, .int .i64 co, .int .i64 ti, .slice tA 12 tc, .slice Ao (cutO os).length co2] 0 (w3.setCell ⟨w.heap.size, 10, none⟩ (.slice Ao (cutO os).length co2)) ((Touch.refl (fun k => k = w.heap.size ∨ k = w.heap.size + 1) w3).setCell ⟨w.heap.size, 10, none⟩ (fun _ => .inl rfl) _))
    clear hz hzM hzx hro hb3 HCU
    go_wp2_with fail
    change bodyPost _ _ _ _ _ (World.setCells _ (w.heap.size + 1) 0 [.int .i64 kd, .int .i64 fr, .int .i64 tt, .int .i64 g, .int .i64 nd, .int .i64 tr, .int .i64 lw, .int .i64 co, .int .i64 ti, .slice tA 12 tc, .slice Ao (cutO os).length co2])
    simp only [List.length_nil, List.nil_append] at HZ5
    generalize World.setCells _ (w.heap.size + 1) 0 [.int .i64 kd, .int .i64 fr, .int .i64 tt, .int .i64 g, .int .i64 nd, .int .i64 tr, .int .i64 lw, .int .i64 co, .int .i64 ti, .slice tA 12 tc, .slice Ao (cutO os).length co2] = W5 at *
    clear c0 c1 c2 c3 c4 c5 c6 c7 c8 c9 c10 f0 f1 f2 f3 f4 f5 f6 f7 f8 f9 f10 d0 d1 d2 d3 d4 d5 d6 d7 d8 d9 d10 e10
    have j0 := cell_of HZ5.out 0; have j1 := cell_of HZ5.out 1; have j2 := cell_of HZ5.out 2; have j3 := cell_of HZ5.out 3; have j4 := cell_of HZ5.out 4; have j5 := cell_of HZ5.out 5; have j6 := cell_of HZ5.out 6; have j7 := cell_of HZ5.out 7; have j8 := cell_of HZ5.out 8; have j9 := cell_of HZ5.out 9; have j10 := cell_of HZ5.out 10
    simp at j0 j1 j2 j3 j4 j5 j6 j7 j8 j9 j10
    refine bodyPost_ret (v := .agg #[.int .i64 kd, .int .i64 fr, .int .i64 tt, .int .i64 g, .int .i64 nd, .int .i64 tr, .int .i64 lw, .int .i64 co, .int .i64 ti, .slice tA 12 tc, .slice Ao (cutO os).length co2]) (by simp [results, Tryz.results17, go_sem, j0, j1, j2, j3, j4, j5, j6, j7, j8, j9, j10]) rfl ?_
    have hbe := HB3.out.trans (HT5.out.below (fun i e => by omega) HB3.out.size)
    refine ⟨Ao, co2, by simp only [cutM, cellM, HNU.out.2], ?_, ?_, hbe⟩
    · show NumsAt w (.slice tA (tl.take 12).length tc) (tl.take 12)
      rw [HNU.out.2]
      exact HNU.out.1
    · exact RowN.lower (B := w.heap.size + 2) ⟨HRO.out.1.touch HT5.out (fun b e hb => by have := (HRO.out.2.1 b e).1; rw [asz, asz] at this; omega), fun b e => ⟨by have := (HRO.out.2.1 b e).1; rw [asz, asz] at this; omega, (HRO.out.2.1 b e).2⟩, HRO.out.2.2⟩ (by omega)
  · have h12I : ¬ (12 : Int) < (tn : Int) := by omega
    have HNU : Hid (NumsAt w (.slice tA tn tc) (tl.take 12) ∧ (tl.take 12).length = tn) := Lib.hid (by
      obtain ⟨_, k, h1, h2, h3, _⟩ := HFT.out
      have : k = tn := by rw [h2, List.length_take, HTN.out]; omega
      subst this
      exact ⟨h3, h2.symm⟩)
    have hb1 := below_new (w := w) (.cells #[.int .i64 kd, .int .i64 fr, .int .i64 tt, .int .i64 g, .int .i64 nd, .int .i64 tr, .int .i64 lw, .int .i64 co, .int .i64 ti, .slice tA tn tc, .slice oA on oc] 37)
    have hb2 := hb1.trans ((below_new (w := w.alloc (.cells #[.int .i64 kd, .int .i64 fr, .int .i64 tt, .int .i64 g, .int .i64 nd, .int .i64 tr, .int .i64 lw, .int .i64 co, .int .i64 ti, .slice tA tn tc, .slice oA on oc] 37)) (.cells #[.int .i64 0, .int .i64 0, .int .i64 0, .int .i64 0, .int .i64 0, .int .i64 0, .int .i64 0, .int .i64 0, .int .i64 0, .slice none 0 0, .slice none 0 0] 37)).mono hb1.size)
    have hat1 := alloc_at w (.cells #[.int .i64 kd, .int .i64 fr, .int .i64 tt, .int .i64 g, .int .i64 nd, .int .i64 tr, .int .i64 lw, .int .i64 co, .int .i64 ti, .slice tA tn tc, .slice oA on oc] 37)
    have hat1 := ((below_new (w := w.alloc (.cells #[.int .i64 kd, .int .i64 fr, .int .i64 tt, .int .i64 g, .int .i64 nd, .int .i64 tr, .int .i64 lw, .int .i64 co, .int .i64 ti, .slice tA tn tc, .slice oA on oc] 37)) (.cells #[.int .i64 0, .int .i64 0, .int .i64 0, .int .i64 0, .int .i64 0, .int .i64 0, .int .i64 0, .int .i64 0, .int .i64 0, .slice none 0 0, .slice none 0 0] 37)).block w.heap.size (heap_lt hat1)).trans hat1
    have hat2 := alloc_at (w.alloc (.cells #[.int .i64 kd, .int .i64 fr, .int .i64 tt, .int .i64 g, .int .i64 nd, .int .i64 tr, .int .i64 lw, .int .i64 co, .int .i64 ti, .slice tA tn tc, .slice oA on oc] 37)) (.cells #[.int .i64 0, .int .i64 0, .int .i64 0, .int .i64 0, .int .i64 0, .int .i64 0, .int .i64 0, .int .i64 0, .int .i64 0, .slice none 0 0, .slice none 0 0] 37)
    rw [asz] at hat2
    have HB := Lib.hid hb2
    have HA := Lib.hid (And.intro hat1 hat2)
    clear hb1 hb2 hat1 hat2 h12 HFT
    go_enter Tryz.func17, Tryz.ntmps17
    go_wp2_with fail
    refine (HCU.out _ HB.out).mono ?_
    rintro e w3 ⟨vo, rfl, hro, hb3⟩
    have HM3 := Lib.hid ((hb3.block w.heap.size (heap_lt HA.out.1)).trans HA.out.1)
    have HZ3 := Lib.hid ((hb3.block (w.heap.size + 1) (heap_lt HA.out.2)).trans HA.out.2)
    have HB3 := Lib.hid (HB.out.trans (hb3.mono HB.out.size))
    have HRO := Lib.hid hro
    have hsz : w.heap.size + 1 < w3.heap.size := heap_lt HZ3.out
    obtain ⟨Ao, co2, rfl, _⟩ := hro.1.form
    have hzM := HM3.out
    have hz := HZ3.out
    have d0 := cell_of hzM 0; have d1 := cell_of hzM 1; have d2 := cell_of hzM 2; have d3 := cell_of hzM 3; have d4 := cell_of hzM 4; have d5 := cell_of hzM 5; have d6 := cell_of hzM 6; have d7 := cell_of hzM 7; have d8 := cell_of hzM 8; have d9 := cell_of hzM 9; have d10 := cell_of hzM 10
    simp at d0 d1 d2 d3 d4 d5 d6 d7 d8 d9 d10
    have e10 := free0 hzM 10; have c0 := cell_of hz 0; have c1 := cell_of hz 1; have c2 := cell_of hz 2; have c3 := cell_of hz 3; have c4 := cell_of hz 4; have c5 := cell_of hz 5; have c6 := cell_of hz 6; have c7 := cell_of hz 7; have c8 := cell_of hz 8; have c9 := cell_of hz 9; have c10 := cell_of hz 10
    simp at c0 c1 c2 c3 c4 c5 c6 c7 c8 c9 c10
    have f0 := free0 hz 0; have f1 := free0 hz 1; have f2 := free0 hz 2; have f3 := free0 hz 3; have f4 := free0 hz 4; have f5 := free0 hz 5; have f6 := free0 hz 6; have f7 := free0 hz 7; have f8 := free0 hz 8; have f9 := free0 hz 9; have f10 := free0 hz 10
    have hzx := (Below.heap_setCell w3 ⟨w.heap.size, 10, none⟩ (.slice Ao (cutO os).length co2) (w.heap.size + 1) (by show w.heap.size + 1 ≠ w.heap.size; omega)).trans hz
    have HZ5 := Lib.hid (setCells_at (w.heap.size + 1) [.int .i64 kd, .int .i64 fr, .int .i64 tt, .int .i64 g, .int .i64 nd, .int .i64 tr, .int .i64 lw, .int .i64 co, .int .i64 ti, .slice tA tn tc, .slice Ao (cutO os).length co2] [] [.int .i64 0, .int .i64 0, .int .i64 0, .int .i64 0, .int .i64 0, .int .i64 0, .int .i64 0, .int .i64 0, .int .i64 0, .slice none 0 0, .slice none 0 0] (w3.setCell ⟨w.heap.size, 10, none⟩ (.slice Ao (cutO os).length co2)) rfl hzx)
    have HT5 := Lib.hid (setCells_touch (S := fun k => k = w.heap.size ∨ k = w.heap.size + 1) (a := w3) (w.heap.size + 1) (fun _ => .inr rfl) [.int .i64 kd, .int .i64 fr, .int .i64 tt, .int .i64 g, .int .i64 nd, .int .i64 tr, .int .i64 lw, .int .i64 co, .int .i64 ti, .slice tA tn tc, .slice Ao (cutO os).length co2] 0 (w3.setCell ⟨w.heap.size, 10, none⟩ (.slice Ao (cutO os).length co2)) ((Touch.refl (fun k => k = w.heap.size ∨ k = w.heap.size + 1) w3).setCell ⟨w.heap.size, 10, none⟩ (fun _ => .inl rfl) _))
    clear hz hzM hzx hro hb3 HCU
    go_wp2_with fail
    change bodyPost _ _ _ _ _ (World.setCells _ (w.heap.size + 1) 0 [.int .i64 kd, .int .i64 fr, .int .i64 tt, .int .i64 g, .int .i64 nd, .int .i64 tr, .int .i64 lw, .int .i64 co, .int .i64 ti, .slice tA tn tc, .slice Ao (cutO os).length co2])
    simp only [List.length_nil, List.nil_append] at HZ5
    generalize World.setCells _ (w.heap.size + 1) 0 [.int .i64 kd, .int .i64 fr, .int .i64 tt, .int .i64 g, .int .i64 nd, .int .i64 tr, .int .i64 lw, .int .i64 co, .int .i64 ti, .slice tA tn tc, .slice Ao (cutO os).length co2] = W5 at *
    clear c0 c1 c2 c3 c4 c5 c6 c7 c8 c9 c10 f0 f1 f2 f3 f4 f5 f6 f7 f8 f9 f10 d0 d1 d2 d3 d4 d5 d6 d7 d8 d9 d10 e10
    have j0 := cell_of HZ5.out 0; have j1 := cell_of HZ5.out 1; have j2 := cell_of HZ5.out 2; have j3 := cell_of HZ5.out 3; have j4 := cell_of HZ5.out 4; have j5 := cell_of HZ5.out 5; have j6 := cell_of HZ5.out 6; have j7 := cell_of HZ5.out 7; have j8 := cell_of HZ5.out 8; have j9 := cell_of HZ5.out 9; have j10 := cell_of HZ5.out 10
    simp at j0 j1 j2 j3 j4 j5 j6 j7 j8 j9 j10
    refine bodyPost_ret (v := .agg #[.int .i64 kd, .int .i64 fr, .int .i64 tt, .int .i64 g, .int .i64 nd, .int .i64 tr, .int .i64 lw, .int .i64 co, .int .i64 ti, .slice tA tn tc, .slice Ao (cutO os).length co2]) (by simp [results, Tryz.results17, go_sem, j0, j1, j2, j3, j4, j5, j6, j7, j8, j9, j10]) rfl ?_
    have hbe := HB3.out.trans (HT5.out.below (fun i e => by omega) HB3.out.size)
    refine ⟨Ao, co2, by simp only [cutM, cellM, HNU.out.2], ?_, ?_, hbe⟩
    · show NumsAt w (.slice tA (tl.take 12).length tc) (tl.take 12)
      rw [HNU.out.2]
      exact HNU.out.1
    · exact RowN.lower (B := w.heap.size + 2) ⟨HRO.out.1.touch HT5.out (fun b e hb => by have := (HRO.out.2.1 b e).1; rw [asz, asz] at this; omega), fun b e => ⟨by have := (HRO.out.2.1 b e).1; rw [asz, asz] at this; omega, (HRO.out.2.1 b e).2⟩, HRO.out.2.2⟩ (by omega)
set_option maxRecDepth 100000 in
set_option maxHeartbeats 4000000 in
theorem ours_any {w : World} {v : Value} {m : MsgV} (h : MsgIs w v m) :
    Calls Tryz.prog 19 #[v] w fun e w' => e = .returned v ∧ Below w.heap.size w w' := by
  obtain ⟨tA, tc, oA, oc, rfl, _⟩ := h
  obtain ⟨kd, fr, tt, g, nd, tr, lw, co, ti, tl, os⟩ := m
  simp only
  go_enter Tryz.func19, Tryz.ntmps19
  go_wp2_with fail
  refine bodyPost_ret (v := .agg #[.int .i64 kd, .int .i64 fr, .int .i64 tt, .int .i64 g, .int .i64 nd, .int .i64 tr, .int .i64 lw, .int .i64 co, .int .i64 ti, .slice tA tl.length tc, .slice oA os.length oc]) (by simp [results, Tryz.results19, go_sem]) rfl ⟨rfl, ?_⟩
  exact (((Below.refl _ _).alloc (Nat.le_refl _) _).alloc (by simp) _)
set_option maxRecDepth 100000 in
set_option maxHeartbeats 4000000 in
theorem plain_m {w : World} {v : Value} {m : MsgV} (h : MsgIs w v m) :
    Calls Tryz.prog 24 #[v] w fun e w' => e = .returned v ∧ Below w.heap.size w w' := by
  obtain ⟨tA, tc, oA, oc, rfl, _⟩ := h
  obtain ⟨kd, fr, tt, g, nd, tr, lw, co, ti, tl, os⟩ := m
  simp only
  go_enter Tryz.func24, Tryz.ntmps24
  go_wp2_with fail
  refine bodyPost_ret (v := .agg #[.int .i64 kd, .int .i64 fr, .int .i64 tt, .int .i64 g, .int .i64 nd, .int .i64 tr, .int .i64 lw, .int .i64 co, .int .i64 ti, .slice tA tl.length tc, .slice oA os.length oc]) (by simp [results, Tryz.results24, go_sem]) rfl ⟨rfl, ?_⟩
  exact (((Below.refl _ _).alloc (Nat.le_refl _) _).alloc (by simp) _)
end Go.Proofs.YtmbonngjkgcijaaGreatDoor

namespace Go.Proofs.YtmbonngjkgcijaaGreatDoor
open Go.RowKit Go.Shelf

end Go.Proofs.YtmbonngjkgcijaaGreatDoor

namespace Go.Proofs.YtmbonngjkgcijaaGreatDoor
open Go.ChangeShapes Go.WideShapes Go.RowKit Go.Deep

theorem Tryz.own : ownKnob Tryz.prog.godebug = none := by kernel_rfl
theorem Tryz.laidOut : laidOutB Tryz.prog = true := by kernel_rfl
theorem gvarE : Tryz.prog.globalNamed "errors.errorType" = some 1 := by kernel_rfl
theorem rtypE : (Tryz.prog.cutTypes.find? (·.1 == "internal/reflectlite.rtype")).map (·.2) = some 271 := by kernel_rfl
theorem nTypesE : Tryz.prog.types.size = 315 := by kernel_rfl
theorem oneRowE : ((List.range 315).filter fun t => Tryz.prog.rowNamed t [101, 114, 114, 111, 114]) = [94] := by kernel_rfl
def laidE : List (String × DataW Unit) := [("errors.errorType", Rows.laid_errors_errorType)]
/-- What the listed variable gives a walk: the variable's one cell. -/
theorem glob_of_laid {W : World} (h : laidMetH Tryz.prog laidE W) : Glob W := by
  have h' : laidMet Tryz.prog [] W ∧ handlesMet Tryz.prog laidE W := h
  obtain ⟨name, u, ty, e1, e2, e3, e4, e5⟩ := h'.2 _ (List.mem_singleton.2 rfl)
  have en : name = [101, 114, 114, 111, 114] := (Option.some.inj e1).symm
  subst en
  obtain rfl := Option.some.inj (rtypE.symm.trans e2)
  have hm : ty ∈ (List.range 315).filter fun t => Tryz.prog.rowNamed t [101, 114, 114, 111, 114] := List.mem_filter.2 ⟨List.mem_range.2 (by rw [← nTypesE]; exact e3), e4⟩
  rw [oneRowE] at hm
  obtain rfl := List.mem_singleton.1 hm
  have hh : typeHandle Tryz.prog 94 = .pointer (some ⟨2, 94, none⟩) := by kernel_rfl
  rw [hh] at e5
  exact by simpa [Glob] using World.var?_cell gvarE e5 0
/-- A world that meets the condition. -/
noncomputable def laidWorldE (os : Os) : World :=
  let w0 := World.holding Tryz.prog os ⟨#[], #[], []⟩
  { w0 with heap := w0.heap.modify 1 fun
      | .cells _ t frozen => .cells #[.iface 271 (.agg #[.pointer (some ⟨2, 94, none⟩)])] t frozen
      | o => o }
section
variable {H : Type} {enc : TypeId × Value → H}
theorem list_of {α : Type} {n : Nat} {P : Nat → α → Prop} (h : ∀ i, i < n → ∃ x, P i x) : ∃ ls : List α, ls.length = n ∧ ∀ i x, ls[i]? = some x → P i x := by
  induction n with
  | zero => exact ⟨[], rfl, fun i x hx => by simp at hx⟩
  | succ n ih =>
    obtain ⟨ls, hl, hp⟩ := ih (fun i hi => h i (by omega))
    obtain ⟨x, hx⟩ := h n (by omega)
    refine ⟨ls ++ [x], by simp [hl], fun i y hy => ?_⟩
    by_cases hi : i < ls.length
    · rw [List.getElem?_append_left hi] at hy; exact hp i y hy
    · rw [List.getElem?_append_right (by omega)] at hy
      have h0 : i - ls.length = 0 := by
        rcases Nat.eq_zero_or_pos (i - ls.length) with h | h
        · exact h
        · rw [List.getElem?_eq_none (by simp; omega)] at hy; cases hy
      rw [h0] at hy
      have : x = y := by simpa using hy
      subst this
      have : i = n := by omega
      subst this
      exact hx
set_option maxRecDepth 100000 in
theorem row_mem {a : Addr} {n : Nat} (h : 0 < n) : ∃ x ∈ MemPlace.row a n, x.block = a.block := by
  cases n with
  | zero => omega
  | succ n =>
    refine ⟨(MemPlace.row a (n + 1)).head (by simp [MemPlace.row]), List.head_mem _, ?_⟩
    simp [MemPlace.row, MemPlace.block]
theorem bnd_i64 {n : Int} (h : (Lit.int .i64 n).wf = true) : -9223372036854775808 ≤ n ∧ n ≤ 9223372036854775807 := by
  simp [Lit.wf] at h
  have e1 : IntKind.i64.min = -9223372036854775808 := by decide
  rw [e1] at h
  exact h
theorem cells_i : Tryz.prog.cellsOf 3 = 1 := by kernel_rfl
theorem cells_l : Tryz.prog.cellsOf 2 = 1 := by kernel_rfl
theorem cells_e : Tryz.prog.cellsOf 24 = 1 := by kernel_rfl
theorem cells_s : Tryz.prog.cellsOf 9 = 1 := by kernel_rfl
theorem cells_nt : Tryz.prog.cellsOf 34 = 1 := by kernel_rfl
theorem cells_ot : Tryz.prog.cellsOf 35 = 1 := by kernel_rfl
theorem cells_op : Tryz.prog.cellsOf 168 = 4 := by kernel_rfl
set_option maxRecDepth 100000 in
/-- A slice of numbers that was read. -/
theorem nums_trod {W : World} {x : Value} {fuel : Nat} {y : DataW H × List MemPlace} (hf : DataW.trod enc Tryz.prog W 0 (fun _ => true) true fuel 34 [x] = some y)
    (hlt : ∀ p ∈ y.2, p.block < W.heap.size) : ∃ l tA tc, x = .slice tA l.length tc ∧ NumsAt W (.slice tA l.length tc) l ∧ ∀ z ∈ l, -9223372036854775808 ≤ z ∧ z ≤ 9223372036854775807 := by
  rcases open_slice1 Tryz.underlying34 cells_l hf with ⟨h0, _⟩ | ⟨a, len, cap, m, n, V, D, Pl, hcs, hb, hl, hm, hmm, hx, hi⟩
  · simp at h0
    subst h0
    exact ⟨[], none, 0, rfl, NumsAt.nil _, fun z hz => by cases hz⟩
  · simp at hcs
    subst hcs
    simp at hmm
    subst hmm
    have each : ∀ i, i < len → ∃ z : Int, W.cell? (a.add i) = some (.int .i64 z) ∧ -9223372036854775808 ≤ z ∧ z ≤ 9223372036854775807 := by
      intro i hil
      obtain ⟨hc, ht⟩ := hi i (by omega)
      obtain ⟨z, e, _, hw⟩ := DataW.trod_int Tryz.underlying2 ht
      simp at e
      exact ⟨z, by rw [hc, e], bnd_i64 hw⟩
    obtain ⟨l, hlen, hls⟩ := list_of each
    subst hlen
    refine ⟨l, some a, m, rfl, ⟨some a, m, rfl, hl, hm, fun i b hib => ⟨a, rfl, ?_, (hls i b hib).1⟩⟩, fun z hz => by
      obtain ⟨i, hi⟩ := List.getElem?_of_mem hz
      exact (hls i z hi).2⟩
    have hlen0 : 0 < l.length := Nat.lt_of_le_of_lt (Nat.zero_le _) (List.getElem?_eq_some_iff.1 hib).1
    obtain ⟨p, hp1, hp2⟩ := row_mem (a := a) (n := m) (by omega)
    rw [← hp2]
    refine hlt p ?_
    have : y.2 = MemPlace.row a m ++ (List.range m).flatMap Pl := congrArg Prod.snd hx
    rw [this]
    exact List.mem_append.2 (.inl hp1)
set_option maxRecDepth 100000 in
/-- A slice of operations that was read. -/
theorem ops_trod {W : World} {x : Value} {fuel : Nat} {y : DataW H × List MemPlace} (hf : DataW.trod enc Tryz.prog W 0 (fun _ => true) true fuel 35 [x] = some y)
    (hlt : ∀ p ∈ y.2, p.block < W.heap.size) : ∃ l oA oc, x = .slice oA l.length oc ∧ OpsAt W (.slice oA l.length oc) l ∧ ∀ o ∈ l, OpIn o := by
  rcases open_slice Tryz.underlying35 hf with ⟨h0, _⟩ | ⟨a, len, cap, m, n, D, Pl, hcs, hb, hl, hm, hmm, hx, hi⟩
  · simp at h0
    subst h0
    exact ⟨[], none, 0, rfl, OpsAt.nil _, fun z hz => by cases hz⟩
  · simp at hcs
    subst hcs
    simp at hmm
    subst hmm
    have hps : y.2 = MemPlace.row a (m * Tryz.prog.cellsOf 168) ++ (List.range m).flatMap Pl := congrArg Prod.snd hx
    rw [cells_op] at hps
    have each : ∀ i, i < len → ∃ o : OpV, OpIn o ∧ W.cell? (a.add (i * 4)) = some (.int .i64 o.k) ∧ W.cell? ⟨(a.add (i * 4)).block, (a.add (i * 4)).off + 1, none⟩ = some (.string o.s) ∧ W.cell? ⟨(a.add (i * 4)).block, (a.add (i * 4)).off + 2, none⟩ = some (.int .i64 o.n) ∧ W.cell? ⟨(a.add (i * 4)).block, (a.add (i * 4)).off + 3, none⟩ = some (.int .i64 o.lo) := by
      intro i hil
      obtain ⟨cs, hc, ht⟩ := hi i (by omega)
      rw [cells_op] at hc
      obtain ⟨_, hlen, hcell⟩ := World.cells?_some hc
      obtain ⟨xs, k, _, ex, _, hxs, hel⟩ := DataW.trod_struct Tryz.underlying168 ht
      match cs, hlen with
      | [c0, c1, c2, c3], _ =>
        match xs, hxs with
        | [y0, y1, y2, y3], _ =>
          have t0 := hel 0 _ rfl
          have t1 := hel 1 _ rfl
          have t2 := hel 2 _ rfl
          have t3 := hel 3 _ rfl
          simp [cells_i, cells_l, cells_s] at t0 t1 t2 t3
          obtain ⟨z0, e0, _, w0⟩ := DataW.trod_int Tryz.underlying3 t0
          obtain ⟨s1, e1, _⟩ := DataW.trod_string Tryz.underlying9 t1
          obtain ⟨z2, e2, _, w2⟩ := DataW.trod_int Tryz.underlying2 t2
          obtain ⟨z3, e3, _, w3⟩ := DataW.trod_int Tryz.underlying2 t3
          simp at e0 e1 e2 e3
          subst e0 e1 e2 e3
          have k0 := hcell 0 (by omega)
          have k1 := hcell 1 (by omega)
          have k2 := hcell 2 (by omega)
          have k3 := hcell 3 (by omega)
          have e : (a.add (i * 4)).add 0 = a.add (i * 4) := by simp [Addr.add]
          refine ⟨⟨z0, s1, z2, z3⟩, ⟨bnd_i64 w0, bnd_i64 w2, bnd_i64 w3⟩, ?_, k1, k2, k3⟩
          rw [← e]
          exact k0
    obtain ⟨l, hlen, hls⟩ := list_of each
    subst hlen
    refine ⟨l, some a, m, rfl, ⟨some a, m, rfl, hl, hm, fun i o hio => ⟨a, rfl, ?_, (hls i o hio).2⟩⟩, fun o ho => by
      obtain ⟨i, hi⟩ := List.getElem?_of_mem ho
      exact (hls i o hi).1⟩
    have hlen0 : 0 < l.length := Nat.lt_of_le_of_lt (Nat.zero_le _) (List.getElem?_eq_some_iff.1 hio).1
    obtain ⟨p, hp1, hp2⟩ := row_mem (a := a) (n := m * 4) (by omega)
    rw [← hp2]
    exact hlt p (by rw [hps]; exact List.mem_append.2 (.inl hp1))
end

def laidC : List (String × DataW Unit) := [("byroad/crc.moved", Rows.laid_byroad_crc_moved)]
theorem gmoved : Tryz.prog.globalNamed "byroad/crc.moved" = some 0 := by kernel_rfl
set_option maxRecDepth 100000 in
set_option maxHeartbeats 4000000 in
/-- The listed table's sixteen cells. -/
theorem moved_of_laid {W : World} (h : laidMetH Tryz.prog laidC W) : W.var? Tryz.prog "byroad/crc.moved" = some #[.int .u32 0, .int .u32 274646895, .int .u32 549293790, .int .u32 820201905, .int .u32 1098587580, .int .u32 1361435347, .int .u32 1640403810, .int .u32 1905808397, .int .u32 2197175160, .int .u32 2460548119, .int .u32 2722870694, .int .u32 2987750089, .int .u32 3280807620, .int .u32 3553878443, .int .u32 3811616794, .int .u32 4084100981] := by
  rw [MakeChecks.laidMetH_plain _ _ _ (by kernel_rfl)] at h
  obtain ⟨ps, ⟨g, t, cs, fuel, p, q, hg, ht, hv, hd, _, _⟩, _, _⟩ := h
  obtain rfl := Option.some.inj (gmoved.symm.trans hg)
  obtain rfl := Option.some.inj ((show (Tryz.prog.globals[0]?).map (·.type) = some 242 by kernel_rfl).symm.trans ht)
  have c24 : Tryz.prog.cellsOf 222 = 1 := by kernel_rfl
  have c58 : Tryz.prog.cellsOf 242 = 16 := by kernel_rfl
  obtain ⟨xs, m, _, ex, hlen, hl, hel⟩ := DataW.trod_array Tryz.underlying242 hd
  rw [c58] at hlen
  rw [c24] at hel
  obtain ⟨l⟩ := cs
  match l, hlen with
  | [a0, a1, a2, a3, a4, a5, a6, a7, a8, a9, a10, a11, a12, a13, a14, a15], _ =>
    match xs, hl with
    | [x0, x1, x2, x3, x4, x5, x6, x7, x8, x9, x10, x11, x12, x13, x14, x15], _ =>
      have e3 := (DataW.agg.inj (Prod.mk.inj ex).1)
      simp only [List.map_cons, List.map_nil, List.cons.injEq, and_true] at e3
      have k0 := hel 0 (by omega); have k1 := hel 1 (by omega); have k2 := hel 2 (by omega); have k3 := hel 3 (by omega); have k4 := hel 4 (by omega); have k5 := hel 5 (by omega); have k6 := hel 6 (by omega); have k7 := hel 7 (by omega); have k8 := hel 8 (by omega); have k9 := hel 9 (by omega); have k10 := hel 10 (by omega); have k11 := hel 11 (by omega); have k12 := hel 12 (by omega); have k13 := hel 13 (by omega); have k14 := hel 14 (by omega); have k15 := hel 15 (by omega)
      clear hel ex
      obtain ⟨z0, b0, c0, _⟩ := DataW.trod_int Tryz.underlying222 k0
      obtain ⟨z1, b1, c1, _⟩ := DataW.trod_int Tryz.underlying222 k1
      obtain ⟨z2, b2, c2, _⟩ := DataW.trod_int Tryz.underlying222 k2
      obtain ⟨z3, b3, c3, _⟩ := DataW.trod_int Tryz.underlying222 k3
      obtain ⟨z4, b4, c4, _⟩ := DataW.trod_int Tryz.underlying222 k4
      obtain ⟨z5, b5, c5, _⟩ := DataW.trod_int Tryz.underlying222 k5
      obtain ⟨z6, b6, c6, _⟩ := DataW.trod_int Tryz.underlying222 k6
      obtain ⟨z7, b7, c7, _⟩ := DataW.trod_int Tryz.underlying222 k7
      obtain ⟨z8, b8, c8, _⟩ := DataW.trod_int Tryz.underlying222 k8
      obtain ⟨z9, b9, c9, _⟩ := DataW.trod_int Tryz.underlying222 k9
      obtain ⟨z10, b10, c10, _⟩ := DataW.trod_int Tryz.underlying222 k10
      obtain ⟨z11, b11, c11, _⟩ := DataW.trod_int Tryz.underlying222 k11
      obtain ⟨z12, b12, c12, _⟩ := DataW.trod_int Tryz.underlying222 k12
      obtain ⟨z13, b13, c13, _⟩ := DataW.trod_int Tryz.underlying222 k13
      obtain ⟨z14, b14, c14, _⟩ := DataW.trod_int Tryz.underlying222 k14
      obtain ⟨z15, b15, c15, _⟩ := DataW.trod_int Tryz.underlying222 k15
      rw [hv]
      simp_all
theorem mov_of_laid {W : World} (h : laidMetH Tryz.prog laidC W) : Mov W := by
  intro r t ht
  have hc := World.var?_cell gmoved (moved_of_laid h) r
  rw [hc]
  have e : (#[.int .u32 0, .int .u32 274646895, .int .u32 549293790, .int .u32 820201905, .int .u32 1098587580, .int .u32 1361435347, .int .u32 1640403810, .int .u32 1905808397, .int .u32 2197175160, .int .u32 2460548119, .int .u32 2722870694, .int .u32 2987750089, .int .u32 3280807620, .int .u32 3553878443, .int .u32 3811616794, .int .u32 4084100981] : Array Value) = (tab.map fun (t : Nat) => Value.int .u32 (t : Int)).toArray := rfl
  rw [e]
  simp [ht]

def laidJ : List (String × DataW Unit) := [("errors.errorType", Rows.laid_errors_errorType), ("byroad/crc.moved", Rows.laid_byroad_crc_moved)]
theorem glob_of_laidJ {W : World} (h : laidMetH Tryz.prog laidJ W) : Glob W := glob_of_laid (laidMetH.filter (l := laidJ) (fun x => x.1 == "errors.errorType") h)
theorem mov_of_laidJ {W : World} (h : laidMetH Tryz.prog laidJ W) : Mov W := mov_of_laid (laidMetH.filter (l := laidJ) (fun x => x.1 == "byroad/crc.moved") h)
/-- A world that meets the condition. -/
noncomputable def laidWorldJ (os : Os) : World :=
  let w0 := World.holding Tryz.prog os ⟨#[], #[], []⟩
  { w0 with heap := (w0.heap.modify 1 fun
      | .cells _ t frozen => .cells #[.iface 271 (.agg #[.pointer (some ⟨2, 94, none⟩)])] t frozen
      | o => o).modify 0 fun
      | .cells _ t frozen => .cells #[.int .u32 0, .int .u32 274646895, .int .u32 549293790, .int .u32 820201905, .int .u32 1098587580, .int .u32 1361435347, .int .u32 1640403810, .int .u32 1905808397, .int .u32 2197175160, .int .u32 2460548119, .int .u32 2722870694, .int .u32 2987750089, .int .u32 3280807620, .int .u32 3553878443, .int .u32 3811616794, .int .u32 4084100981] t frozen
      | o => o }
theorem laidWorldJ_met (os : Os) (args : Array Value) : laidMetH Tryz.prog laidJ ((laidWorldJ os).forCall (fun _ _ => 0) ⟨#[], args, []⟩).memory :=
  laidMetH_of_parts (laidMet_of_run' 8 (by kernel_rfl) (by kernel_rfl)) (by kernel_rfl)
end Go.Proofs.YtmbonngjkgcijaaGreatDoor
