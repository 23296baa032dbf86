/- lock: a table in memory as the calls leave it; New; the chapter's example. -/
import Derived.Test.YtmchmlkbpocboaaGreatDoorZLkcA
import Derived.Test.YtmchmlkbpocboaaGreatDoorZLokV
set_option linter.unusedSimpArgs false
set_option linter.unusedVariables false
set_option linter.unnecessarySimpa false
namespace Go.Proofs.YtmchmlkbpocboaaGreatDoor
open Go.RowKit
open Go.Maps (Keyed)

def FewT (n : Nat) (T : Tb) : Prop := T.lanes.length ≤ n ∧ T.waits.length ≤ n ∧ ∀ e ∈ T.lanes, e.2.held.length + e.2.row.length ≤ n
theorem few_of {n : Nat} {L : List Le} {WT : List Wt} (h : FewT n (tbOf L WT)) : Few n L WT := by
  obtain ⟨h1, h2, h3⟩ := h
  unfold tbOf at h1 h3
  exact ⟨by simpa using h1, h2, fun e he => h3 (e.key, e.l) (List.mem_map.2 ⟨e, he, rfl⟩)⟩
/-- A table whose blocks lie at or behind B. -/
structure Have (B : Nat) (W : World) (tb gl gw : Nat) (ro : Nat → Nat) (T : Tb) : Prop where
  at_ : ∃ L WT, TbAt W tb gl gw L WT ro ∧ tbOf L WT = T
  low : ∀ k, ro k ≠ 0 → B ≤ k
  glob : Glob W
  gb : 0 < B
section
variable {B tb gl gw : Nat} {W W' : World} {ro ro' : Nat → Nat} {T T' : Tb}
theorem Have.big (h : Have B W tb gl gw ro T) : B ≤ W.heap.size := by
  obtain ⟨L, WT, h1, _⟩ := h.at_
  have := heap_lt h1.head
  have := h.low tb (by rw [h1.rt]; decide)
  omega
theorem Have.below (h : Have B W tb gl gw ro T) (hb : Below W.heap.size W W') : Have B W' tb gl gw ro T := by
  obtain ⟨L, WT, h1, h2⟩ := h.at_
  exact ⟨⟨L, WT, h1.below hb, h2⟩, h.low, h.glob.below hb, h.gb⟩
theorem Have.to (h : Have B W tb gl gw ro T) (ht : TbTo W tb gl gw ro T' W') : ∃ ro', Have B W' tb gl gw ro' T' ∧ TStep W W' ro ro' ∧ Below B W W' := by
  obtain ⟨L, WT, ro', h1, h2, h3⟩ := ht
  have hlow : ∀ k, ro' k ≠ 0 → B ≤ k := fun k hk => by
    by_cases e : k < W.heap.size
    · rw [h3.old k e] at hk
      exact h.low k hk
    · have := h.big; omega
  refine ⟨ro', ⟨⟨L, WT, h1, h2⟩, hlow, h.glob.touch h3.touch (fun e => ?_), h.gb⟩, h3, h3.touch.below h.low h.big⟩
  have := h.low _ e
  have := h.gb
  omega
theorem ask_h (h : Have B W tb gl gw ro T) (hf : FewT 10000 T) (who : Int) (k : KeyT) (mine : Bool) (hw : InR64 who) (hk : k.length ≤ 1000) : Calls Tryz.prog 22 #[.pointer (some ⟨tb, 0, none⟩), .int .i64 who, strV k, .bool mine] W fun e w' => e = .returned (.int .i64 (askP T who k mine).1) ∧ ∃ ro', Have B w' tb gl gw ro' (askP T who k mine).2 ∧ TStep W w' ro ro' ∧ Below B W w' := by
  obtain ⟨L, WT, h1, rfl⟩ := id h.at_
  have hg : ro 0 = 0 := by
    by_cases e : ro 0 = 0
    · exact e
    · have := h.low _ e; have := h.gb; omega
  refine (Ask_any h1 h.glob hg (few_of hf) who k mine hw hk).mono ?_
  rintro e w' ⟨rfl, h2⟩
  exact ⟨rfl, h.to h2⟩
theorem release_h (h : Have B W tb gl gw ro T) (hf : FewT 1000 T) (who : Int) (hw : InR64 who) : Calls Tryz.prog 21 #[.pointer (some ⟨tb, 0, none⟩), .int .i64 who] W fun e w' => ∃ ks A c, KeysOf T who ks ∧ e = .returned (.slice A (relP T who ks).2.length c) ∧ RowIs w' 1 (.slice A (relP T who ks).2.length c) (relP T who ks).2.length (ints (sortedI (relP T who ks).2)) ∧ (∀ g, (Value.slice A (relP T who ks).2.length c).ownBlock = some g → W.heap.size ≤ g) ∧ ∃ ro', Have B w' tb gl gw ro' (relP T who ks).1 ∧ TStep W w' ro ro' ∧ Below B W w' := by
  obtain ⟨L, WT, h1, rfl⟩ := id h.at_
  refine (Release_any h1 (few_of hf) who hw).mono ?_
  rintro e w' ⟨ks, A, c, a1, a2, a3, a4, a5⟩
  exact ⟨ks, A, c, a1, a2, a3, a4, h.to a5⟩
theorem holds_h (h : Have B W tb gl gw ro T) (hf : FewT 10000 T) (who : Int) (hw : InR64 who) : Calls Tryz.prog 16 #[.pointer (some ⟨tb, 0, none⟩), .int .i64 who] W (HoldsQ W T who) := by
  obtain ⟨L, WT, h1, rfl⟩ := id h.at_
  exact Holds_any h1 (few_of hf) who hw
theorem waits_h (h : Have B W tb gl gw ro T) (who : Int) (hw : InR64 who) : Calls Tryz.prog 17 #[.pointer (some ⟨tb, 0, none⟩), .int .i64 who] W fun e w' => e = .returned (waitV (waitP T who)) ∧ Below W.heap.size W w' := by
  obtain ⟨L, WT, h1, rfl⟩ := id h.at_
  exact Waits_any h1 who hw
theorem edges_h (h : Have B W tb gl gw ro T) (hf : FewT 200 T) : Calls Tryz.prog 18 #[.pointer (some ⟨tb, 0, none⟩)] W (EdgesT W T) := by
  obtain ⟨L, WT, h1, rfl⟩ := id h.at_
  exact Edges_any h1 (few_of hf)
theorem who_h (h : Have B W tb gl gw ro T) (hf : FewT 500 T) : Calls Tryz.prog 15 #[.pointer (some ⟨tb, 0, none⟩)] W (WhoQ W T) := by
  obtain ⟨L, WT, h1, rfl⟩ := id h.at_
  exact Who_any h1 (few_of hf)
end
set_option maxRecDepth 100000 in
set_option maxHeartbeats 1000000 in
/-- A new table. -/
theorem New_any {w : World} (hG : Glob w) : Calls Tryz.prog 8 #[] w fun e w' => e = .returned (.pointer (some ⟨w.heap.size + 2, 0, none⟩)) ∧ (∃ ro, Have w.heap.size w' (w.heap.size + 2) w.heap.size (w.heap.size + 1) ro tb0) ∧ Below w.heap.size w w' := by
  have hb1 := below_new (w := w) (.map #[] 0)
  have hb2 := below_new (w := w.alloc (.map #[] 0)) (.map #[] 0)
  have hb3 := below_new (w := (w.alloc (.map #[] 0)).alloc (.map #[] 0)) (.cells #[.map (some w.heap.size), .map (some (w.heap.size + 1))] 64)
  obtain ⟨w1, hw1⟩ : ∃ w1, w1 = w.alloc (.map #[] 0) := ⟨_, rfl⟩
  obtain ⟨w2, hw2⟩ : ∃ w2, w2 = w1.alloc (.map #[] 0) := ⟨_, rfl⟩
  obtain ⟨w3, hw3⟩ : ∃ w3, w3 = w2.alloc (.cells #[.map (some w.heap.size), .map (some (w.heap.size + 1))] 64) := ⟨_, rfl⟩
  have s1 : w1.heap.size = w.heap.size + 1 := by rw [hw1, asz]
  have s2 : w2.heap.size = w.heap.size + 2 := by rw [hw2, asz, s1]
  have m1 := MapIs.made Tryz.prog 9 w
  have m2 := MapIs.made Tryz.prog 3 w1
  have a3 := alloc_at w2 (.cells #[.map (some w.heap.size), .map (some (w.heap.size + 1))] 64)
  rw [← hw1] at hb1 hb2 hb3 m1
  rw [← hw2] at hb2 hb3 m2
  rw [← hw3] at hb3 a3
  rw [s2] at a3
  rw [s1] at m2
  have hb := (hb1.trans (hb2.mono hb1.size)).trans (hb3.mono (by omega))
  have HF : Hid (∃ ro, Have w.heap.size w3 (w.heap.size + 2) w.heap.size (w.heap.size + 1) ro tb0) := Lib.hid (by
    refine ⟨fun k => if k = w.heap.size + 2 then 1 else if k = w.heap.size then 2 else if k = w.heap.size + 1 then 3 else 0, ⟨[], [], ?_, rfl⟩, fun k hk => ?_, hG.below hb, hG.lt⟩
    · constructor
      case head => exact a3
      case lanes => exact ⟨[], 0, (m1.keep (hb2.block _ (by omega))).keep (hb3.block _ (by omega)), rfl⟩
      case waits => exact ⟨[], 0, m2.keep (hb3.block _ (by omega)), rfl⟩
      case ln => intro e he; cases he
      case keys => intro e he; cases he
      case inW => intro e he; cases he
      case rt => simp
      case rl => simp
      case rw => simp
      case rn => intro e he; cases he
      case lt =>
        intro k hk
        have h3 := hb3.size
        have : w3.heap.size = w.heap.size + 3 := by rw [hw3, asz, s2]
        split at hk
        · omega
        · split at hk
          · omega
          · split at hk
            · omega
            · exact absurd rfl hk
      case oneb => intro i j x y h; cases h
      case oneg => intro i j x y h; cases h
      case oner => intro i j x y k h; cases h
    · split at hk
      · omega
      · split at hk
        · omega
        · split at hk
          · omega
          · exact absurd rfl hk)
  have HB := Lib.hid hb
  have HW : Hid (((w.alloc (.map #[] 0)).alloc (.map #[] 0)).alloc (.cells #[.map (some w.heap.size), .map (some (w.heap.size + 1))] 64) = w3) := Lib.hid (by rw [hw3, hw2, hw1])
  clear hb1 hb2 hb3 hb m1 m2 a3 hw1 hw2 hw3 s1 s2 hG
  have hmm := @run_makeMap Tryz.prog
  go_enter Tryz.func8, Tryz.ntmps8
  go_wp2_with fail
  refine bodyPost_ret (v := .pointer (some ⟨w.heap.size + 2, 0, none⟩)) (by simp [results, Tryz.results8, go_sem]) rfl ?_
  rw [HW.out]
  exact ⟨rfl, HF.out, HB.out⟩
end Go.Proofs.YtmchmlkbpocboaaGreatDoor
