/- The law's own Cut of messages, Ours, Plain (genmegb.py wrote it.) -/
import Derived.Test.YtfaaeacgmlklhaaGreatDoorZMegA
set_option linter.unusedSimpArgs false
set_option linter.unusedVariables false
set_option linter.unnecessarySimpa false
namespace Go.Proofs.YtfaaeacgmlklhaaGreatDoor
open Go.RowKit Go.Shelf

/-- A message that was given: its texts may be of any length. -/
def MsgAt (w : World) (v : Value) (m : MsgV) : Prop := ∃ tA tc oA oc, v = .agg #[.int .i64 m.kd, .int .i64 m.fr, .int .i64 m.tt, .int .i64 m.g, .int .i64 m.nd, .int .i64 m.tr, .int .i64 m.lw, .int .i64 m.co, .int .i64 m.ti, .slice tA m.tl.length tc, .slice oA m.os.length oc] ∧ NumsAt w (.slice tA m.tl.length tc) m.tl ∧ OpsAt w (.slice oA m.os.length oc) m.os
theorem MsgAt.below {w w' : World} {v : Value} {m : MsgV} (h : MsgAt w v m) (hb : Below w.heap.size w w') : MsgAt w' v m := by
  obtain ⟨tA, tc, oA, oc, e, h1, h2⟩ := h
  exact ⟨tA, tc, oA, oc, e, h1.below hb, h2.below hb⟩
/-- A message's cells. -/
abbrev cellM (m : MsgV) (tA : Option Addr) (tc : Nat) (oA : Option Addr) (oc : Nat) : Array Value := #[.int .i64 m.kd, .int .i64 m.fr, .int .i64 m.tt, .int .i64 m.g, .int .i64 m.nd, .int .i64 m.tr, .int .i64 m.lw, .int .i64 m.co, .int .i64 m.ti, .slice tA m.tl.length tc, .slice oA m.os.length oc]
theorem RowN.lower {w : World} {B B' z : Nat} {v : Value} {n : Nat} {l : List Value} (h : RowN w B z v n l) (hb : B' ≤ B) : RowN w B' z v n l := ⟨h.1, fun b e => ⟨Nat.le_trans hb (h.2.1 b e).1, (h.2.1 b e).2⟩, h.2.2⟩
def cutM (m : MsgV) : MsgV := ⟨m.kd, m.fr, m.tt, m.g, m.nd, m.tr, m.lw, m.co, m.ti, m.tl.take 12, cutO m.os⟩
theorem NumsAt.take {w : World} {A : Option Addr} {n c : Nat} {l : List Int} (h : NumsAt w (.slice A n c) l) (k : Nat) (hk : k ≤ n) : NumsAt w (.slice A k c) (l.take k) := by
  obtain ⟨A', c', e, h1, h2, h3⟩ := h
  injection e with e1 e2 e3
  subst e1 e2 e3
  have hl : (l.take k).length = k := by rw [List.length_take]; omega
  refine ⟨A, c, by rw [hl], by omega, h2, fun i x hi => ?_⟩
  rw [List.getElem?_take] at hi
  split at hi
  · exact h3 i x hi
  · cases hi
theorem cut_nums {w : World} {m : MsgV} {tA : Option Addr} {tc : Nat} (h : NumsAt w (.slice tA m.tl.length tc) m.tl) : NumsAt w (.slice tA (cutM m).tl.length tc) (cutM m).tl := by
  show NumsAt w (.slice tA (m.tl.take 12).length tc) (m.tl.take 12)
  have e : m.tl.take 12 = m.tl.take (min 12 m.tl.length) := by
    rcases Nat.le_total 12 m.tl.length with h | h
    · rw [Nat.min_eq_left h]
    · rw [Nat.min_eq_right h, List.take_of_length_le h, List.take_of_length_le (Nat.le_refl _)]
  rw [List.length_take, e]
  exact h.take _ (Nat.min_le_right _ _)
set_option maxRecDepth 100000 in
set_option maxHeartbeats 8000000 in
theorem lawcut_cells {w : World} {m : MsgV} {tA oA : Option Addr} {tc oc : Nat} (ht : NumsAt w (.slice tA m.tl.length tc) m.tl) (ho : OpsAt w (.slice oA m.os.length oc) m.os) :
    Calls Tryz.prog 5 #[.agg #[.int .i64 m.kd, .int .i64 m.fr, .int .i64 m.tt, .int .i64 m.g, .int .i64 m.nd, .int .i64 m.tr, .int .i64 m.lw, .int .i64 m.co, .int .i64 m.ti, .slice tA m.tl.length tc, .slice oA m.os.length oc]] w fun e w' => ∃ oA oc, e = .returned (.agg (cellM (cutM m) tA tc oA oc)) ∧ NumsAt w (.slice tA (cutM m).tl.length tc) (cutM m).tl ∧ RowN w' w.heap.size 4 (.slice oA (cutM m).os.length oc) (cutM m).os.length (opC (cutM m).os) ∧ Below w.heap.size w w' := by
  obtain ⟨kd, fr, tt, g, nd, tr, lw, co, ti, tl, os⟩ := m
  simp only at ht ho ⊢
  have HCU := Lib.hid (fun W (hW : Below w.heap.size w W) => lcut_any (ho.below hW))
  obtain ⟨tn, htn⟩ : ∃ n, tl.length = n := ⟨_, rfl⟩
  obtain ⟨on, hon⟩ : ∃ n, os.length = n := ⟨_, rfl⟩
  have HTN := Lib.hid htn
  rw [htn] at ht ⊢
  rw [hon] at HCU ⊢
  have HFT : Hid (∃ A k, k ≤ 12 ∧ k = (tl.take 12).length ∧ NumsAt w (.slice tA k tc) (tl.take 12) ∧ A = k) := Lib.hid (by
    by_cases h : 12 < tn
    · exact ⟨12, 12, by omega, by rw [List.length_take, HTN.out]; omega, ht.take 12 (by omega), rfl⟩
    · refine ⟨tn, tn, by omega, by rw [List.length_take, HTN.out]; omega, ?_, rfl⟩
      rw [List.take_of_length_le (by rw [HTN.out]; omega)]
      exact ht)
  have hcap : tn ≤ tc := by
    obtain ⟨A', c', e, h1, _⟩ := ht
    injection e with _ _ e3
    subst e3
    rw [HTN.out] at h1
    exact h1
  clear ht ho htn hon
  by_cases h12 : 12 < tn
  · have h12I : (12 : Int) < (tn : Int) := by omega
    have hc12 : 12 ≤ tc := by omega
    have HNU : Hid (NumsAt w (.slice tA 12 tc) (tl.take 12) ∧ (tl.take 12).length = 12) := Lib.hid (by
      obtain ⟨_, k, h1, h2, h3, _⟩ := HFT.out
      have : k = 12 := by rw [h2, List.length_take, HTN.out]; omega
      subst this
      exact ⟨h3, h2.symm⟩)
    have hb1 := below_new (w := w) (.cells #[.int .i64 kd, .int .i64 fr, .int .i64 tt, .int .i64 g, .int .i64 nd, .int .i64 tr, .int .i64 lw, .int .i64 co, .int .i64 ti, .slice tA 12 tc, .slice oA on oc] 26)
    have hb2 := hb1.trans ((below_new (w := w.alloc (.cells #[.int .i64 kd, .int .i64 fr, .int .i64 tt, .int .i64 g, .int .i64 nd, .int .i64 tr, .int .i64 lw, .int .i64 co, .int .i64 ti, .slice tA 12 tc, .slice oA on oc] 26)) (.cells #[.int .i64 0, .int .i64 0, .int .i64 0, .int .i64 0, .int .i64 0, .int .i64 0, .int .i64 0, .int .i64 0, .int .i64 0, .slice none 0 0, .slice none 0 0] 26)).mono hb1.size)
    have hat1 := alloc_at w (.cells #[.int .i64 kd, .int .i64 fr, .int .i64 tt, .int .i64 g, .int .i64 nd, .int .i64 tr, .int .i64 lw, .int .i64 co, .int .i64 ti, .slice tA 12 tc, .slice oA on oc] 26)
    have hat1 := ((below_new (w := w.alloc (.cells #[.int .i64 kd, .int .i64 fr, .int .i64 tt, .int .i64 g, .int .i64 nd, .int .i64 tr, .int .i64 lw, .int .i64 co, .int .i64 ti, .slice tA 12 tc, .slice oA on oc] 26)) (.cells #[.int .i64 0, .int .i64 0, .int .i64 0, .int .i64 0, .int .i64 0, .int .i64 0, .int .i64 0, .int .i64 0, .int .i64 0, .slice none 0 0, .slice none 0 0] 26)).block w.heap.size (heap_lt hat1)).trans hat1
    have hat2 := alloc_at (w.alloc (.cells #[.int .i64 kd, .int .i64 fr, .int .i64 tt, .int .i64 g, .int .i64 nd, .int .i64 tr, .int .i64 lw, .int .i64 co, .int .i64 ti, .slice tA 12 tc, .slice oA on oc] 26)) (.cells #[.int .i64 0, .int .i64 0, .int .i64 0, .int .i64 0, .int .i64 0, .int .i64 0, .int .i64 0, .int .i64 0, .int .i64 0, .slice none 0 0, .slice none 0 0] 26)
    rw [asz] at hat2
    have HB := Lib.hid hb2
    have HA := Lib.hid (And.intro hat1 hat2)
    clear hb1 hb2 hat1 hat2 h12 HFT
    go_enter Tryz.func5, Tryz.ntmps5
    go_wp2_with fail
    refine (HCU.out _ HB.out).mono ?_
    rintro e w3 ⟨vo, rfl, hro, hb3⟩
    have HM3 := Lib.hid ((hb3.block w.heap.size (heap_lt HA.out.1)).trans HA.out.1)
    have HZ3 := Lib.hid ((hb3.block (w.heap.size + 1) (heap_lt HA.out.2)).trans HA.out.2)
    have HB3 := Lib.hid (HB.out.trans (hb3.mono HB.out.size))
    have HRO := Lib.hid hro
    have hsz : w.heap.size + 1 < w3.heap.size := heap_lt HZ3.out
    obtain ⟨Ao, co2, rfl, _⟩ := hro.1.form
    have hzM := HM3.out
    have hz := HZ3.out
    have d0 := cell_of hzM 0
    have d1 := cell_of hzM 1
    have d2 := cell_of hzM 2
    have d3 := cell_of hzM 3
    have d4 := cell_of hzM 4
    have d5 := cell_of hzM 5
    have d6 := cell_of hzM 6
    have d7 := cell_of hzM 7
    have d8 := cell_of hzM 8
    have d9 := cell_of hzM 9
    have d10 := cell_of hzM 10
    simp at d0 d1 d2 d3 d4 d5 d6 d7 d8 d9 d10
    have e10 := free0 hzM 10
    have c0 := cell_of hz 0
    have c1 := cell_of hz 1
    have c2 := cell_of hz 2
    have c3 := cell_of hz 3
    have c4 := cell_of hz 4
    have c5 := cell_of hz 5
    have c6 := cell_of hz 6
    have c7 := cell_of hz 7
    have c8 := cell_of hz 8
    have c9 := cell_of hz 9
    have c10 := cell_of hz 10
    simp at c0 c1 c2 c3 c4 c5 c6 c7 c8 c9 c10
    have f0 := free0 hz 0
    have f1 := free0 hz 1
    have f2 := free0 hz 2
    have f3 := free0 hz 3
    have f4 := free0 hz 4
    have f5 := free0 hz 5
    have f6 := free0 hz 6
    have f7 := free0 hz 7
    have f8 := free0 hz 8
    have f9 := free0 hz 9
    have f10 := free0 hz 10
    have hzx := (Below.heap_setCell w3 ⟨w.heap.size, 10, none⟩ (.slice Ao (cutO os).length co2) (w.heap.size + 1) (by show w.heap.size + 1 ≠ w.heap.size; omega)).trans hz
    have HZ5 := Lib.hid (setCells_at (w.heap.size + 1) [.int .i64 kd, .int .i64 fr, .int .i64 tt, .int .i64 g, .int .i64 nd, .int .i64 tr, .int .i64 lw, .int .i64 co, .int .i64 ti, .slice tA 12 tc, .slice Ao (cutO os).length co2] [] [.int .i64 0, .int .i64 0, .int .i64 0, .int .i64 0, .int .i64 0, .int .i64 0, .int .i64 0, .int .i64 0, .int .i64 0, .slice none 0 0, .slice none 0 0] (w3.setCell ⟨w.heap.size, 10, none⟩ (.slice Ao (cutO os).length co2)) rfl hzx)
    have HT5 := Lib.hid (setCells_touch (S := fun k => k = w.heap.size ∨ k = w.heap.size + 1) (a := w3) (w.heap.size + 1) (fun _ => .inr rfl) [.int .i64 kd, .int .i64 fr, .int .i64 tt, .int .i64 g, .int .i64 nd, .int .i64 tr, .int .i64 lw, .int .i64 co, .int .i64 ti, .slice tA 12 tc, .slice Ao (cutO os).length co2] 0 (w3.setCell ⟨w.heap.size, 10, none⟩ (.slice Ao (cutO os).length co2)) ((Touch.refl (fun k => k = w.heap.size ∨ k = w.heap.size + 1) w3).setCell ⟨w.heap.size, 10, none⟩ (fun _ => .inl rfl) _))
    clear hz hzM hzx hro hb3 HCU
    go_wp2_with fail
    change bodyPost _ _ _ _ _ (World.setCells _ (w.heap.size + 1) 0 [.int .i64 kd, .int .i64 fr, .int .i64 tt, .int .i64 g, .int .i64 nd, .int .i64 tr, .int .i64 lw, .int .i64 co, .int .i64 ti, .slice tA 12 tc, .slice Ao (cutO os).length co2])
    simp only [List.length_nil, List.nil_append] at HZ5
    generalize World.setCells _ (w.heap.size + 1) 0 [.int .i64 kd, .int .i64 fr, .int .i64 tt, .int .i64 g, .int .i64 nd, .int .i64 tr, .int .i64 lw, .int .i64 co, .int .i64 ti, .slice tA 12 tc, .slice Ao (cutO os).length co2] = W5 at *
    clear c0 c1 c2 c3 c4 c5 c6 c7 c8 c9 c10 f0 f1 f2 f3 f4 f5 f6 f7 f8 f9 f10 d0 d1 d2 d3 d4 d5 d6 d7 d8 d9 d10 e10
    have j0 := cell_of HZ5.out 0
    have j1 := cell_of HZ5.out 1
    have j2 := cell_of HZ5.out 2
    have j3 := cell_of HZ5.out 3
    have j4 := cell_of HZ5.out 4
    have j5 := cell_of HZ5.out 5
    have j6 := cell_of HZ5.out 6
    have j7 := cell_of HZ5.out 7
    have j8 := cell_of HZ5.out 8
    have j9 := cell_of HZ5.out 9
    have j10 := cell_of HZ5.out 10
    simp at j0 j1 j2 j3 j4 j5 j6 j7 j8 j9 j10
    refine bodyPost_ret (v := .agg #[.int .i64 kd, .int .i64 fr, .int .i64 tt, .int .i64 g, .int .i64 nd, .int .i64 tr, .int .i64 lw, .int .i64 co, .int .i64 ti, .slice tA 12 tc, .slice Ao (cutO os).length co2]) (by simp [results, Tryz.results5, go_sem, j0, j1, j2, j3, j4, j5, j6, j7, j8, j9, j10]) rfl ?_
    have hbe := HB3.out.trans (HT5.out.below (fun i e => by omega) HB3.out.size)
    refine ⟨Ao, co2, by simp only [cutM, cellM, HNU.out.2], ?_, ?_, hbe⟩
    · show NumsAt w (.slice tA (tl.take 12).length tc) (tl.take 12)
      rw [HNU.out.2]
      exact HNU.out.1
    · exact RowN.lower (B := w.heap.size + 2) ⟨HRO.out.1.touch HT5.out (fun b e hb => by have := (HRO.out.2.1 b e).1; rw [asz, asz] at this; omega), fun b e => ⟨by have := (HRO.out.2.1 b e).1; rw [asz, asz] at this; omega, (HRO.out.2.1 b e).2⟩, HRO.out.2.2⟩ (by omega)
  · have h12I : ¬ (12 : Int) < (tn : Int) := by omega
    have HNU : Hid (NumsAt w (.slice tA tn tc) (tl.take 12) ∧ (tl.take 12).length = tn) := Lib.hid (by
      obtain ⟨_, k, h1, h2, h3, _⟩ := HFT.out
      have : k = tn := by rw [h2, List.length_take, HTN.out]; omega
      subst this
      exact ⟨h3, h2.symm⟩)
    have hb1 := below_new (w := w) (.cells #[.int .i64 kd, .int .i64 fr, .int .i64 tt, .int .i64 g, .int .i64 nd, .int .i64 tr, .int .i64 lw, .int .i64 co, .int .i64 ti, .slice tA tn tc, .slice oA on oc] 26)
    have hb2 := hb1.trans ((below_new (w := w.alloc (.cells #[.int .i64 kd, .int .i64 fr, .int .i64 tt, .int .i64 g, .int .i64 nd, .int .i64 tr, .int .i64 lw, .int .i64 co, .int .i64 ti, .slice tA tn tc, .slice oA on oc] 26)) (.cells #[.int .i64 0, .int .i64 0, .int .i64 0, .int .i64 0, .int .i64 0, .int .i64 0, .int .i64 0, .int .i64 0, .int .i64 0, .slice none 0 0, .slice none 0 0] 26)).mono hb1.size)
    have hat1 := alloc_at w (.cells #[.int .i64 kd, .int .i64 fr, .int .i64 tt, .int .i64 g, .int .i64 nd, .int .i64 tr, .int .i64 lw, .int .i64 co, .int .i64 ti, .slice tA tn tc, .slice oA on oc] 26)
    have hat1 := ((below_new (w := w.alloc (.cells #[.int .i64 kd, .int .i64 fr, .int .i64 tt, .int .i64 g, .int .i64 nd, .int .i64 tr, .int .i64 lw, .int .i64 co, .int .i64 ti, .slice tA tn tc, .slice oA on oc] 26)) (.cells #[.int .i64 0, .int .i64 0, .int .i64 0, .int .i64 0, .int .i64 0, .int .i64 0, .int .i64 0, .int .i64 0, .int .i64 0, .slice none 0 0, .slice none 0 0] 26)).block w.heap.size (heap_lt hat1)).trans hat1
    have hat2 := alloc_at (w.alloc (.cells #[.int .i64 kd, .int .i64 fr, .int .i64 tt, .int .i64 g, .int .i64 nd, .int .i64 tr, .int .i64 lw, .int .i64 co, .int .i64 ti, .slice tA tn tc, .slice oA on oc] 26)) (.cells #[.int .i64 0, .int .i64 0, .int .i64 0, .int .i64 0, .int .i64 0, .int .i64 0, .int .i64 0, .int .i64 0, .int .i64 0, .slice none 0 0, .slice none 0 0] 26)
    rw [asz] at hat2
    have HB := Lib.hid hb2
    have HA := Lib.hid (And.intro hat1 hat2)
    clear hb1 hb2 hat1 hat2 h12 HFT
    go_enter Tryz.func5, Tryz.ntmps5
    go_wp2_with fail
    refine (HCU.out _ HB.out).mono ?_
    rintro e w3 ⟨vo, rfl, hro, hb3⟩
    have HM3 := Lib.hid ((hb3.block w.heap.size (heap_lt HA.out.1)).trans HA.out.1)
    have HZ3 := Lib.hid ((hb3.block (w.heap.size + 1) (heap_lt HA.out.2)).trans HA.out.2)
    have HB3 := Lib.hid (HB.out.trans (hb3.mono HB.out.size))
    have HRO := Lib.hid hro
    have hsz : w.heap.size + 1 < w3.heap.size := heap_lt HZ3.out
    obtain ⟨Ao, co2, rfl, _⟩ := hro.1.form
    have hzM := HM3.out
    have hz := HZ3.out
    have d0 := cell_of hzM 0
    have d1 := cell_of hzM 1
    have d2 := cell_of hzM 2
    have d3 := cell_of hzM 3
    have d4 := cell_of hzM 4
    have d5 := cell_of hzM 5
    have d6 := cell_of hzM 6
    have d7 := cell_of hzM 7
    have d8 := cell_of hzM 8
    have d9 := cell_of hzM 9
    have d10 := cell_of hzM 10
    simp at d0 d1 d2 d3 d4 d5 d6 d7 d8 d9 d10
    have e10 := free0 hzM 10
    have c0 := cell_of hz 0
    have c1 := cell_of hz 1
    have c2 := cell_of hz 2
    have c3 := cell_of hz 3
    have c4 := cell_of hz 4
    have c5 := cell_of hz 5
    have c6 := cell_of hz 6
    have c7 := cell_of hz 7
    have c8 := cell_of hz 8
    have c9 := cell_of hz 9
    have c10 := cell_of hz 10
    simp at c0 c1 c2 c3 c4 c5 c6 c7 c8 c9 c10
    have f0 := free0 hz 0
    have f1 := free0 hz 1
    have f2 := free0 hz 2
    have f3 := free0 hz 3
    have f4 := free0 hz 4
    have f5 := free0 hz 5
    have f6 := free0 hz 6
    have f7 := free0 hz 7
    have f8 := free0 hz 8
    have f9 := free0 hz 9
    have f10 := free0 hz 10
    have hzx := (Below.heap_setCell w3 ⟨w.heap.size, 10, none⟩ (.slice Ao (cutO os).length co2) (w.heap.size + 1) (by show w.heap.size + 1 ≠ w.heap.size; omega)).trans hz
    have HZ5 := Lib.hid (setCells_at (w.heap.size + 1) [.int .i64 kd, .int .i64 fr, .int .i64 tt, .int .i64 g, .int .i64 nd, .int .i64 tr, .int .i64 lw, .int .i64 co, .int .i64 ti, .slice tA tn tc, .slice Ao (cutO os).length co2] [] [.int .i64 0, .int .i64 0, .int .i64 0, .int .i64 0, .int .i64 0, .int .i64 0, .int .i64 0, .int .i64 0, .int .i64 0, .slice none 0 0, .slice none 0 0] (w3.setCell ⟨w.heap.size, 10, none⟩ (.slice Ao (cutO os).length co2)) rfl hzx)
    have HT5 := Lib.hid (setCells_touch (S := fun k => k = w.heap.size ∨ k = w.heap.size + 1) (a := w3) (w.heap.size + 1) (fun _ => .inr rfl) [.int .i64 kd, .int .i64 fr, .int .i64 tt, .int .i64 g, .int .i64 nd, .int .i64 tr, .int .i64 lw, .int .i64 co, .int .i64 ti, .slice tA tn tc, .slice Ao (cutO os).length co2] 0 (w3.setCell ⟨w.heap.size, 10, none⟩ (.slice Ao (cutO os).length co2)) ((Touch.refl (fun k => k = w.heap.size ∨ k = w.heap.size + 1) w3).setCell ⟨w.heap.size, 10, none⟩ (fun _ => .inl rfl) _))
    clear hz hzM hzx hro hb3 HCU
    go_wp2_with fail
    change bodyPost _ _ _ _ _ (World.setCells _ (w.heap.size + 1) 0 [.int .i64 kd, .int .i64 fr, .int .i64 tt, .int .i64 g, .int .i64 nd, .int .i64 tr, .int .i64 lw, .int .i64 co, .int .i64 ti, .slice tA tn tc, .slice Ao (cutO os).length co2])
    simp only [List.length_nil, List.nil_append] at HZ5
    generalize World.setCells _ (w.heap.size + 1) 0 [.int .i64 kd, .int .i64 fr, .int .i64 tt, .int .i64 g, .int .i64 nd, .int .i64 tr, .int .i64 lw, .int .i64 co, .int .i64 ti, .slice tA tn tc, .slice Ao (cutO os).length co2] = W5 at *
    clear c0 c1 c2 c3 c4 c5 c6 c7 c8 c9 c10 f0 f1 f2 f3 f4 f5 f6 f7 f8 f9 f10 d0 d1 d2 d3 d4 d5 d6 d7 d8 d9 d10 e10
    have j0 := cell_of HZ5.out 0
    have j1 := cell_of HZ5.out 1
    have j2 := cell_of HZ5.out 2
    have j3 := cell_of HZ5.out 3
    have j4 := cell_of HZ5.out 4
    have j5 := cell_of HZ5.out 5
    have j6 := cell_of HZ5.out 6
    have j7 := cell_of HZ5.out 7
    have j8 := cell_of HZ5.out 8
    have j9 := cell_of HZ5.out 9
    have j10 := cell_of HZ5.out 10
    simp at j0 j1 j2 j3 j4 j5 j6 j7 j8 j9 j10
    refine bodyPost_ret (v := .agg #[.int .i64 kd, .int .i64 fr, .int .i64 tt, .int .i64 g, .int .i64 nd, .int .i64 tr, .int .i64 lw, .int .i64 co, .int .i64 ti, .slice tA tn tc, .slice Ao (cutO os).length co2]) (by simp [results, Tryz.results5, go_sem, j0, j1, j2, j3, j4, j5, j6, j7, j8, j9, j10]) rfl ?_
    have hbe := HB3.out.trans (HT5.out.below (fun i e => by omega) HB3.out.size)
    refine ⟨Ao, co2, by simp only [cutM, cellM, HNU.out.2], ?_, ?_, hbe⟩
    · show NumsAt w (.slice tA (tl.take 12).length tc) (tl.take 12)
      rw [HNU.out.2]
      exact HNU.out.1
    · exact RowN.lower (B := w.heap.size + 2) ⟨HRO.out.1.touch HT5.out (fun b e hb => by have := (HRO.out.2.1 b e).1; rw [asz, asz] at this; omega), fun b e => ⟨by have := (HRO.out.2.1 b e).1; rw [asz, asz] at this; omega, (HRO.out.2.1 b e).2⟩, HRO.out.2.2⟩ (by omega)
theorem lawcut_own {w : World} {v : Value} {m : MsgV} (h : MsgAt w v m) :
    Calls Tryz.prog 5 #[v] w fun e w' => ∃ tA tc oA oc, e = .returned (.agg (cellM (cutM m) tA tc oA oc)) ∧ NumsAt w (.slice tA (cutM m).tl.length tc) (cutM m).tl ∧ RowN w' w.heap.size 4 (.slice oA (cutM m).os.length oc) (cutM m).os.length (opC (cutM m).os) ∧ Below w.heap.size w w' := by
  obtain ⟨tA, tc, oA, oc, rfl, ht, ho⟩ := h
  exact (lawcut_cells ht ho).mono fun e w' ⟨oA, oc, h⟩ => ⟨tA, tc, oA, oc, h⟩
theorem lawcut_any {w : World} {v : Value} {m : MsgV} (h : MsgAt w v m) :
    Calls Tryz.prog 5 #[v] w fun e w' => ∃ v', e = .returned v' ∧ MsgIs w' v' (cutM m) ∧ Below w.heap.size w w' :=
  (lawcut_own h).mono fun e w' ⟨tA, tc, oA, oc, he, h1, h2, hb⟩ => ⟨_, he, ⟨tA, tc, oA, oc, rfl, h1.below hb, h2.1.ops rfl, fun o ho => by have := cutO_keys m.os o ho; omega⟩, hb⟩
set_option maxRecDepth 100000 in
set_option maxHeartbeats 4000000 in
theorem ours_any {w : World} {v : Value} {m : MsgV} (h : MsgIs w v m) :
    Calls Tryz.prog 7 #[v] w fun e w' => e = .returned v ∧ Below w.heap.size w w' := by
  obtain ⟨tA, tc, oA, oc, rfl, _⟩ := h
  obtain ⟨kd, fr, tt, g, nd, tr, lw, co, ti, tl, os⟩ := m
  simp only
  go_enter Tryz.func7, Tryz.ntmps7
  go_wp2_with fail
  refine bodyPost_ret (v := .agg #[.int .i64 kd, .int .i64 fr, .int .i64 tt, .int .i64 g, .int .i64 nd, .int .i64 tr, .int .i64 lw, .int .i64 co, .int .i64 ti, .slice tA tl.length tc, .slice oA os.length oc]) (by simp [results, Tryz.results7, go_sem]) rfl ⟨rfl, ?_⟩
  exact (((Below.refl _ _).alloc (Nat.le_refl _) _).alloc (by simp) _)
set_option maxRecDepth 100000 in
set_option maxHeartbeats 4000000 in
theorem plain_m {w : World} {v : Value} {m : MsgV} (h : MsgIs w v m) :
    Calls Tryz.prog 14 #[v] w fun e w' => e = .returned v ∧ Below w.heap.size w w' := by
  obtain ⟨tA, tc, oA, oc, rfl, _⟩ := h
  obtain ⟨kd, fr, tt, g, nd, tr, lw, co, ti, tl, os⟩ := m
  simp only
  go_enter Tryz.func14, Tryz.ntmps14
  go_wp2_with fail
  refine bodyPost_ret (v := .agg #[.int .i64 kd, .int .i64 fr, .int .i64 tt, .int .i64 g, .int .i64 nd, .int .i64 tr, .int .i64 lw, .int .i64 co, .int .i64 ti, .slice tA tl.length tc, .slice oA os.length oc]) (by simp [results, Tryz.results14, go_sem]) rfl ⟨rfl, ?_⟩
  exact (((Below.refl _ _).alloc (Nat.le_refl _) _).alloc (by simp) _)
end Go.Proofs.YtfaaeacgmlklhaaGreatDoor
