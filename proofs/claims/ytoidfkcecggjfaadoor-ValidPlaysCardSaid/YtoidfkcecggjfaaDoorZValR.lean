/- The reference's Add. -/
import Derived.Test.YtoidfkcecggjfaaDoorZValQ
set_option linter.unusedSimpArgs false
set_option linter.unusedVariables false
set_option linter.unnecessarySimpa false
namespace Go.Proofs.YtoidfkcecggjfaaDoor
open Go.RowKit Go.Shelf

set_option maxRecDepth 100000 in
set_option maxHeartbeats 20000000 in
theorem radd_any {w : World} {r F : Nat} {u kv : Value} {us : List Value} {A : List (List K)} {keys : List K} (hh : RAt w r u F us A) (hk : RowIs w 1 kv keys.length (strs keys)) (hl : keys.length ≤ 1000) (hA : A.length ≤ 1000) :
    Calls Tryd.prog 17 #[.pointer (some ⟨r, 0, none⟩), kv] w fun e w' => e = .returned (.int .i64 ((A.length : Int) + 1)) ∧ ∃ u' us', RAt w' r u' F us' (A ++ [setP keys]) ∧ Touch (fun b => b = r) w w' ∧ (∀ b, u'.ownBlock = some b → w.heap.size ≤ b) ∧ ∀ x ∈ us', x ∈ us ∨ ∀ b, x.ownBlock = some b → w.heap.size ≤ b := by
  have HH0 := Lib.hid hh
  have HK := Lib.hid hk
  obtain ⟨Ak, ck, rfl, hk1, hk2, _⟩ := id hk.form
  unfold maxLen at hk2
  have hl' : (keys.length : Int) ≤ 1000 := by omega
  clear hh hk
  go_enter Tryd.func17, Tryd.ntmps17
  go_wp2_with fail
  go_loopw [5, 14] (fun sv iv wr => ∃ j : Nat, j ≤ keys.length ∧ iv = .int .i64 j ∧ RowIs wr 1 sv ((keys.take j).foldl insP []).length (strs ((keys.take j).foldl insP [])) ∧ (∀ b, sv.ownBlock = some b → w.heap.size ≤ b) ∧ Below w.heap.size w wr) (fun _ iv _ => keys.length - (intOf iv).toNat)
  case atStart => exact ⟨0, Nat.zero_le _, rfl, RowIs.nil _ _, (fun b e => by cases e), Below.refl _ _⟩
  case round =>
    obtain ⟨j, hj, rfl, hr, ho, hb⟩ := hrel
    obtain ⟨set, hset⟩ : ∃ set, set = (keys.take j).foldl insP [] := ⟨_, rfl⟩
    rw [← hset] at hr
    have hsl : set.length ≤ 1000 := by
      rw [hset]
      have := set_len (keys.take j) []
      rw [List.length_take, List.length_nil] at this
      omega
    obtain ⟨As, cs, rfl, hs1, hs2, _⟩ := id hr.form
    unfold maxLen at hs2
    have HR := Lib.hid hr
    have HO := Lib.hid ho
    have HB := Lib.hid hb
    have HSET := Lib.hid hset
    by_cases hlt : j < keys.length
    · have hx : keys[j]? = some keys[j] := List.getElem?_eq_getElem hlt
      generalize keys[j] = k at hx
      have hi : (j : Int) < (keys.length : Int) := by omega
      obtain ⟨g, c3, e3, _, _, _, hc3⟩ := RowIs.str (HK.out.below hb) hx
      injection e3 with eA _ eC
      subst eA eC
      have hsl' : (set.length : Int) ≤ 1000 := by omega
      have HLT := Lib.hid hlt
      have HX := Lib.hid hx
      have kk : wr.cell? ⟨g, j, none⟩ = some (.string ⟨k.toArray⟩) := hc3
      clear hr ho hb hlt hx hj hset hc3 hsl
      go_upto_block 2 with fail
      go_cut [8, 9] (fun lv bv wx => RowIs wx 1 lv (insW k set).1.length (strs (insW k set).1) ∧ bv = .bool (insW k set).2 ∧ (∀ b, lv.ownBlock = some b → w.heap.size ≤ b) ∧ Below w.heap.size w wx)
      case first =>
        go_wp2_with fail
        obtain ⟨wo, rfl⟩ : ∃ wo, wo = wr := ⟨_, rfl⟩
        go_loopw [8, 9, 20] (fun lv bv iv wr => ∃ i : Nat, i ≤ set.length ∧ iv = .int .i64 i ∧ RowIs wr 1 lv ((set.take i).foldl (insS k) ([], false)).1.length (strs ((set.take i).foldl (insS k) ([], false)).1) ∧ bv = .bool ((set.take i).foldl (insS k) ([], false)).2 ∧ (∀ b, lv.ownBlock = some b → wo.heap.size ≤ b) ∧ Below wo.heap.size wo wr) (fun _ _ iv _ => set.length - (intOf iv).toNat)
        case atStart => exact ⟨0, Nat.zero_le _, rfl, RowIs.nil _ _, rfl, (fun b e => by cases e), Below.refl _ _⟩
        case round =>
          obtain ⟨i, hi9, rfl, hr, rfl, ho, hb⟩ := hrel
          obtain ⟨l, b, hlb⟩ : ∃ l b, (set.take i).foldl (insS k) ([], false) = (l, b) := ⟨_, _, rfl⟩
          rw [hlb] at hr
          by_cases hlt : i < set.length
          · have hx : set[i]? = some set[i] := List.getElem?_eq_getElem hlt
            generalize set[i] = x at hx
            have hi : (i : Int) < (set.length : Int) := by omega
            obtain ⟨gs, c4, e4, _, _, _, hc4⟩ := RowIs.str (HR.out.below hb) hx
            injection e4 with eA _ eC
            subst eA eC
            have kx : wr.cell? ⟨gs, i, none⟩ = some (.string ⟨x.toArray⟩) := hc4
            obtain ⟨Al, cl, rfl, hl1, hl2, _⟩ := id hr.form
            have hsum := insW_len k (set.take i) [] false
            rw [hlb] at hsum
            have hll : l.length ≤ 1000 := by
              have h1 : l.length + pen b ≤ 0 + 1 + (set.take i).length := hsum
              have h2 : (set.take i).length = min i set.length := List.length_take
              have h3 : i < 1000 := by omega
              omega
            have hstep := take_insS (k := k) hx
            rw [hlb] at hstep ⊢
            have HST := Lib.hid hstep
            have HLT := Lib.hid hlt
            have HR2 := Lib.hid hr
            have HO2 := Lib.hid ho
            have HB2 := Lib.hid hb
            clear hstep hlt hx hsum hi9 hc4
            by_cases hxk : x = k
            · have q1 : (x == k) = true := by simp [hxk]
              cases b with
              | true =>
                have HF : Hid (insS k (l, true) x = (l, true)) := Lib.hid (by simp [insS, hxk])
                clear hxk hr ho hb hlb hll
                go_wp2_with fail
                go_roundw
                case rel => exact ⟨i + 1, HLT.out, by go_num, by rw [HST.out, HF.out]; exact HR2.out, by rw [HST.out, HF.out], HO2.out, HB2.out⟩
                case measure => have := HLT.out; simp [intOf]; omega
              | false =>
                have q2 : Op.bytesLess x k = false := by rw [Go.Proofs.bytesLess_eq, hxk]; exact decide_eq_false (k_irrefl k)
                have hkx : k ≤ x := by rw [hxk]; exact List.le_refl k
                obtain ⟨v1, w1, hr1, hrow1, ht1, ho1⟩ := app_text (⟨k.toArray⟩) 29 (l := l) hr (by omega)
                have HF : Hid (insS k (l, false) x = (l ++ [k], true)) := Lib.hid (by simp [insS, hxk])
                have HROW : Hid (RowIs w1 1 v1 (l ++ [k]).length (strs (l ++ [k]))) := Lib.hid hrow1
                have HO1 : Hid (∀ b, v1.ownBlock = some b → wo.heap.size ≤ b) := Lib.hid (fun b e => (ho1 b e).elim (fun e => ho b e) (fun e => by have := hb.size; omega))
                have HB1 : Hid (Below wo.heap.size wo w1) := Lib.hid (hb.trans (ht1.below (fun b e => ho b e) hb.size))
                clear hxk hr ho hb hlb hll hrow1 ht1 ho1 hkx
                go_wp2_with (at_builtin; refine wpList_app_run rfl _ _ _ _ rfl rfl rfl hr1 ?_)
                go_roundw
                case rel => exact ⟨i + 1, HLT.out, by go_num, by rw [HST.out, HF.out]; exact HROW.out, by rw [HST.out, HF.out], HO1.out, HB1.out⟩
                case measure => have := HLT.out; simp [intOf]; omega
            · have q1 : (x == k) = false := by simp [hxk]
              cases b with
              | true =>
                obtain ⟨v1, w1, hr1, hrow1, ht1, ho1⟩ := app_text (⟨x.toArray⟩) 29 (l := l) hr (by omega)
                have HF : Hid (insS k (l, true) x = (l ++ [x], true)) := Lib.hid (by simp [insS, hxk])
                have HROW : Hid (RowIs w1 1 v1 (l ++ [x]).length (strs (l ++ [x]))) := Lib.hid hrow1
                have HO1 : Hid (∀ b, v1.ownBlock = some b → wo.heap.size ≤ b) := Lib.hid (fun b e => (ho1 b e).elim (fun e => ho b e) (fun e => by have := hb.size; omega))
                have HB1 : Hid (Below wo.heap.size wo w1) := Lib.hid (hb.trans (ht1.below (fun b e => ho b e) hb.size))
                clear hxk hr ho hb hlb hll hrow1 ht1 ho1
                go_wp2_with (at_builtin; refine wpList_app_run rfl _ _ _ _ rfl rfl rfl hr1 ?_)
                go_roundw
                case rel => exact ⟨i + 1, HLT.out, by go_num, by rw [HST.out, HF.out]; exact HROW.out, by rw [HST.out, HF.out], HO1.out, HB1.out⟩
                case measure => have := HLT.out; simp [intOf]; omega
              | false =>
                rcases k_total k x with hkx | hkx
                · have q2 : Op.bytesLess x k = false := by rw [Go.Proofs.bytesLess_eq]; exact decide_eq_false (List.not_lt.2 hkx)
                  obtain ⟨v1, w1, hr1, hrow1, ht1, ho1⟩ := app_text (⟨k.toArray⟩) 29 (l := l) hr (by omega)
                  obtain ⟨v2, w2, hr2, hrow2, ht2, ho2⟩ := app_text (⟨x.toArray⟩) 29 hrow1 (by rw [List.length_append]; show l.length + 1 ≤ 1000000; omega)
                  have HF : Hid (insS k (l, false) x = (l ++ [k] ++ [x], true)) := Lib.hid (by simp [insS, hxk, hkx])
                  have HROW : Hid (RowIs w2 1 v2 (l ++ [k] ++ [x]).length (strs (l ++ [k] ++ [x]))) := Lib.hid hrow2
                  have hs1 : wr.heap.size ≤ w1.heap.size := ht1.size
                  have hoo : ∀ b, v1.ownBlock = some b → wo.heap.size ≤ b := fun b e => (ho1 b e).elim (fun e => ho b e) (fun e => by have := hb.size; omega)
                  have HO1 : Hid (∀ b, v2.ownBlock = some b → wo.heap.size ≤ b) := Lib.hid (fun b e => (ho2 b e).elim (fun e => hoo b e) (fun e => by have := hb.size; omega))
                  have hb2 : Below wo.heap.size wo w1 := hb.trans (ht1.below (fun b e => ho b e) hb.size)
                  have HB1 : Hid (Below wo.heap.size wo w2) := Lib.hid (hb2.trans (ht2.below (fun b e => hoo b e) hb2.size))
                  obtain ⟨A1, c1, rfl, _⟩ := id hrow1.form
                  rw [show (l ++ [k]).length = l.length + 1 by simp] at hr1 hr2
                  clear hxk hr ho hb hlb hll hrow1 ht1 ho1 hrow2 ht2 ho2 hs1 hoo hb2 hkx
                  go_wp2_with (at_builtin; first | refine wpList_app_run rfl _ _ _ _ rfl rfl rfl hr1 ?_ | refine wpList_app_run rfl _ _ _ _ rfl rfl rfl hr2 ?_)
                  go_roundw
                  case rel => exact ⟨i + 1, HLT.out, by go_num, by rw [HST.out, HF.out]; exact HROW.out, by rw [HST.out, HF.out], HO1.out, HB1.out⟩
                  case measure => have := HLT.out; simp [intOf]; omega
                · have q2 : Op.bytesLess x k = true := by rw [Go.Proofs.bytesLess_eq]; exact decide_eq_true hkx
                  have hnk : ¬ k ≤ x := fun hle => k_irrefl k (k_lt_of_le_of_lt hle hkx)
                  obtain ⟨v1, w1, hr1, hrow1, ht1, ho1⟩ := app_text (⟨x.toArray⟩) 29 (l := l) hr (by omega)
                  have HF : Hid (insS k (l, false) x = (l ++ [x], false)) := Lib.hid (by simp [insS, hxk, hnk])
                  have HROW : Hid (RowIs w1 1 v1 (l ++ [x]).length (strs (l ++ [x]))) := Lib.hid hrow1
                  have HO1 : Hid (∀ b, v1.ownBlock = some b → wo.heap.size ≤ b) := Lib.hid (fun b e => (ho1 b e).elim (fun e => ho b e) (fun e => by have := hb.size; omega))
                  have HB1 : Hid (Below wo.heap.size wo w1) := Lib.hid (hb.trans (ht1.below (fun b e => ho b e) hb.size))
                  clear hxk hr ho hb hlb hll hrow1 ht1 ho1 hkx hnk
                  go_wp2_with (at_builtin; refine wpList_app_run rfl _ _ _ _ rfl rfl rfl hr1 ?_)
                  go_roundw
                  case rel => exact ⟨i + 1, HLT.out, by go_num, by rw [HST.out, HF.out]; exact HROW.out, by rw [HST.out, HF.out], HO1.out, HB1.out⟩
                  case measure => have := HLT.out; simp [intOf]; omega
          · obtain rfl : i = set.length := by omega
            rw [hlb]
            rw [List.take_length] at hlb
            have HW : Hid (insW k set = (l, b)) := Lib.hid hlb
            have HR2 := Lib.hid hr
            have HO2 := Lib.hid ho
            have HB2 := Lib.hid hb
            clear hr ho hb hlb hlt hi9
            go_wp2_with fail
            go_meet
            exact ⟨by rw [HW.out]; exact HR2.out, by rw [HW.out], fun b e => Nat.le_trans HB.out.size (HO2.out b e), HB.out.trans (HB2.out.mono HB.out.size)⟩
      case rest =>
        obtain ⟨hr, rfl, ho, hb⟩ := hcut
        obtain ⟨l, b, hlb⟩ : ∃ l b, insW k set = (l, b) := ⟨_, _, rfl⟩
        have hsum := insW_len k set [] false
        have hsum : (insW k set).1.length + pen (insW k set).2 ≤ 0 + 1 + set.length := hsum
        have hst := take_ins HX.out
        rw [← HSET.out] at hst
        rw [hlb] at hr hsum ⊢
        have hsum : l.length + pen b ≤ 0 + 1 + set.length := hsum
        have HB2 := Lib.hid hb
        have HO2 := Lib.hid ho
        have HR2 := Lib.hid hr
        cases b with
        | true =>
          have HF : Hid ((keys.take (j + 1)).foldl insP [] = l) := Lib.hid (by rw [hst]; unfold insP; rw [hlb]; rfl)
          clear hr ho hb hlb hsum hst
          go_wp2_with fail
          go_roundw
          case rel => exact ⟨j + 1, HLT.out, by go_num, by rw [HF.out]; exact HR2.out, HO2.out, HB2.out⟩
          case measure => have := HLT.out; simp [intOf]; omega
        | false =>
          obtain ⟨v1, w1, hr1, hrow1, ht1, ho1⟩ := app_text (⟨k.toArray⟩) 29 (l := l) hr (by omega)
          have HF : Hid ((keys.take (j + 1)).foldl insP [] = l ++ [k]) := Lib.hid (by rw [hst]; unfold insP; rw [hlb]; rfl)
          have HROW : Hid (RowIs w1 1 v1 (l ++ [k]).length (strs (l ++ [k]))) := Lib.hid hrow1
          have HO1 : Hid (∀ b, v1.ownBlock = some b → w.heap.size ≤ b) := Lib.hid (fun b e => (ho1 b e).elim (fun e => ho b e) (fun e => by have := hb.size; omega))
          have HB1 : Hid (Below w.heap.size w w1) := Lib.hid (hb.trans (ht1.below (fun b e => ho b e) hb.size))
          clear hr ho hb hlb hsum hst hrow1 ht1 ho1
          go_wp2_with (at_builtin; refine wpList_app_run rfl _ _ _ _ rfl rfl rfl hr1 ?_)
          go_roundw
          case rel => exact ⟨j + 1, HLT.out, by go_num, by rw [HF.out]; exact HROW.out, HO1.out, HB1.out⟩
          case measure => have := HLT.out; simp [intOf]; omega
    · obtain rfl : j = keys.length := by omega
      obtain ⟨Au, cu, rfl, hu1, hu2, _⟩ := id HH0.out.row.form
      have hra := HH0.out.below hb
      have hone : ∀ u ∈ us, u.oneCell' = true := fun x hx => by
        obtain ⟨i, hi⟩ := List.getElem?_of_mem hx
        have hil := (List.getElem?_eq_some_iff.1 hi).1
        rw [HH0.out.len] at hil
        obtain ⟨y, hy, hry, _⟩ := HH0.out.each i _ (List.getElem?_eq_getElem hil)
        rw [hi] at hy
        obtain rfl := Option.some.inj hy
        obtain ⟨_, _, rfl, _⟩ := id hry.form
        rfl
      obtain ⟨A1, c1, w1, A2, c2, w2, hr1, hr2, hrow2, hown2, hbw1, hbw2⟩ := ref_app (As := As) (m := set.length) (cs := cs) hra.row hone hA
      have e1 : set = setP keys := by rw [hset, List.take_length]; rfl
      have hra2 := hra.below hbw2
      have hB2 := hb.trans (hbw2.mono hb.size)
      have kr : w2.cell? ⟨r, 0, none⟩ = some (.slice Au A.length cu) := cell_of hra2.head 0
      have kz : w2.frozen? ⟨r, 0, none⟩ = false := free0 hra2.head 0
      have kq : (w2.setCell ⟨r, 0, none⟩ (.slice A2 (A.length + 1) c2)).cell? ⟨r, 0, none⟩ = some (.slice A2 (A.length + 1) c2) := by
        rw [cell_of (set_at hra2.head 0 _) 0]; rfl
      have hrl : r < w.heap.size := heap_lt HH0.out.head
      have ht : Touch (fun k => k = r) w2 (w2.setCell ⟨r, 0, none⟩ (.slice A2 (A.length + 1) c2)) := Touch.setCell (S := fun k => k = r) (Touch.refl _ w2) ⟨r, 0, none⟩ (fun _ => rfl) (.slice A2 (A.length + 1) c2)
      have hsetrow := HR.out.below hbw2
      have hoR : ∀ k, (Value.slice As set.length cs).ownBlock = some k → k ≠ r := fun k e => by have := HO.out k e; omega
      have hsz := hb.size
      have HFIN : Hid (∃ u' us', RAt (w2.setCell ⟨r, 0, none⟩ (.slice A2 (A.length + 1) c2)) r u' F us' (A ++ [setP keys]) ∧ Touch (fun b => b = r) w (w2.setCell ⟨r, 0, none⟩ (.slice A2 (A.length + 1) c2)) ∧ (∀ b, u'.ownBlock = some b → w.heap.size ≤ b) ∧ ∀ x ∈ us', x ∈ us ∨ ∀ b, x.ownBlock = some b → w.heap.size ≤ b) := Lib.hid ⟨_, us ++ [.slice As set.length cs], ⟨(set_at hra2.head 0 _), by
            rw [List.length_append]
            exact RowIs.touch hrow2 ht (fun g e h => by have := hown2 g e; omega), fun i ks hi => by
            by_cases h9 : i < A.length
            · rw [List.getElem?_append_left h9] at hi
              obtain ⟨x, hx, hrx, hox⟩ := hra2.each i ks hi
              exact ⟨x, by rw [List.getElem?_append_left (by rw [HH0.out.len]; exact h9)]; exact hx, RowIs.touch hrx ht (fun g e h => hox (h ▸ e)), hox⟩
            · have h8 : i = A.length := by
                have := (List.getElem?_eq_some_iff.1 hi).1
                simp at this
                omega
              subst h8
              rw [List.getElem?_append_right (Nat.le_refl _), Nat.sub_self] at hi
              obtain rfl : setP keys = ks := by simpa using hi
              refine ⟨_, by rw [List.getElem?_append_right (by rw [HH0.out.len]; exact Nat.le_refl _), HH0.out.len, Nat.sub_self]; rfl, RowIs.touch (e1 ▸ hsetrow) ht (fun g e h => hoR g e h), fun e => hoR r e rfl⟩, fun e => by have := hown2 r e; omega, by rw [List.length_append, List.length_append, HH0.out.len]; rfl⟩,
          (Touch.of_below hB2).trans ht (fun _ _ e => e), (fun b e => by have := hown2 b e; omega), fun x hx => by
            rcases List.mem_append.1 hx with h9 | h9
            · exact .inl h9
            · rw [List.mem_singleton.1 h9]
              exact .inr (fun b e => HO.out b e)⟩
      have k0 : (wr.alloc (.cells #[] 29)).cell? ⟨r, 0, none⟩ = some (.slice Au A.length cu) := cell_of (hra.below (below_new _)).head 0
      have hA' : (A.length : Int) ≤ 1000 := by omega
      clear hr ho hb hlt hj hset hsl hra hone hrow2 hown2 hbw1 hbw2 hra2 hB2 ht hsetrow hoR hsz e1 hrl
      go_wp2_with (at_builtin; first | refine wpList_app_run rfl _ _ _ _ rfl rfl rfl hr1 ?_ | refine wpList_app_run rfl _ _ _ _ rfl rfl rfl hr2 ?_)
      go_ret
      exact ⟨rfl, HFIN.out⟩
end Go.Proofs.YtoidfkcecggjfaaDoor
