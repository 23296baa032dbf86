/- trie, the law's side: Cut. -/
import Derived.Test.YtpploljennbpdaaDoorZTrjA
set_option linter.unusedSimpArgs false
set_option linter.unusedVariables false
set_option linter.unnecessarySimpa false
namespace Go.Proofs.YtpploljennbpdaaDoor
open Go.RowKit Go.Shelf

theorem info24 : (Tryd.prog.info? 24).map (fun i => (i.zero, i.size, i.bytes)) = some (some (.slice none 0 0), 1, 24) := by kernel_rfl
/-- A slice is put at the end of a row of slices. -/
theorem app_sl {w : World} {v u : Value} {l : List Value} (hu : u.oneCell' = true) (ty : TypeId) (h : RowIs w 1 v l.length l) (hl : l.length ≤ 16777000) : ∃ v' w', (Builtin.append_ #[22, 22] ty #[v, .slice (some ⟨w.heap.size, 0, none⟩) 1 1]).run Tryd.prog (w.alloc (.cells #[u] 24)) = .ok v' w' ∧ RowIs w' 1 v' (l ++ [u]).length (l ++ [u]) ∧ Touch (fun k => v.ownBlock = some k) w w' ∧ (∀ k, v'.ownBlock = some k → v.ownBlock = some k ∨ w.heap.size ≤ k) := by
  have hb := below_new (w := w) (.cells #[u] 24)
  have hsrc : Src Tryd.prog 1 22 (.slice (some ⟨w.heap.size, 0, none⟩) 1 1) 1 [u] (w.alloc (.cells #[u] 24)) :=
    Src.ofSlice _ Tryd.underlying22 ⟨w.heap.size, 0, none⟩ 1 1 [u] rfl (one_new _ _ rfl _ _) (fun x hx => by rw [List.mem_singleton] at hx; subst hx; exact hu)
  obtain ⟨v', w', hr, h2, h3, h4⟩ := run_append_row (w.alloc (.cells #[u] 24)) 22 24 ty 22 Tryd.underlying22 info24 rfl (by omega) (by omega) v l.length 1 l [u] _ (h.below hb) hsrc (by omega)
  refine ⟨v', w', hr, by rw [List.length_append]; exact h2, (Touch.of_below hb).grown h3 (fun k hk _ => hk), fun k hk => ?_⟩
  rcases h4 with e | e
  · exact .inl (e ▸ hk)
  · right
    rw [e] at hk
    have := Option.some.inj hk
    rw [asz] at this
    omega
/-- A row of paths of one's own, all made since there were b0 blocks. -/
structure PRow (w : World) (b0 : Nat) (v : Value) (vs : List Value) (M : List Pth) : Prop where
  row : RowIs w 1 v vs.length vs
  own : ∀ g, v.ownBlock = some g → b0 ≤ g
  len : vs.length = M.length
  each : ∀ (i : Nat) (u : Value) (p : Pth), vs[i]? = some u → M[i]? = some p → RowIs w 1 u p.length (ints p)
  made : ∀ (i : Nat) (u : Value) (g : Nat), vs[i]? = some u → u.ownBlock = some g → b0 ≤ g ∧ v.ownBlock ≠ some g
theorem PRow.nil (w : World) (b0 : Nat) : PRow w b0 (.slice none 0 0) [] [] := ⟨RowIs.nil _ _, (fun g e => by cases e), rfl, (fun i u p h => by simp at h), fun i u g h => by simp at h⟩
theorem PRow.below {w w' : World} {b0 : Nat} {v : Value} {vs : List Value} {M : List Pth} (h : PRow w b0 v vs M) (hb : Below w.heap.size w w') : PRow w' b0 v vs M :=
  ⟨h.row.below hb, h.own, h.len, fun i u p h1 h2 => (h.each i u p h1 h2).below hb, h.made⟩
theorem snoc_split {α : Type} {l : List α} {a x : α} {i : Nat} (h : (l ++ [a])[i]? = some x) : (i < l.length ∧ l[i]? = some x) ∨ (i = l.length ∧ x = a) := by
  by_cases hi : i < l.length
  · rw [List.getElem?_append_left hi] at h
    exact .inl ⟨hi, h⟩
  · rw [List.getElem?_append_right (by omega)] at h
    have hl := (List.getElem?_eq_some_iff.1 h).1
    simp at hl
    have e : i = l.length := by omega
    subst e
    simp at h
    exact .inr ⟨rfl, h.symm⟩
theorem PRow.push {w w' : World} {b0 : Nat} {v v' u : Value} {vs : List Value} {M : List Pth} {p : Pth} (h : PRow w b0 v vs M) (h0 : b0 ≤ w.heap.size) (hu : RowIs w 1 u p.length (ints p)) (hn : ∀ g, u.ownBlock = some g → b0 ≤ g ∧ v.ownBlock ≠ some g) (hr : RowIs w' 1 v' (vs ++ [u]).length (vs ++ [u])) (ht : Touch (fun k => v.ownBlock = some k) w w') (ho : ∀ k, v'.ownBlock = some k → v.ownBlock = some k ∨ w.heap.size ≤ k) : PRow w' b0 v' (vs ++ [u]) (M ++ [p]) := by
  refine ⟨hr, fun g hg => ?_, by rw [List.length_append, List.length_append, h.len]; rfl, fun i x q hx hq => ?_, fun i x g hx hg => ?_⟩
  · rcases ho g hg with e | e
    · exact h.own g e
    · omega
  · rcases snoc_split hx with ⟨h1, h2⟩ | ⟨rfl, rfl⟩
    · rcases snoc_split hq with ⟨h3, h4⟩ | ⟨h3, h4⟩
      · exact (h.each i x q h2 h4).touch ht (fun g hg => (h.made i x g h2 hg).2)
      · have := h.len; omega
    · rcases snoc_split hq with ⟨h3, h4⟩ | ⟨h3, rfl⟩
      · have := h.len; omega
      · exact hu.touch ht (fun g hg => (hn g hg).2)
  · rcases snoc_split hx with ⟨h1, h2⟩ | ⟨rfl, rfl⟩
    · obtain ⟨k1, k2⟩ := h.made i x g h2 hg
      refine ⟨k1, fun e => ?_⟩
      rcases ho g e with e2 | e2
      · exact k2 e2
      · have hl : i < M.length := by rw [← h.len]; exact h1
        have := (h.each i x _ h2 (List.getElem?_eq_getElem hl)).lt g hg
        omega
    · obtain ⟨k1, k2⟩ := hn g hg
      refine ⟨k1, fun e => ?_⟩
      rcases ho g e with e2 | e2
      · exact k2 e2
      · have := hu.lt g hg; omega
theorem PRow.is {w : World} {b0 : Nat} {v : Value} {vs : List Value} {M : List Pth} (h : PRow w b0 v vs M) : PsIs w v M := by
  obtain ⟨A, cap, rfl, h1, h2, _, hA, hc⟩ := h.row.form
  rw [h.len]
  refine ⟨A, cap, rfl, by rw [← h.len]; exact h1, h2, fun i p hp => ?_⟩
  have hl : i < vs.length := by rw [h.len]; exact (List.getElem?_eq_some_iff.1 hp).1
  obtain ⟨g, rfl, hk⟩ := hc i _ (List.getElem?_eq_getElem hl)
  exact ⟨⟨g, 0, none⟩, _, rfl, heap_lt' hk, by rw [add0]; exact hk, (h.each i _ p (List.getElem?_eq_getElem hl) hp).sis⟩
def cutP (L : List Pth) : List Pth := (L.take 10).map (List.take 10)
theorem cut_len (L : List Pth) : (cutP L).length ≤ 10 := by unfold cutP; rw [List.length_map, List.length_take]; omega
theorem cut_short {L : List Pth} {p : Pth} (h : p ∈ cutP L) : p.length ≤ 10 := by
  unfold cutP at h
  obtain ⟨q, _, rfl⟩ := List.mem_map.1 h
  rw [List.length_take]; omega
theorem cut_snoc {L : List Pth} {k : Nat} {p : Pth} (hk : k < 10) (hx : L[k]? = some p) : cutP (L.take (k + 1)) = cutP (L.take k) ++ [p.take 10] := by
  unfold cutP
  rw [List.take_take, List.take_take, Nat.min_eq_right (by omega), Nat.min_eq_right (by omega), List.take_add_one, hx, List.map_append]
  rfl
theorem cut_all {L : List Pth} {k : Nat} (h : k = L.length ∨ 10 ≤ k) : cutP (L.take k) = cutP L := by
  unfold cutP
  rcases h with rfl | h
  · rw [List.take_length]
  · rw [List.take_take, Nat.min_eq_left h]
theorem ten_snoc {p : Pth} {j : Nat} {x : Int} (hj : j < 10) (hx : p[j]? = some x) : (p.take (j + 1)).take 10 = (p.take j).take 10 ++ [x] := by
  rw [List.take_take, List.take_take, Nat.min_eq_right (by omega), Nat.min_eq_right (by omega), List.take_add_one, hx]
  rfl
theorem ten_stay {p : Pth} {j : Nat} (hj : 10 ≤ j) : (p.take (j + 1)).take 10 = (p.take j).take 10 := by
  rw [List.take_take, List.take_take, Nat.min_eq_left (by omega), Nat.min_eq_left hj]
/-- What Cut answers. -/
def CutP (L : List Pth) (w : World) (e : Ending) (w' : World) : Prop := ∃ v vs, e = .returned v ∧ PRow w' w.heap.size v vs (cutP L) ∧ Below w.heap.size w w'
theorem row_one {w : World} {u : Value} {n : Nat} {l : List Value} (h : RowIs w 1 u n l) : u.oneCell' = true := by
  rcases h with ⟨rfl, _⟩ | ⟨g, c, rfl, _⟩ <;> rfl
set_option maxRecDepth 100000 in
set_option maxHeartbeats 4000000 in
theorem Cut_any {w : World} {v : Value} {L : List Pth} (h : PsIs w v L) : Calls Tryd.prog 6 #[v] w (CutP L w) := by
  obtain ⟨A, cap, rfl, hc1, hc2⟩ := h.form
  unfold maxLen at hc2
  have HH := Lib.hid h
  clear h
  go_enter Tryd.func6, Tryd.ntmps6
  go_wp2_with fail
  go_loopw [3, 11] (fun ov iv wr => ∃ (k : Nat) (vs : List Value), k ≤ L.length ∧ k ≤ 10 ∧ iv = .int .i64 k ∧ PRow wr w.heap.size ov vs (cutP (L.take k)) ∧ Below w.heap.size w wr) (fun _ iv _ => L.length - (intOf iv).toNat)
  case atStart => exact ⟨0, [], Nat.zero_le _, by omega, rfl, by rw [List.take_zero]; exact PRow.nil _ _, Below.refl _ _⟩
  case round =>
    obtain ⟨k, vs, hk, hk10, rfl, hpr, hbw⟩ := hrel
    obtain ⟨ww, rfl⟩ : ∃ ww, ww = wr := ⟨_, rfl⟩
    have HPR := Lib.hid hpr
    have HBW := Lib.hid hbw
    have hkI : (k : Int) ≤ 10 := by omega
    by_cases hlt : k < L.length
    · have hx : L[k]? = some L[k] := List.getElem?_eq_getElem hlt
      generalize L[k] = p at hx
      have hlI : (k : Int) < (L.length : Int) := by omega
      obtain ⟨a, pv, rfl, _, kc, hps⟩ := (HH.out.below hbw).at hx
      obtain ⟨pA, pcap, rfl, hp1, hp2⟩ := hps.form
      unfold maxLen at hp2
      have HPS := Lib.hid hps
      by_cases h10 : k < 10
      · have hge : ¬ (10 : Int) ≤ (k : Int) := by omega
        have HLT := Lib.hid hlt
        have HX := Lib.hid hx
        have H10 := Lib.hid h10
        clear hpr hbw hk hk10 hlt hx hps h10
        go_wp2_with fail
        go_loopw [6, 20] (fun lv jv w2 => ∃ j : Nat, j ≤ p.length ∧ jv = .int .i64 j ∧ RowIs w2 1 lv ((p.take j).take 10).length (ints ((p.take j).take 10)) ∧ (∀ g, lv.ownBlock = some g → ww.heap.size ≤ g) ∧ Below ww.heap.size ww w2) (fun _ jv _ => p.length - (intOf jv).toNat)
        case atStart => exact ⟨0, Nat.zero_le _, rfl, RowIs.nil _ _, (fun g e => by cases e), Below.refl _ _⟩
        case round =>
          obtain ⟨j, hj, rfl, hrow, hown, hb2⟩ := hrel
          have HROW := Lib.hid hrow
          have HOWN := Lib.hid hown
          have HB2 := Lib.hid hb2
          by_cases hjl : j < p.length
          · have hy : p[j]? = some p[j] := List.getElem?_eq_getElem hjl
            generalize p[j] = y at hy
            obtain ⟨b, rfl, _, ky⟩ := (HPS.out.below hb2).at hy
            have hjI : (j : Int) < (p.length : Int) := by omega
            have HJL := Lib.hid hjl
            by_cases hj10 : j < 10
            · have hj10I : (j : Int) < 10 := by omega
              obtain ⟨lv', w3, hrun, hr3, ht3, ho3⟩ := app_int y 24 hrow (by rw [List.length_take]; omega)
              rw [← ten_snoc hj10 hy] at hr3
              have HR3 := Lib.hid hr3
              have HO3 : Hid (∀ g, lv'.ownBlock = some g → ww.heap.size ≤ g) := Lib.hid (fun g hg => by
                rcases ho3 g hg with e | e
                · exact hown g e
                · have := hb2.size; omega)
              have HB3 := Lib.hid (hb2.trans (ht3.below (fun i hi => hown i hi) hb2.size))
              clear hrow hown hb2 hj hjl hy hj10 hr3 ht3 ho3
              go_wp2_with (at_builtin; refine wpList_app_run rfl _ _ _ _ rfl rfl rfl hrun ?_)
              go_roundw
              case rel => exact ⟨j + 1, HJL.out, by go_num, HR3.out, HO3.out, HB3.out⟩
              case measure => have := HJL.out; simp [intOf]; omega
            · have hj10I : ¬ (j : Int) < 10 := by omega
              have HS : Hid ((p.take (j + 1)).take 10 = (p.take j).take 10) := Lib.hid (ten_stay (by omega))
              clear hrow hown hb2 hj hjl hy hj10
              go_wp2_with fail
              go_roundw
              case rel => exact ⟨j + 1, HJL.out, by go_num, by rw [HS.out]; exact HROW.out, HOWN.out, HB2.out⟩
              case measure => have := HJL.out; simp [intOf]; omega
          · obtain rfl : j = p.length := by omega
            rw [List.take_length] at hrow
            obtain ⟨lA, ln, lc, rfl⟩ : ∃ A n c, u6 = .slice A n c := by
              obtain ⟨A, c, e, _⟩ := hrow.form
              exact ⟨A, _, c, e⟩
            have hn : ¬ (p.length : Int) < (p.length : Int) := by omega
            have hpr2 := HPR.out.below hb2
            have hw2 : w.heap.size ≤ wr.heap.size := by have := HBW.out.size; have := hb2.size; omega
            obtain ⟨ov', w4, hrun, hr4, ht4, ho4⟩ := app_sl (row_one hrow) 22 hpr2.row (by rw [hpr2.len]; have := cut_len (L.take k); omega)
            have hown2 := hpr2.own
            have hpush := hpr2.push hw2 hrow (fun g hg => ⟨by have := hown g hg; have := HBW.out.size; omega, fun e => by have := hown g hg; have := HPR.out.row.lt g e; omega⟩) hr4 ht4 ho4
            rw [← cut_snoc H10.out HX.out] at hpush
            have HPU := Lib.hid hpush
            have HB4 := Lib.hid (HBW.out.trans ((hb2.mono HBW.out.size).trans (ht4.below (fun i hi => hown2 i hi) hw2)))
            clear hrow hown hb2 hj hjl hpr2 hw2 hr4 ht4 ho4 hown2 hpush
            go_wp2_with (at_builtin; refine wpList_app_run rfl _ _ _ _ rfl rfl rfl hrun ?_)
            go_roundw
            case rel => exact ⟨k + 1, _, HLT.out, H10.out, by go_num, HPU.out, HB4.out⟩
            case measure => have := HLT.out; simp [intOf]; omega
      · have hge : (10 : Int) ≤ (k : Int) := by omega
        have HA : Hid (cutP (L.take k) = cutP L) := Lib.hid (cut_all (.inr (by omega)))
        clear hpr hbw hk hk10 hlt hx hps h10
        go_wp2_with fail
        refine bodyPost_ret (v := u3) (by simp [results, Tryd.results6, go_sem]) rfl ⟨u3, vs, rfl, by rw [← HA.out]; exact HPR.out, HBW.out⟩
    · obtain rfl : k = L.length := by omega
      have HA : Hid (cutP (L.take L.length) = cutP L) := Lib.hid (cut_all (.inl rfl))
      have hn : ¬ (L.length : Int) < (L.length : Int) := by omega
      clear hpr hbw hk hk10 hlt
      go_wp2_with fail
      refine bodyPost_ret (v := u3) (by simp [results, Tryd.results6, go_sem]) rfl ⟨u3, vs, rfl, by rw [← HA.out]; exact HPR.out, HBW.out⟩
end Go.Proofs.YtpploljennbpdaaDoor
