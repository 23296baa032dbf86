/- The reference's Prune, in plain words and in memory. -/
import Derived.Test.YtmaokoekbjjgfaaDoorZChdE
import Derived.Test.YtmaokoekbjjgfaaDoorZChbG
set_option linter.unusedSimpArgs false
set_option linter.unusedVariables false
set_option linter.unnecessarySimpa false
namespace Go.Proofs.YtmaokoekbjjgfaaDoor
open Go.RowKit Go.Shelf

/-- No version ahead of the beginning. -/
def PosOk (L : List Ver) : Prop := ∀ u ∈ L, 0 ≤ u.at_
def lowV (t : Int) (u : Ver) : Bool := !u.opn && decide (u.at_ < t)
theorem lastP_of (t : Int) : ∀ (L : List Ver), (lastP t L = 0 ∧ ∀ u ∈ L, lowV t u = false) ∨ ∃ (i : Nat) (u : Ver), L[i]? = some u ∧ lowV t u = true ∧ lastP t L = u.at_ ∧ ∀ (j : Nat) (v : Ver), i < j → L[j]? = some v → lowV t v = false := by
  intro L
  have key : ∀ k, k ≤ L.length → (lastP t (L.take k) = 0 ∧ ∀ u ∈ L.take k, lowV t u = false) ∨ ∃ (i : Nat) (u : Ver), (L.take k)[i]? = some u ∧ lowV t u = true ∧ lastP t (L.take k) = u.at_ ∧ ∀ (j : Nat) (v : Ver), i < j → (L.take k)[j]? = some v → lowV t v = false := by
    intro k
    induction k with
    | zero => intro _; left; exact ⟨rfl, fun u hu => by simp at hu⟩
    | succ k ih =>
      intro hk
      have hx : L[k]? = some L[k] := List.getElem?_eq_getElem (by omega)
      generalize L[k] = y at hx
      have e : L.take (k + 1) = L.take k ++ [y] := by rw [List.take_add_one, hx]; rfl
      rw [e, lastP_snoc]
      by_cases hy : lowV t y = true
      · right
        have hy2 : y.opn = false ∧ y.at_ < t := by unfold lowV at hy; simpa using hy
        refine ⟨k, y, ?_, hy, by rw [if_pos hy2], fun j v hj hv => ?_⟩
        · rw [List.getElem?_append_right (by rw [List.length_take]; omega), List.length_take]
          simp [Nat.min_eq_left (show k ≤ L.length by omega)]
        · have := (List.getElem?_eq_some_iff.1 hv).1
          rw [List.length_append, List.length_take] at this
          simp at this
          omega
      · have hy0 : lowV t y = false := by simpa using hy
        have hy2 : ¬ (y.opn = false ∧ y.at_ < t) := by unfold lowV at hy; simpa using hy
        rw [if_neg hy2]
        rcases ih (by omega) with ⟨h1, h2⟩ | ⟨i, u, h1, h2, h3, h4⟩
        · left
          refine ⟨h1, fun u hu => ?_⟩
          rcases List.mem_append.1 hu with hu | hu
          · exact h2 u hu
          · obtain rfl := List.mem_singleton.1 hu; exact hy0
        · right
          have hil := (List.getElem?_eq_some_iff.1 h1).1
          refine ⟨i, u, by rw [List.getElem?_append_left hil]; exact h1, h2, h3, fun j v hj hv => ?_⟩
          by_cases hjl : j < (L.take k).length
          · rw [List.getElem?_append_left hjl] at hv
            exact h4 j v hj hv
          · rw [List.getElem?_append_right (by omega)] at hv
            have h9 : j - (L.take k).length < 1 := (List.getElem?_eq_some_iff.1 hv).1
            rw [show j - (L.take k).length = 0 from by omega] at hv
            simp at hv
            rw [← hv]
            exact hy0
  have := key L.length (Nat.le_refl _)
  rwa [List.take_length] at this
/-- What stands behind: one that is not open, and lies below. -/
def laterP (L : List Ver) (k : Nat) (t : Int) : Bool := (L.drop (k + 1)).any (lowV t)
theorem gone_eq {L : List Ver} (hR : Ris L) (hP : PosOk L) {t : Int} {k : Nat} {v : Ver} (hv : L[k]? = some v) : goneV (lastP t L) v = (!v.opn && decide (v.at_ < t) && laterP L k t) := by
  have hmem := List.mem_of_getElem? hv
  have hpos := hP v hmem
  unfold goneV
  cases ho : v.opn with
  | true => rfl
  | false =>
    simp only [Bool.not_false, Bool.true_and]
    rcases lastP_of t L with ⟨h1, h2⟩ | ⟨i, u, h1, h2, h3, h4⟩
    · rw [h1, decide_eq_false (by omega)]
      have := h2 v hmem
      unfold lowV at this
      rw [ho] at this
      simp at this
      rw [decide_eq_false (by omega)]
      rfl
    · rw [h3]
      have hu2 : u.opn = false ∧ u.at_ < t := by unfold lowV at h2; simpa using h2
      by_cases e : v.at_ < u.at_
      · rw [decide_eq_true e, decide_eq_true (by omega)]
        have hki : k < i := by
          rcases Nat.lt_or_ge k i with h | h
          · exact h
          · have := hR.le h1 hv h; omega
        have : laterP L k t = true := by
          unfold laterP
          rw [List.any_eq_true]
          refine ⟨u, ?_, h2⟩
          refine List.mem_of_getElem? (i := i - (k + 1)) ?_
          rw [List.getElem?_drop, show k + 1 + (i - (k + 1)) = i from by omega]
          exact h1
        rw [this]
        rfl
      · rw [decide_eq_false e]
        have : laterP L k t = false := by
          unfold laterP
          rw [List.any_eq_false]
          intro x hx
          obtain ⟨j, hj⟩ := List.mem_iff_getElem?.1 hx
          rw [List.getElem?_drop] at hj
          have hik : i ≤ k := by
            rcases Nat.lt_or_ge k i with h | h
            · have h5 := hR.le hv h1 (by omega)
              have h6 := hR.idx hv h1 (by omega)
              omega
            · exact h
          have := h4 _ x (by omega) hj
          simp [this]
        rw [this]
        simp
theorem keep_at {L : List Ver} (hR : Ris L) (hP : PosOk L) {t : Int} {k : Nat} {v : Ver} (hv : L[k]? = some v) : keepV (lastP t L) (L.take (k + 1)) = if (!v.opn && decide (v.at_ < t) && laterP L k t) = true then keepV (lastP t L) (L.take k) else keepV (lastP t L) (L.take k) ++ [v] := by
  rw [keepV_snoc hv, gone_eq hR hP hv]
  split <;> simp
theorem app_ver {w : World} {v : Value} {l : List Ver} (y : Ver) (ty : TypeId) {b : Nat} {T : TypeId} (h : RowIs w 5 v l.length (verC l)) (hl : l.length ≤ 1000000) (hb : w.heap[b]? = some (.cells (verA y) T (0, 0))) : ∃ v' w', (Builtin.append_ #[60, 60] ty #[v, .slice (some ⟨b, 0, none⟩) 1 1]).run Tryd.prog w = .ok v' w' ∧ RowIs w' 5 v' (l ++ [y]).length (verC (l ++ [y])) ∧ Touch (fun k => v.ownBlock = some k) w w' ∧ (∀ k, v'.ownBlock = some k → v.ownBlock = some k ∨ w.heap.size ≤ k) := by
  obtain ⟨v', w', hr, h2, h3, h4⟩ := run_append_row w 60 59 ty 60 Tryd.underlying60 infoR rfl (by omega) (by omega) v l.length 1 (verC l) (verC [y]) _ h (src_one hb) (by omega)
  refine ⟨v', w', hr, by rw [List.length_append, verC_app]; exact h2, (Touch.refl _ w).grown h3 (fun k hk _ => hk), fun k hk => ?_⟩
  rcases h4 with e | e
  · exact .inl (e ▸ hk)
  · right
    rw [e] at hk
    have := Option.some.inj hk
    omega
theorem any_at {L : List Ver} {j : Nat} {y : Ver} (t : Int) (h : L[j]? = some y) : (L.take (j + 1)).any (lowV t) = ((L.take j).any (lowV t) || lowV t y) := by
  rw [List.take_add_one, h, List.any_append]
  simp
set_option maxRecDepth 100000 in
set_option maxHeartbeats 16000000 in
theorem rprune_any {w : World} {r : Nat} {v : Value} {L : List Ver} {t : Int} (h : RAt w r v L) (hR : Ris L) (hP : PosOk L) (hl : L.length ≤ 1000000) :
    Calls Tryd.prog 28 #[.pointer (some ⟨r, 0, none⟩), .int .i64 t] w fun e w' => e = .returned (.int .i64 ((L.length : Int) - ((pruneP L t).length : Int))) ∧ RPost w r v (pruneP L t) w' := by
  obtain ⟨A, cap, rfl, h1, h2, _⟩ := id (RowIs.form h.row)
  unfold maxLen at h2
  have kr : w.cell? ⟨r, 0, none⟩ = some (.slice A L.length cap) := cell_of h.head 0
  have hrl := heap_lt h.head
  have hlI : (L.length : Int) ≤ 1000000 := by omega
  have HH := Lib.hid h
  have HRI := Lib.hid hR
  have HPO := Lib.hid hP
  have HL := Lib.hid hl
  obtain ⟨lst, hlst⟩ : ∃ lst, lst = lastP t L := ⟨_, rfl⟩
  have HLS := Lib.hid hlst
  clear h hR hP hlst
  go_enter Tryd.func28, Tryd.ntmps28
  go_wp2_with fail
  go_loopw [5, 17] (fun ov iv wr => ∃ k : Nat, k ≤ L.length ∧ iv = .int .i64 k ∧ RowIs wr 5 ov (keepV lst (L.take k)).length (verC (keepV lst (L.take k))) ∧ (∀ b, ov.ownBlock = some b → w.heap.size ≤ b) ∧ Below w.heap.size w wr) (fun _ iv _ => L.length - (intOf iv).toNat)
  case atStart => exact ⟨0, Nat.zero_le _, rfl, RowIs.nil _ _, (fun b e => by cases e), Below.refl _ _⟩
  case round =>
    obtain ⟨k, hk, rfl, hrow, hown, hb⟩ := hrel
    obtain ⟨wo, rfl⟩ : ∃ wo, wo = wr := ⟨_, rfl⟩
    have HB := Lib.hid hb
    have HROW := Lib.hid hrow
    have HOWN := Lib.hid hown
    by_cases hlt : k < L.length
    · have hx : L[k]? = some L[k] := List.getElem?_eq_getElem hlt
      generalize L[k] = y at hx
      have HX := Lib.hid hx
      obtain ⟨g, cap', ev, hc1, hc2, _, c0, c1, c2, c3, c4⟩ := (HH.out.row.below hb).ver hx
      injection ev with ev _ ev3
      subst ev ev3
      have HLT := Lib.hid hlt
      have hi : (k : Int) < (L.length : Int) := by omega
      have hkc : k + 1 ≤ cap := by omega
      obtain ⟨ua, un, ut, ur, uo⟩ := y
      simp only at c0 c1 c2 c3 c4
      have hbn := below_new (w := wo) (.cells #[.int .i64 ua, .int .i64 un, .bool ut, .int .i64 ur, .bool uo] 59)
      have HB1 := Lib.hid (HB.out.trans (hbn.mono HB.out.size))
      have kr1 : (wo.alloc (.cells #[.int .i64 ua, .int .i64 un, .bool ut, .int .i64 ur, .bool uo] 59)).cell? ⟨r, 0, none⟩ = some (.slice (some ⟨g, 0, none⟩) L.length cap) := (HB1.out.cell (p := ⟨r, 0, none⟩) hrl).trans kr
      have HR1 := Lib.hid (HH.out.row.below HB1.out)
      have HROW1 := Lib.hid (HROW.out.below hbn)
      have HAT := Lib.hid (alloc_at wo (.cells #[.int .i64 ua, .int .i64 un, .bool ut, .int .i64 ur, .bool uo] 59))
      obtain ⟨W1, hW1⟩ : ∃ W1, W1 = wo.alloc (.cells #[.int .i64 ua, .int .i64 un, .bool ut, .int .i64 ur, .bool uo] 59) := ⟨_, rfl⟩
      rw [← hW1] at HB1 HR1 HROW1 HAT
      have HW1 := Lib.hid hW1
      clear hbn hx hrow hown hb hk hlt hW1
      by_cases hcap : cap = k + 1
      · have HCAP := Lib.hid hcap
        have hcapT : (cap = k + 1) = True := eq_true hcap
        clear hcap
        go_wp2_with fail
        rw [← HW1.out]
        go_loopw [8, 30] (fun lv jv wx => ∃ j : Nat, j ≤ L.length - (k + 1) ∧ jv = .int .i64 j ∧ lv = .bool (((L.drop (k + 1)).take j).any (lowV t)) ∧ Below W1.heap.size W1 wx) (fun _ jv _ => L.length - (intOf jv).toNat)
        case atStart => exact ⟨0, Nat.zero_le _, rfl, rfl, Below.refl _ _⟩
        case round =>
          obtain ⟨j, hj, rfl, rfl, hbx⟩ := hrel
          by_cases hjl : j < L.length - (k + 1)
          · exact absurd hjl (by have := HCAP.out; omega)
          · have hje : (L.drop (k + 1)).take j = L.drop (k + 1) := List.take_of_length_le (by rw [List.length_drop]; omega)
            have hla : ((L.drop (k + 1)).take j).any (lowV t) = laterP L k t := by rw [hje]; rfl
            rw [hla]
            have hjn : ¬ (j : Int) < ((L.length - (k + 1) : Nat) : Int) := by omega
            have hjn2 : ¬ (j : Int) < (L.length : Int) - ((k : Int) + 1) := by omega
            have hbox := (hbx.block _ (heap_lt HAT.out)).trans HAT.out
            have b0 := cell_of hbox 0
            have b1 := cell_of hbox 1
            have b2 := cell_of hbox 2
            have b3 := cell_of hbox 3
            have b4 := cell_of hbox 4
            simp at b0 b1 b2 b3 b4
            have HBX := Lib.hid (HB1.out.trans (hbx.mono HB1.out.size))
            have HROWX := Lib.hid (HROW1.out.below hbx)
            obtain ⟨lat, hlat⟩ : ∃ lat, lat = laterP L k t := ⟨_, rfl⟩
            rw [← hlat]
            have HLAT := Lib.hid hlat
            clear hje hla hbox hbx hjl hlat hj
            by_cases hg : (!uo && decide (ua < t) && lat) = true
            · have hgs : uo = false ∧ ua < t ∧ lat = true := by simpa [and_assoc] using hg
              obtain ⟨rfl, hut, rfl⟩ := hgs
              have HKN : Hid (keepV lst (L.take (k + 1)) = keepV lst (L.take k)) := Lib.hid (by rw [HLS.out, keep_at HRI.out HPO.out HX.out, if_pos (by rw [← HLAT.out]; exact hg)])
              have hut2 : ¬ t ≤ ua := by omega
              clear hg
              go_wp2_with fail
              go_roundw
              case rel => exact ⟨k + 1, HLT.out, by go_num, by rw [HKN.out]; exact HROWX.out, HOWN.out, HBX.out⟩
              case measure => have := HLT.out; simp [intOf]; omega
            · rw [HLAT.out] at hg
              cases uo with
              | true =>
                
                have HKN : Hid (keepV lst (L.take (k + 1)) = keepV lst (L.take k) ++ [⟨ua, un, ut, ur, true⟩]) := Lib.hid (by rw [HLS.out, keep_at HRI.out HPO.out HX.out, if_neg (by simp only [Bool.not_true, Bool.false_and]; simpa using hg)])
                obtain ⟨v5, w5, hr5, hv5, ht5, ho5⟩ := app_ver ⟨ua, un, ut, ur, true⟩ 60 (HROWX.out.below (below_new (.cells #[.int .i64 ua, .int .i64 un, .bool ut, .int .i64 ur, .bool true] 59))) (Nat.le_trans (keepV_len _ _) (by rw [List.length_take]; have := HL.out; omega)) (alloc_at wr _)
                have hbn := HBX.out.trans ((below_new (w := wr) (.cells #[.int .i64 ua, .int .i64 un, .bool ut, .int .i64 ur, .bool true] 59)).mono HBX.out.size)
                have HBF := Lib.hid (hbn.trans (ht5.below (fun i e => HOWN.out i e) hbn.size))
                have HR5 := Lib.hid hr5
                have HV5 : Hid (RowIs w5 5 v5 (keepV lst (L.take (k + 1))).length (verC (keepV lst (L.take (k + 1))))) := Lib.hid (by rw [HKN.out]; exact hv5)
                have HO5 : Hid (∀ b, v5.ownBlock = some b → w.heap.size ≤ b) := Lib.hid (fun b e => by
                  rcases ho5 b e with e2 | e2
                  · exact HOWN.out b e2
                  · have := hbn.size; omega)
                clear hv5 ht5 ho5 hr5 hbn hg
                go_wp2_with (at_builtin; refine wpList_app_run rfl _ _ _ _ rfl rfl rfl HR5.out ?_)
                go_roundw
                case rel => exact ⟨k + 1, HLT.out, by go_num, HV5.out, HO5.out, HBF.out⟩
                case measure => have := HLT.out; simp [intOf]; omega
              | false =>
                by_cases hut : ua < t
                · have hlf : lat = false := by
                    rw [HLAT.out]
                    cases h : laterP L k t
                    · rfl
                    · exact (hg (by rw [h, decide_eq_true hut]; rfl)).elim
                  subst hlf
                  have hut2 : ¬ t ≤ ua := by omega
                  
                  have HKN : Hid (keepV lst (L.take (k + 1)) = keepV lst (L.take k) ++ [⟨ua, un, ut, ur, false⟩]) := Lib.hid (by rw [HLS.out, keep_at HRI.out HPO.out HX.out, if_neg (by exact hg)])
                  obtain ⟨v5, w5, hr5, hv5, ht5, ho5⟩ := app_ver ⟨ua, un, ut, ur, false⟩ 60 (HROWX.out.below (below_new (.cells #[.int .i64 ua, .int .i64 un, .bool ut, .int .i64 ur, .bool false] 59))) (Nat.le_trans (keepV_len _ _) (by rw [List.length_take]; have := HL.out; omega)) (alloc_at wr _)
                  have hbn := HBX.out.trans ((below_new (w := wr) (.cells #[.int .i64 ua, .int .i64 un, .bool ut, .int .i64 ur, .bool false] 59)).mono HBX.out.size)
                  have HBF := Lib.hid (hbn.trans (ht5.below (fun i e => HOWN.out i e) hbn.size))
                  have HR5 := Lib.hid hr5
                  have HV5 : Hid (RowIs w5 5 v5 (keepV lst (L.take (k + 1))).length (verC (keepV lst (L.take (k + 1))))) := Lib.hid (by rw [HKN.out]; exact hv5)
                  have HO5 : Hid (∀ b, v5.ownBlock = some b → w.heap.size ≤ b) := Lib.hid (fun b e => by
                    rcases ho5 b e with e2 | e2
                    · exact HOWN.out b e2
                    · have := hbn.size; omega)
                  clear hv5 ht5 ho5 hr5 hbn hg
                  go_wp2_with (at_builtin; refine wpList_app_run rfl _ _ _ _ rfl rfl rfl HR5.out ?_)
                  go_roundw
                  case rel => exact ⟨k + 1, HLT.out, by go_num, HV5.out, HO5.out, HBF.out⟩
                  case measure => have := HLT.out; simp [intOf]; omega
                · have hut2 : t ≤ ua := by omega
                  
                  have HKN : Hid (keepV lst (L.take (k + 1)) = keepV lst (L.take k) ++ [⟨ua, un, ut, ur, false⟩]) := Lib.hid (by rw [HLS.out, keep_at HRI.out HPO.out HX.out, if_neg (by exact hg)])
                  obtain ⟨v5, w5, hr5, hv5, ht5, ho5⟩ := app_ver ⟨ua, un, ut, ur, false⟩ 60 (HROWX.out.below (below_new (.cells #[.int .i64 ua, .int .i64 un, .bool ut, .int .i64 ur, .bool false] 59))) (Nat.le_trans (keepV_len _ _) (by rw [List.length_take]; have := HL.out; omega)) (alloc_at wr _)
                  have hbn := HBX.out.trans ((below_new (w := wr) (.cells #[.int .i64 ua, .int .i64 un, .bool ut, .int .i64 ur, .bool false] 59)).mono HBX.out.size)
                  have HBF := Lib.hid (hbn.trans (ht5.below (fun i e => HOWN.out i e) hbn.size))
                  have HR5 := Lib.hid hr5
                  have HV5 : Hid (RowIs w5 5 v5 (keepV lst (L.take (k + 1))).length (verC (keepV lst (L.take (k + 1))))) := Lib.hid (by rw [HKN.out]; exact hv5)
                  have HO5 : Hid (∀ b, v5.ownBlock = some b → w.heap.size ≤ b) := Lib.hid (fun b e => by
                    rcases ho5 b e with e2 | e2
                    · exact HOWN.out b e2
                    · have := hbn.size; omega)
                  clear hv5 ht5 ho5 hr5 hbn hg
                  go_wp2_with (at_builtin; refine wpList_app_run rfl _ _ _ _ rfl rfl rfl HR5.out ?_)
                  go_roundw
                  case rel => exact ⟨k + 1, HLT.out, by go_num, HV5.out, HO5.out, HBF.out⟩
                  case measure => have := HLT.out; simp [intOf]; omega
      · go_wp2_with fail
        rw [← HW1.out]
        go_loopw [8, 30] (fun lv jv wx => ∃ j : Nat, j ≤ L.length - (k + 1) ∧ jv = .int .i64 j ∧ lv = .bool (((L.drop (k + 1)).take j).any (lowV t)) ∧ Below W1.heap.size W1 wx) (fun _ jv _ => L.length - (intOf jv).toNat)
        case atStart => exact ⟨0, Nat.zero_le _, rfl, rfl, Below.refl _ _⟩
        case round =>
          obtain ⟨j, hj, rfl, rfl, hbx⟩ := hrel
          by_cases hjl : j < L.length - (k + 1)
          · have hu2 : L[k + 1 + j]? = some (L[k + 1 + j]'(by omega)) := List.getElem?_eq_getElem _
            generalize L[k + 1 + j]'(by omega) = u at hu2
            have hu : (L.drop (k + 1))[j]? = some u := by rw [List.getElem?_drop]; exact hu2
            obtain ⟨g', cap'', ev, _, _, _, d0, d1, d2, d3, d4⟩ := (HR1.out.below hbx).ver hu2
            injection ev with ev _ ev3
            injection ev with ev
            injection ev with ev _ _
            subst ev ev3
            rw [show (k + 1 + j) * 5 = (k + 1) * 5 + j * 5 from by omega] at d0 d1 d2 d3 d4
            have hji : (j : Int) < ((L.length - (k + 1) : Nat) : Int) := by omega
            have hjj : (j : Int) < (L.length : Int) - ((k : Int) + 1) := by omega
            obtain ⟨xa, xn, xt, xr, xo⟩ := u
            simp only at d0 d1 d2 d3 d4
            have hany := any_at t hu
            have HBN := Lib.hid (hbx.trans ((below_new (w := wr) (.cells #[.int .i64 xa, .int .i64 xn, .bool xt, .int .i64 xr, .bool xo] 59)).mono hbx.size))
            have HJL := Lib.hid hjl
            obtain ⟨old, hold⟩ : ∃ old, old = ((L.drop (k + 1)).take j).any (lowV t) := ⟨_, rfl⟩
            rw [← hold] at hany ⊢
            have HANY := Lib.hid hany
            clear hany hold hu hu2 hbx hj hjl
            cases old with
            | true =>
              have HN2 : Hid ((.bool true : Value) = .bool (((L.drop (k + 1)).take (j + 1)).any (lowV t))) := Lib.hid (by rw [HANY.out]; rfl)
              go_wp2_with fail
              go_roundw
              case rel => exact ⟨j + 1, HJL.out, by go_num, HN2.out, HBN.out⟩
              case measure => have := HJL.out; simp [intOf]; omega
            | false =>
              cases xo with
              | true =>
                have HN2 : Hid ((.bool false : Value) = .bool (((L.drop (k + 1)).take (j + 1)).any (lowV t))) := Lib.hid (by rw [HANY.out]; rfl)
                go_wp2_with fail
                go_roundw
                case rel => exact ⟨j + 1, HJL.out, by go_num, HN2.out, HBN.out⟩
                case measure => have := HJL.out; simp [intOf]; omega
              | false =>
                have HN2 : Hid ((.bool (decide (xa < t)) : Value) = .bool (((L.drop (k + 1)).take (j + 1)).any (lowV t))) := Lib.hid (by rw [HANY.out]; simp [lowV])
                go_wp2_with fail
                go_roundw
                case rel => exact ⟨j + 1, HJL.out, by go_num, HN2.out, HBN.out⟩
                case measure => have := HJL.out; simp [intOf]; omega
          · have hje : (L.drop (k + 1)).take j = L.drop (k + 1) := List.take_of_length_le (by rw [List.length_drop]; omega)
            have hla : ((L.drop (k + 1)).take j).any (lowV t) = laterP L k t := by rw [hje]; rfl
            rw [hla]
            have hjn : ¬ (j : Int) < ((L.length - (k + 1) : Nat) : Int) := by omega
            have hjn2 : ¬ (j : Int) < (L.length : Int) - ((k : Int) + 1) := by omega
            have hbox := (hbx.block _ (heap_lt HAT.out)).trans HAT.out
            have b0 := cell_of hbox 0
            have b1 := cell_of hbox 1
            have b2 := cell_of hbox 2
            have b3 := cell_of hbox 3
            have b4 := cell_of hbox 4
            simp at b0 b1 b2 b3 b4
            have HBX := Lib.hid (HB1.out.trans (hbx.mono HB1.out.size))
            have HROWX := Lib.hid (HROW1.out.below hbx)
            obtain ⟨lat, hlat⟩ : ∃ lat, lat = laterP L k t := ⟨_, rfl⟩
            rw [← hlat]
            have HLAT := Lib.hid hlat
            clear hje hla hbox hbx hjl hlat hj
            by_cases hg : (!uo && decide (ua < t) && lat) = true
            · have hgs : uo = false ∧ ua < t ∧ lat = true := by simpa [and_assoc] using hg
              obtain ⟨rfl, hut, rfl⟩ := hgs
              have HKN : Hid (keepV lst (L.take (k + 1)) = keepV lst (L.take k)) := Lib.hid (by rw [HLS.out, keep_at HRI.out HPO.out HX.out, if_pos (by rw [← HLAT.out]; exact hg)])
              have hut2 : ¬ t ≤ ua := by omega
              clear hg
              go_wp2_with fail
              go_roundw
              case rel => exact ⟨k + 1, HLT.out, by go_num, by rw [HKN.out]; exact HROWX.out, HOWN.out, HBX.out⟩
              case measure => have := HLT.out; simp [intOf]; omega
            · rw [HLAT.out] at hg
              cases uo with
              | true =>
                
                have HKN : Hid (keepV lst (L.take (k + 1)) = keepV lst (L.take k) ++ [⟨ua, un, ut, ur, true⟩]) := Lib.hid (by rw [HLS.out, keep_at HRI.out HPO.out HX.out, if_neg (by simp only [Bool.not_true, Bool.false_and]; simpa using hg)])
                obtain ⟨v5, w5, hr5, hv5, ht5, ho5⟩ := app_ver ⟨ua, un, ut, ur, true⟩ 60 (HROWX.out.below (below_new (.cells #[.int .i64 ua, .int .i64 un, .bool ut, .int .i64 ur, .bool true] 59))) (Nat.le_trans (keepV_len _ _) (by rw [List.length_take]; have := HL.out; omega)) (alloc_at wr _)
                have hbn := HBX.out.trans ((below_new (w := wr) (.cells #[.int .i64 ua, .int .i64 un, .bool ut, .int .i64 ur, .bool true] 59)).mono HBX.out.size)
                have HBF := Lib.hid (hbn.trans (ht5.below (fun i e => HOWN.out i e) hbn.size))
                have HR5 := Lib.hid hr5
                have HV5 : Hid (RowIs w5 5 v5 (keepV lst (L.take (k + 1))).length (verC (keepV lst (L.take (k + 1))))) := Lib.hid (by rw [HKN.out]; exact hv5)
                have HO5 : Hid (∀ b, v5.ownBlock = some b → w.heap.size ≤ b) := Lib.hid (fun b e => by
                  rcases ho5 b e with e2 | e2
                  · exact HOWN.out b e2
                  · have := hbn.size; omega)
                clear hv5 ht5 ho5 hr5 hbn hg
                go_wp2_with (at_builtin; refine wpList_app_run rfl _ _ _ _ rfl rfl rfl HR5.out ?_)
                go_roundw
                case rel => exact ⟨k + 1, HLT.out, by go_num, HV5.out, HO5.out, HBF.out⟩
                case measure => have := HLT.out; simp [intOf]; omega
              | false =>
                by_cases hut : ua < t
                · have hlf : lat = false := by
                    rw [HLAT.out]
                    cases h : laterP L k t
                    · rfl
                    · exact (hg (by rw [h, decide_eq_true hut]; rfl)).elim
                  subst hlf
                  have hut2 : ¬ t ≤ ua := by omega
                  
                  have HKN : Hid (keepV lst (L.take (k + 1)) = keepV lst (L.take k) ++ [⟨ua, un, ut, ur, false⟩]) := Lib.hid (by rw [HLS.out, keep_at HRI.out HPO.out HX.out, if_neg (by exact hg)])
                  obtain ⟨v5, w5, hr5, hv5, ht5, ho5⟩ := app_ver ⟨ua, un, ut, ur, false⟩ 60 (HROWX.out.below (below_new (.cells #[.int .i64 ua, .int .i64 un, .bool ut, .int .i64 ur, .bool false] 59))) (Nat.le_trans (keepV_len _ _) (by rw [List.length_take]; have := HL.out; omega)) (alloc_at wr _)
                  have hbn := HBX.out.trans ((below_new (w := wr) (.cells #[.int .i64 ua, .int .i64 un, .bool ut, .int .i64 ur, .bool false] 59)).mono HBX.out.size)
                  have HBF := Lib.hid (hbn.trans (ht5.below (fun i e => HOWN.out i e) hbn.size))
                  have HR5 := Lib.hid hr5
                  have HV5 : Hid (RowIs w5 5 v5 (keepV lst (L.take (k + 1))).length (verC (keepV lst (L.take (k + 1))))) := Lib.hid (by rw [HKN.out]; exact hv5)
                  have HO5 : Hid (∀ b, v5.ownBlock = some b → w.heap.size ≤ b) := Lib.hid (fun b e => by
                    rcases ho5 b e with e2 | e2
                    · exact HOWN.out b e2
                    · have := hbn.size; omega)
                  clear hv5 ht5 ho5 hr5 hbn hg
                  go_wp2_with (at_builtin; refine wpList_app_run rfl _ _ _ _ rfl rfl rfl HR5.out ?_)
                  go_roundw
                  case rel => exact ⟨k + 1, HLT.out, by go_num, HV5.out, HO5.out, HBF.out⟩
                  case measure => have := HLT.out; simp [intOf]; omega
                · have hut2 : t ≤ ua := by omega
                  
                  have HKN : Hid (keepV lst (L.take (k + 1)) = keepV lst (L.take k) ++ [⟨ua, un, ut, ur, false⟩]) := Lib.hid (by rw [HLS.out, keep_at HRI.out HPO.out HX.out, if_neg (by exact hg)])
                  obtain ⟨v5, w5, hr5, hv5, ht5, ho5⟩ := app_ver ⟨ua, un, ut, ur, false⟩ 60 (HROWX.out.below (below_new (.cells #[.int .i64 ua, .int .i64 un, .bool ut, .int .i64 ur, .bool false] 59))) (Nat.le_trans (keepV_len _ _) (by rw [List.length_take]; have := HL.out; omega)) (alloc_at wr _)
                  have hbn := HBX.out.trans ((below_new (w := wr) (.cells #[.int .i64 ua, .int .i64 un, .bool ut, .int .i64 ur, .bool false] 59)).mono HBX.out.size)
                  have HBF := Lib.hid (hbn.trans (ht5.below (fun i e => HOWN.out i e) hbn.size))
                  have HR5 := Lib.hid hr5
                  have HV5 : Hid (RowIs w5 5 v5 (keepV lst (L.take (k + 1))).length (verC (keepV lst (L.take (k + 1))))) := Lib.hid (by rw [HKN.out]; exact hv5)
                  have HO5 : Hid (∀ b, v5.ownBlock = some b → w.heap.size ≤ b) := Lib.hid (fun b e => by
                    rcases ho5 b e with e2 | e2
                    · exact HOWN.out b e2
                    · have := hbn.size; omega)
                  clear hv5 ht5 ho5 hr5 hbn hg
                  go_wp2_with (at_builtin; refine wpList_app_run rfl _ _ _ _ rfl rfl rfl HR5.out ?_)
                  go_roundw
                  case rel => exact ⟨k + 1, HLT.out, by go_num, HV5.out, HO5.out, HBF.out⟩
                  case measure => have := HLT.out; simp [intOf]; omega
    · obtain rfl : k = L.length := by omega
      rw [List.take_length] at hrow
      obtain ⟨A5, c5, rfl, ha5, hb5, _⟩ := id hrow.form
      unfold maxLen at hb5
      have hPL : pruneP L t = keepV lst L := by unfold pruneP; rw [← HLS.out]
      have HPL := Lib.hid hPL
      have hhd := (HB.out.block r hrl).trans HH.out.head
      have kr2 : wo.cell? ⟨r, 0, none⟩ = some (.slice A L.length cap) := (HB.out.cell (p := ⟨r, 0, none⟩) hrl).trans kr
      have fr2 : wo.frozen? ⟨r, 0, none⟩ = false := free0 hhd 0
      have ht : Touch (fun k => k = r) wo (wo.setCell ⟨r, 0, none⟩ (.slice A5 (keepV lst L).length c5)) := Touch.setCell (S := fun k => k = r) (Touch.refl _ wo) ⟨r, 0, none⟩ (fun _ => rfl) _
      have HF : Hid (RPost w r (.slice A L.length cap) (keepV lst L) (wo.setCell ⟨r, 0, none⟩ (.slice A5 (keepV lst L).length c5))) := Lib.hid ⟨.slice A5 (keepV lst L).length c5, ⟨by
        have := set_at hhd 0 (.slice A5 (keepV lst L).length c5)
        simpa using this, RowIs.touch hrow ht fun b e e2 => by have := HOWN.out b e; omega, fun e => by have := HOWN.out r e; omega⟩, (Touch.of_below HB.out).trans ht (fun _ _ e => e), fun b e => .inr (HOWN.out b e)⟩
      have hkl : (keepV lst L).length ≤ L.length := keepV_len _ _
      obtain ⟨nk, hnk⟩ : ∃ nk, nk = (keepV lst L).length := ⟨_, rfl⟩
      rw [← hnk] at HF hkl ha5 ⊢
      have HNK := Lib.hid hnk
      clear hrow hown hb hk hlt hPL hhd ht hnk
      go_wp2_with fail
      go_ret
      rw [HPL.out, ← HNK.out]
      exact ⟨rfl, HF.out⟩
end Go.Proofs.YtmaokoekbjjgfaaDoor
