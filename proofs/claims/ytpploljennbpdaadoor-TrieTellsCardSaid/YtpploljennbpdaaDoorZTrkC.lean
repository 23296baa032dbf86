/- trie, the document's own tree in memory: Below, Leaves. -/
import Derived.Test.YtpploljennbpdaaDoorZTrkB
set_option linter.unusedSimpArgs false
set_option linter.unusedVariables false
set_option linter.unnecessarySimpa false
namespace Go.Proofs.YtpploljennbpdaaDoor
open Go.RowKit Go.Shelf

def preK (P : List Pth) (n k : Nat) : List Nat := n :: ((kidsP P n).take k).flatMap (preP P)
theorem preK_all {P : List Pth} (hT : TreeP P) {n : Nat} {p : Pth} (hn : P[n]? = some p) : preK P n (kidsP P n).length = preP P n := by
  unfold preK
  rw [List.take_length, preP_eq hT hn]
theorem preK_snoc {P : List Pth} {n k m : Nat} (hx : (kidsP P n)[k]? = some m) : preK P n (k + 1) = preK P n k ++ preP P m := by
  unfold preK
  rw [List.take_add_one, hx, List.flatMap_append, ← List.cons_append]
  congr 1
  simp
theorem preK_len {P : List Pth} (hT : TreeP P) {n : Nat} {p : Pth} (hn : P[n]? = some p) (k : Nat) : (preK P n k).length ≤ P.length := by
  have h1 := pre_len hT n
  rw [preP_eq hT hn] at h1
  refine Nat.le_trans ?_ h1
  unfold preK
  rw [List.length_cons, List.length_cons]
  have h2 : ((kidsP P n).take k).flatMap (preP P) <+: (kidsP P n).flatMap (preP P) := by
    have e := List.take_append_drop k (kidsP P n)
    refine ⟨((kidsP P n).drop k).flatMap (preP P), ?_⟩
    rw [← List.flatMap_append, e]
  have := h2.length_le
  omega
set_option maxRecDepth 100000 in
set_option maxHeartbeats 4000000 in
theorem RBelow_in {P : List Pth} (hT : TreeP P) : ∀ (n : Nat) (p : Pth), P[n]? = some p → ∀ (w : World) (v : Value), RTr w v P → Calls Tryd.prog 17 #[.agg #[v], .int .i64 (n : Int)] w (NodesP (preP P n) w) := by
  refine hT.ind (C := fun n p => ∀ (w : World) (v : Value), RTr w v P → Calls Tryd.prog 17 #[.agg #[v], .int .i64 (n : Int)] w (NodesP (preP P n) w)) ?_
  intro n p hn ih w v h
  have HIH : Hid (∀ m, m ∈ kidsP P n → ∀ (w : World) (v : Value), RTr w v P → Calls Tryd.prog 17 #[.agg #[v], .int .i64 (m : Int)] w (NodesP (preP P m) w)) := Lib.hid (fun m hm => by
    obtain ⟨_, x, hx⟩ := hT.kid hn hm
    exact ih m x hm hx)
  have HPL := Lib.hid (fun k => preK_len hT hn k)
  rw [← preK_all hT hn]
  obtain ⟨A, cap, rfl, h1, h2⟩ := h.row.form
  unfold maxLen at h2
  have hP9 := h.few
  have hPI : (P.length : Int) ≤ 900 := by omega
  have hb0 := below_new (w := w) (.cells #[.slice A P.length cap] 32)
  have hbx := alloc_at w (.cells #[.slice A P.length cap] 32)
  obtain ⟨w1, hw1⟩ : ∃ w1, w1 = w.alloc (.cells #[.slice A P.length cap] 32) := ⟨_, rfl⟩
  rw [← hw1] at hb0 hbx
  have HW1 := Lib.hid hw1
  have HB0 := Lib.hid hb0
  have HBX := Lib.hid hbx
  have HH := Lib.hid (h.below hb0)
  have HN := Lib.hid hn
  have hth : inI P (n : Int) = true := decide_eq_true (in_nat hn)
  have HT := Lib.hid (fun (W : World) => There_any (w := W) (A := A) (P := P) (cap := cap) (n : Int) (by omega))
  rw [hth] at HT
  have hs1 : w1.heap.size = w.heap.size + 1 := by rw [hw1, asz]
  have HS1 := Lib.hid hs1
  have q1 := cell_of hbx 0
  clear h hb0 hbx hw1 hs1 hP9 hth ih hn
  go_enter Tryd.func17, Tryd.ntmps17
  go_wp2_with fail
  rw [← HW1.out]
  go_wp2_with fail
  refine (HT.out _).mono ?_
  rintro e w2 ⟨rfl, hb2⟩
  have q2 := cell_of ((hb2.block _ (heap_lt HBX.out)).trans HBX.out) 0
  have HB2 := Lib.hid hb2
  have hbn := below_new (w := w2) (.cells #[.int .i64 (n : Int)] 3)
  have hbn0 := alloc_at w2 (.cells #[.int .i64 (n : Int)] 3)
  obtain ⟨w3, hw3⟩ : ∃ w3, w3 = w2.alloc (.cells #[.int .i64 (n : Int)] 3) := ⟨_, rfl⟩
  rw [← hw3] at hbn hbn0
  have HW3 := Lib.hid hw3
  have HB3 := Lib.hid (hb2.trans (hbn.mono hb2.size))
  have hs3 : w3.heap.size = w2.heap.size + 1 := by rw [hw3, asz]
  have HS3 := Lib.hid hs3
  have hrow0 : RowIs w3 1 (.slice (some ⟨w2.heap.size, 0, none⟩) 1 1) (preK P n 0).length (ints (natI (preK P n 0))) := by
    refine .inr ⟨_, 1, rfl, rfl, Nat.le_refl _, heap_lt hbn0, Nat.le_refl _, by decide, fun j b hj => ?_, fun j hj => ?_⟩
    · rw [cell_of_row _ _ _ _ _ _ hbn0]
      have e : ints (natI (preK P n 0)) = [.int .i64 (n : Int)] := rfl
      rw [e] at hj
      simpa using hj
    · obtain rfl : j = 0 := by omega
      exact ⟨by rw [cell_of_row _ _ _ _ _ _ hbn0]; rfl, free0 hbn0 0⟩
  have HR0 := Lib.hid hrow0
  have HKD := Lib.hid (RKids_any (HH.out.below HB3.out) HN.out)
  have q3 := cell_of ((HB3.out.block _ (heap_lt HBX.out)).trans HBX.out) 0
  have q4 := q3
  rw [hw3] at q4
  clear hb2 hbn hbn0 hw3 hs3 hrow0 q1
  go_wp2_with fail
  rw [← HW3.out]
  go_wp2_with fail
  refine (HKD.out).mono ?_
  rintro e w4 ⟨kv, rfl, hkr, hko, hb4⟩
  have HB4 := Lib.hid (HB3.out.trans (hb4.mono HB3.out.size))
  have HR4 := Lib.hid (HR0.out.below hb4)
  have HKR := Lib.hid hkr
  have HKO := Lib.hid hko
  obtain ⟨kA, kcap, rfl, hk1, hk2, _⟩ := id hkr.form
  unfold maxLen at hk2
  have hkl : (kidsP P n).length ≤ 900 := Nat.le_trans (length_le_of_nodup _ _ (kids_nodup P n) (fun k hk => kid_lt hk)) (by omega)
  have hkI : ((kidsP P n).length : Int) ≤ 900 := by omega
  obtain ⟨K, hK⟩ : ∃ K, kidsP P n = K := ⟨_, rfl⟩
  rw [hK] at HKR HIH hk1 hkI HKO ⊢
  have HK := Lib.hid hK
  clear hkr hko hb4 hkl hK q2 q3 q4
  go_wp2_with fail
  go_loopw [5, 18] (fun ov iv wr => ∃ k : Nat, k ≤ K.length ∧ iv = .int .i64 k ∧ RowIs wr 1 ov (preK P n k).length (ints (natI (preK P n k))) ∧ (∀ g, ov.ownBlock = some g → w1.heap.size ≤ g ∧ (Value.slice kA K.length kcap).ownBlock ≠ some g) ∧ RowIs wr 1 (.slice kA K.length kcap) K.length (ints (natI K)) ∧ Below w1.heap.size w1 wr) (fun _ iv _ => K.length - (intOf iv).toNat)
  case atStart => exact ⟨0, Nat.zero_le _, rfl, HR4.out, (fun g hg => by
    have e : w2.heap.size = g := Option.some.inj hg
    subst e
    exact ⟨HB2.out.size, fun e => by have := HKO.out _ e; have := HS3.out; omega⟩), HKR.out, HB4.out⟩
  case round =>
    obtain ⟨k, hk, rfl, hrow, hown, hkr, hbw⟩ := hrel
    have HROW := Lib.hid hrow
    have HOWN := Lib.hid hown
    have HKR := Lib.hid hkr
    have HB := Lib.hid hbw
    obtain ⟨oA, on, oc, rfl⟩ : ∃ A n c, u5 = .slice A n c := by
      obtain ⟨A, c, e, _⟩ := hrow.form
      exact ⟨A, _, c, e⟩
    by_cases hlt : k < K.length
    · have hx : K[k]? = some K[k] := List.getElem?_eq_getElem hlt
      generalize K[k] = m at hx
      obtain ⟨_, _, e', _, _, _, _, hkc⟩ := hkr.form
      injection e' with e1 e2 e3
      subst e1 e3
      obtain ⟨gk, rfl, ck⟩ := hkc k _ (natI_at hx)
      have qb := cell_of ((hbw.block _ (heap_lt HBX.out)).trans HBX.out) 0
      have HREC := Lib.hid (HIH.out m (List.mem_of_getElem? hx) wr _ (HH.out.below (Below.mono hbw (Nat.le_refl _))))
      have hi : (k : Int) < (K.length : Int) := by omega
      have HLT := Lib.hid hlt
      have HS := Lib.hid (preK_snoc (P := P) (n := n) (k := k) (m := m) (by rw [HK.out]; exact hx))
      clear hrow hown hkr hbw hk hlt hx hkc e2
      go_wp2_with fail
      refine (HREC.out).mono ?_
      rintro e w5 ⟨rv, rfl, hrr, hro, hb5⟩
      have hrow5 := HROW.out.below hb5
      rw [← natI_len] at hrow5
      have hsis := (show RowIs w5 1 rv (natI (preP P m)).length (ints (natI (preP P m))) by rw [natI_len]; exact hrr).sis
      have hlen := HPL.out (k + 1)
      rw [HS.out, List.length_append] at hlen
      obtain ⟨ov', w6, hrun, hr6, ht6, ho6⟩ := app_sis 24 hrow5 hsis (by rw [natI_len, natI_len]; omega)
      have e6 : natI (preK P n k) ++ natI (preP P m) = natI (preK P n (k + 1)) := by rw [HS.out]; unfold natI; rw [List.map_append]
      rw [e6, natI_len] at hr6
      have HR6 := Lib.hid hr6
      have HK6 := Lib.hid ((HKR.out.below hb5).touch ht6 (fun g hg e => (HOWN.out g e).2 hg))
      have HO6 : Hid (∀ g, ov'.ownBlock = some g → w1.heap.size ≤ g ∧ (Value.slice (some ⟨gk, 0, none⟩) K.length kcap).ownBlock ≠ some g) := Lib.hid (fun g hg => by
        rcases ho6 g hg with e | e
        · exact HOWN.out g e
        · exact ⟨by have := HB.out.size; have := hb5.size; omega, fun e2 => by have := HKR.out.lt g e2; have := hb5.size; omega⟩)
      have HB6 := Lib.hid ((HB.out.trans (hb5.mono HB.out.size)).trans (ht6.below (fun i hi => (HOWN.out i hi).1) (by have := HB.out.size; have := hb5.size; omega)))
      clear hrr hro hb5 hrow5 hsis hlen hr6 ht6 ho6 e6 ck qb
      go_wp2_with (at_builtin; refine wpList_app_run rfl _ _ _ _ rfl rfl rfl hrun ?_)
      go_roundw
      case rel => exact ⟨k + 1, HLT.out, by go_num, HR6.out, HO6.out, HK6.out, HB6.out⟩
      case measure => have := HLT.out; simp [intOf]; omega
    · obtain rfl : k = K.length := by omega
      have hn2 : ¬ (K.length : Int) < (K.length : Int) := by omega
      clear hlt hk hrow hown hkr hbw
      go_wp2_with fail
      refine bodyPost_ret (v := .slice oA on oc) (by simp [results, Tryd.results17, go_sem]) rfl ⟨_, rfl, by rw [HK.out]; exact HROW.out, fun g hg => by have := (HOWN.out g hg).1; have := HS1.out; omega, HB0.out.trans (HB.out.mono HB0.out.size)⟩
def leafK (P : List Pth) (k : Nat) : List Nat := ((preP P 0).take k).filter fun n => (kidsP P n).isEmpty
theorem leafK_snoc {P : List Pth} {k m : Nat} (hx : (preP P 0)[k]? = some m) : leafK P (k + 1) = leafK P k ++ if (kidsP P m).isEmpty = true then [m] else [] := by
  unfold leafK
  rw [List.take_add_one, hx, List.filter_append]
  congr 1
  by_cases h : (kidsP P m).isEmpty = true
  · rw [if_pos h]; simp [h]
  · rw [if_neg h]; simp [h]
theorem leafK_len (P : List Pth) (k : Nat) : (leafK P k).length ≤ k := by
  unfold leafK
  refine Nat.le_trans (List.length_filter_le ..) ?_
  rw [List.length_take]
  omega
theorem leafK_all (P : List Pth) : leafK P (preP P 0).length = leavesP P := by unfold leafK leavesP; rw [List.take_length]
set_option maxRecDepth 100000 in
set_option maxHeartbeats 4000000 in
theorem RLeaves_any {w : World} {v : Value} {P : List Pth} (h : RTr w v P) : Calls Tryd.prog 25 #[.agg #[v]] w (NodesP (leavesP P) w) := by
  rw [← leafK_all]
  obtain ⟨A, cap, rfl, h1, h2⟩ := h.row.form
  unfold maxLen at h2
  have hP9 := h.few
  have hPI : (P.length : Int) ≤ 900 := by omega
  have hb0 := below_new (w := w) (.cells #[.slice A P.length cap] 32)
  have hbx := alloc_at w (.cells #[.slice A P.length cap] 32)
  obtain ⟨w1, hw1⟩ : ∃ w1, w1 = w.alloc (.cells #[.slice A P.length cap] 32) := ⟨_, rfl⟩
  rw [← hw1] at hb0 hbx
  have HW1 := Lib.hid hw1
  have HB0 := Lib.hid hb0
  have HBX := Lib.hid hbx
  have HH := Lib.hid (h.below hb0)
  have HBL := Lib.hid (RBelow_in h.tree 0 [] h.tree.root w1 _ (h.below hb0))
  have hs1 : w1.heap.size = w.heap.size + 1 := by rw [hw1, asz]
  have HS1 := Lib.hid hs1
  have q1 := cell_of hbx 0
  have hpl := pre_len h.tree 0
  have HKID := Lib.hid (fun (W : World) (hW : RTr W (.slice A P.length cap) P) (m : Nat) (hm : m ∈ preP P 0) => RKids_any hW (List.getElem?_eq_getElem (pre_lt h.tree hm)))
  obtain ⟨K, hK⟩ : ∃ K, preP P 0 = K := ⟨_, rfl⟩
  have HK := Lib.hid hK
  rw [hK] at HBL hpl HKID ⊢
  have hKI : (K.length : Int) ≤ 900 := by omega
  have HKL := Lib.hid (show K.length ≤ 900 by omega)
  clear h hb0 hbx hw1 hs1 hP9 hK hpl
  go_enter Tryd.func25, Tryd.ntmps25
  go_wp2_with fail
  rw [← HW1.out]
  go_wp2_with fail
  refine (HBL.out).mono ?_
  rintro e w4 ⟨kv, rfl, hkr, hko, hb4⟩
  have HB4 := Lib.hid hb4
  have HKR := Lib.hid hkr
  obtain ⟨kA, kcap, rfl, hk1, hk2, _⟩ := id hkr.form
  unfold maxLen at hk2
  clear hkr hko hb4 q1
  go_wp2_with fail
  go_loopw [3, 9] (fun ov iv wr => ∃ k : Nat, k ≤ K.length ∧ iv = .int .i64 k ∧ RowIs wr 1 ov (leafK P k).length (ints (natI (leafK P k))) ∧ (∀ g, ov.ownBlock = some g → w4.heap.size ≤ g) ∧ Below w4.heap.size w4 wr) (fun _ iv _ => K.length - (intOf iv).toNat)
  case atStart => exact ⟨0, Nat.zero_le _, rfl, RowIs.nil _ _, (fun g e => by cases e), Below.refl _ _⟩
  case round =>
    obtain ⟨k, hk, rfl, hrow, hown, hbw⟩ := hrel
    have HROW := Lib.hid hrow
    have HOWN := Lib.hid hown
    have HB := Lib.hid hbw
    by_cases hlt : k < K.length
    · have hx : K[k]? = some K[k] := List.getElem?_eq_getElem hlt
      generalize K[k] = m at hx
      obtain ⟨_, _, e', _, _, _, _, hkc⟩ := (HKR.out.below hbw).form
      injection e' with e1 e2 e3
      subst e1 e3
      obtain ⟨gk, rfl, ck⟩ := hkc k _ (natI_at hx)
      have hb1w := HB4.out.trans (hbw.mono HB4.out.size)
      have qb := cell_of ((hb1w.block _ (heap_lt HBX.out)).trans HBX.out) 0
      have HKD := Lib.hid (HKID.out wr (HH.out.below hb1w) m (List.mem_of_getElem? hx))
      have hi : (k : Int) < (K.length : Int) := by omega
      have HLT := Lib.hid hlt
      have HS := Lib.hid (leafK_snoc (P := P) (k := k) (m := m) (by rw [HK.out]; exact hx))
      clear hrow hown hbw hk hlt hx hkc e2 hb1w
      go_wp2_with fail
      refine (HKD.out).mono ?_
      rintro e w5 ⟨rv, rfl, hrr, hro, hb5⟩
      obtain ⟨rA, rc, rfl, _⟩ := id hrr.form
      by_cases hemp : (kidsP P m).isEmpty = true
      · have hl0 : (kidsP P m).length = 0 := by rw [List.isEmpty_iff.1 hemp]; rfl
        rw [if_pos hemp] at HS
        rw [hl0]
        obtain ⟨ov', w3, hrun, hr3, ho3, hb3, _⟩ := nodes_app (HROW.out.below hb5) HOWN.out (HB.out.trans (hb5.mono HB.out.size)) (by have := leafK_len P k; have := HLT.out; have := HKL.out; omega) m
        rw [← HS.out] at hr3
        have HR3 := Lib.hid hr3
        have HO3 := Lib.hid ho3
        have HB3 := Lib.hid hb3
        clear hrr hro hb5 hr3 ho3 hb3 hemp hl0 ck qb
        go_wp2_with (at_builtin; refine wpList_app_run rfl _ _ _ _ rfl rfl rfl hrun ?_)
        go_roundw
        case rel => exact ⟨k + 1, HLT.out, by go_num, HR3.out, HO3.out, HB3.out⟩
        case measure => have := HLT.out; simp [intOf]; omega
      · have hl0 : (((kidsP P m).length : Int) == 0) = false := by
          rw [beq_eq_false_iff_ne]
          intro e
          exact hemp (List.isEmpty_iff.2 (List.eq_nil_of_length_eq_zero (by omega)))
        rw [if_neg hemp, List.append_nil] at HS
        have HR3 := Lib.hid (HROW.out.below hb5)
        have HB3 := Lib.hid (HB.out.trans (hb5.mono HB.out.size))
        obtain ⟨ln, hln⟩ : ∃ ln, (kidsP P m).length = ln := ⟨_, rfl⟩
        rw [hln] at hl0 ⊢
        clear hrr hro hb5 hemp ck qb hln
        go_wp2_with fail
        go_roundw
        case rel => exact ⟨k + 1, HLT.out, by go_num, by rw [HS.out]; exact HR3.out, HOWN.out, HB3.out⟩
        case measure => have := HLT.out; simp [intOf]; omega
    · obtain rfl : k = K.length := by omega
      have hn2 : ¬ (K.length : Int) < (K.length : Int) := by omega
      clear hlt hk hrow hown hbw
      go_wp2_with fail
      refine bodyPost_ret (v := u3) (by simp [results, Tryd.results25, go_sem]) rfl ⟨_, rfl, HROW.out, fun g hg => by have := HOWN.out g hg; have := HB4.out.size; have := HS1.out; omega, HB0.out.trans ((HB4.out.trans (HB.out.mono HB4.out.size)).mono HB0.out.size)⟩
end Go.Proofs.YtpploljennbpdaaDoor
