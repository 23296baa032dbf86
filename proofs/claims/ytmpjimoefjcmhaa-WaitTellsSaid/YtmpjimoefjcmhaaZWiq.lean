/- The reference's Circles and Order, walked. -/
import Derived.Test.YtmpjimoefjcmhaaZWip
set_option linter.unusedSimpArgs false
set_option linter.unusedVariables false
set_option linter.unnecessarySimpa false
namespace Go.Proofs.Ytmpjimoefjcmhaa
open Go.RowKit

theorem reach_circ {l : List (Int × Int)} {w : Int} {r : List Int} (h : ReachP l w r) : w ∈ r ↔ Circ (fun x z => (x, z) ∈ l) w := by
  constructor
  · exact h.only (fun y => ∃ z, (w, z) ∈ l ∧ Rch (fun x z => (x, z) ∈ l) z y) (fun y hy => ⟨y, hy, .refl⟩) (fun y z ⟨a, ha, hr⟩ hz => ⟨a, ha, hr.tail hz⟩) w
  · rintro ⟨z, hz, hr⟩
    have hz' : z ∈ r := h.first z hz
    have key : ∀ y, Rch (fun x z => (x, z) ∈ l) z y → y ∈ r := fun y hy => by
      induction hy with
      | refl => exact hz'
      | tail _ h2 ih => exact h.next _ _ ih h2
    exact key w hr
set_option maxRecDepth 100000 in
set_option maxHeartbeats 8000000 in
theorem circ_ref {w : World} {v : Value} {l : List (Int × Int)} (h : EIs w v l) (hl : l.length ≤ 1000) : Calls Try.prog 10 #[v] w fun e w' => ∃ v' c, e = .returned v' ∧ CircP l c ∧ RowIs w' 1 v' c.length (ints c) ∧ (∀ b, v'.ownBlock = some b → w.heap.size ≤ b) ∧ Below w.heap.size w w' := by
  have HE := Lib.hid h
  have HA := Lib.hid (all_ref h hl)
  clear h
  go_enter Try.func10, Try.ntmps10
  go_wp2_with fail
  refine (HA.out).mono ?_
  rintro e w1 ⟨v1, rfl, hv1, ho1, hb1⟩
  obtain ⟨hns, hmem, hfew⟩ := allP_holds l
  have HNS := Lib.hid hns
  have HMEM := Lib.hid hmem
  generalize allP l = ns at *
  have HV1 := Lib.hid hv1
  have HB1 := Lib.hid hb1
  obtain ⟨A1, c1, e1, hc11, hc12, _⟩ := hv1.form
  subst e1
  unfold maxLen at hc12
  have hnI : (ns.length : Int) ≤ 2000 := by omega
  have HFW : Hid (ns.length ≤ 2000) := Lib.hid (by omega)
  clear hns hmem hfew hv1 ho1 hb1 HA
  go_wp2_with fail
  go_loopw [3, 9] (fun ov iv wr => ∃ (k : Nat) (c : List Int), k ≤ ns.length ∧ iv = .int .i64 k ∧ c.Sublist (ns.take k) ∧ (∀ y, y ∈ c ↔ y ∈ ns.take k ∧ Circ (fun x z => (x, z) ∈ l) y) ∧ RowIs wr 1 ov c.length (ints c) ∧ (∀ b, ov.ownBlock = some b → w1.heap.size ≤ b) ∧ Below w1.heap.size w1 wr) (fun _ iv _ => ns.length - (intOf iv).toNat)
  case atStart => exact ⟨0, [], Nat.zero_le _, rfl, by simp, fun y => by simp, RowIs.nil _ _, (fun b e => by cases e), Below.refl _ _⟩
  case round =>
    obtain ⟨k, c, hk, rfl, hsub, hmem, hrow, ho, hb⟩ := hrel
    have HSUB := Lib.hid hsub
    have HCM := Lib.hid hmem
    have HRW := Lib.hid hrow
    have HO := Lib.hid ho
    have HB := Lib.hid hb
    by_cases hlt : k < ns.length
    · have hx : ns[k]? = some ns[k] := List.getElem?_eq_getElem hlt
      generalize ns[k] = x at hx
      obtain ⟨_, _, e', _, _, _, _, hc⟩ := (HV1.out.below hb).form
      injection e' with e1 _ e3
      subst e1 e3
      obtain ⟨g, rfl, kc⟩ := hc k (.int .i64 x) (by unfold ints; rw [List.getElem?_map, hx]; rfl)
      have hi : (k : Int) < (ns.length : Int) := by omega
      have HRE := Lib.hid (reach_ref (x := x) ((HE.out.below HB1.out).below hb) hl)
      have HLT := Lib.hid hlt
      have HTK : Hid (ns.take (k + 1) = ns.take k ++ [x]) := Lib.hid (by rw [List.take_succ_eq_append_getElem hlt, (List.getElem?_eq_some_iff.1 hx).2])
      have HCL : Hid (c.length ≤ 2000) := Lib.hid (by have h1 := hsub.length_le; rw [List.length_take] at h1; have := HFW.out; omega)
      clear hx hk hc hsub hmem hrow ho hb hlt
      go_wp2_with fail
      refine (HRE.out).mono ?_
      rintro e w2 ⟨v2, r, rfl, hrp, _, hv2, _, hb2⟩
      have HRP := Lib.hid hrp
      have HHA := Lib.hid (has_any (x := x) hv2 (by have := hrp.few; omega))
      have HB2 := Lib.hid (HB.out.trans (hb2.mono HB.out.size))
      have HRW2 := Lib.hid (HRW.out.below hb2)
      have HSZ := Lib.hid hb2.size
      clear hrp hv2 hb2 HRE
      by_cases hxr : x ∈ r
      · have d : decide (x ∈ r) = true := decide_eq_true hxr
        rw [d] at HHA
        have HCI := Lib.hid ((reach_circ HRP.out).1 hxr)
        obtain ⟨v3, w3, hr3, hv3, ht3, ho3⟩ := app_int x 26 HRW2.out (by have := HCL.out; omega)
        have HV3 := Lib.hid hv3
        have HO3 : Hid (∀ b, v3.ownBlock = some b → w1.heap.size ≤ b) := Lib.hid (fun b e => (ho3 b e).elim (fun e => HO.out b e) (fun e => by have := HB2.out.size; omega))
        have HB3 : Hid (Below w1.heap.size w1 w3) := Lib.hid (HB2.out.trans (ht3.below (fun b e => HO.out b e) HB2.out.size))
        have HS3 : Hid ((c ++ [x]).Sublist (ns.take (k + 1))) := Lib.hid (by rw [HTK.out]; exact HSUB.out.append (List.Sublist.refl _))
        have HC3 : Hid (∀ y, y ∈ c ++ [x] ↔ y ∈ ns.take (k + 1) ∧ Circ (fun x z => (x, z) ∈ l) y) := Lib.hid (fun y => by
          rw [HTK.out, List.mem_append, List.mem_append, HCM.out, List.mem_singleton]
          constructor
          · rintro (⟨e1, e2⟩ | e)
            · exact ⟨.inl e1, e2⟩
            · rw [e]; exact ⟨.inr rfl, HCI.out⟩
          · rintro ⟨e1 | e1, e2⟩
            · exact .inl ⟨e1, e2⟩
            · exact .inr e1)
        clear hxr d hv3 ht3 ho3
        go_wp2_with fail
        refine (HHA.out).mono ?_
        rintro e wx ⟨rfl, hwx⟩
        subst wx
        go_wp2_with (at_builtin; refine wpList_app_run rfl _ _ _ _ rfl rfl rfl hr3 ?_)
        go_roundw
        case rel => exact ⟨k + 1, c ++ [x], HLT.out, by go_num, HS3.out, HC3.out, HV3.out, HO3.out, HB3.out⟩
        case measure => have := HLT.out; simp [intOf]; omega
      · have d : decide (x ∈ r) = false := decide_eq_false hxr
        rw [d] at HHA
        have HCI := Lib.hid (fun e => hxr ((reach_circ HRP.out).2 e))
        have HS3 : Hid (c.Sublist (ns.take (k + 1))) := Lib.hid (by rw [HTK.out]; exact HSUB.out.trans (List.sublist_append_left _ _))
        have HC3 : Hid (∀ y, y ∈ c ↔ y ∈ ns.take (k + 1) ∧ Circ (fun x z => (x, z) ∈ l) y) := Lib.hid (fun y => by
          rw [HTK.out, List.mem_append, HCM.out, List.mem_singleton]
          constructor
          · rintro ⟨e1, e2⟩
            exact ⟨.inl e1, e2⟩
          · rintro ⟨e1 | e1, e2⟩
            · exact ⟨e1, e2⟩
            · rw [e1] at e2
              exact (HCI.out e2).elim)
        clear hxr d
        go_wp2_with fail
        refine (HHA.out).mono ?_
        rintro e wx ⟨rfl, hwx⟩
        subst wx
        go_wp2_with fail
        go_roundw
        case rel => exact ⟨k + 1, c, HLT.out, by go_num, HS3.out, HC3.out, HRW2.out, HO.out, HB2.out⟩
        case measure => have := HLT.out; simp [intOf]; omega
    · obtain rfl : k = ns.length := by omega
      have HCP : Hid (CircP l c) := Lib.hid (by
        have h1 := HSUB.out
        rw [List.take_length] at h1
        have h2 := HNS.out.sublist h1
        refine ⟨(lt_le h2).1, (lt_le h2).2, fun y => ?_⟩
        rw [HCM.out, List.take_length]
        constructor
        · exact fun e => e.2
        · intro e
          obtain ⟨z, hz, hr⟩ := e
          exact ⟨(HMEM.out y).2 ⟨_, hz, .inl rfl⟩, z, hz, hr⟩)
      have HO4 : Hid (∀ b, u3.ownBlock = some b → w.heap.size ≤ b) := Lib.hid (fun b e => Nat.le_trans HB1.out.size (ho b e))
      have HB4 : Hid (Below w.heap.size w wr) := Lib.hid (HB1.out.trans (hb.mono HB1.out.size))
      clear hlt hk hsub hmem hrow ho hb
      go_wp2_with fail
      go_ret
      exact ⟨_, c, rfl, HCP.out, HRW.out, HO4.out, HB4.out⟩
end Go.Proofs.Ytmpjimoefjcmhaa
