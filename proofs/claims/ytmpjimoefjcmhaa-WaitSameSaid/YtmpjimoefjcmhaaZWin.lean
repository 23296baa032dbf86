/- WaitSame: the order of edges, and how often one is named, does not matter. -/
import Derived.Test.YtmpjimoefjcmhaaZWio
import Derived.Test.YtmpjimoefjcmhaaZPrfW
set_option linter.unusedSimpArgs false
set_option linter.unusedVariables false
set_option linter.unnecessarySimpa false
namespace Go.Proofs.Ytmpjimoefjcmhaa
open Go.RowKit

theorem tmod_at (n : Int) {m : Nat} (hm : 0 < m) : ∃ c : Nat, c < m ∧ (Int.tmod n m = c ∨ (Int.tmod n m = -c ∧ 0 < c)) := by
  have h1 : (Int.tmod n m).natAbs = n.natAbs % m := by rw [Int.natAbs_tmod]; simp
  refine ⟨(Int.tmod n m).natAbs, by rw [h1]; exact Nat.mod_lt _ hm, ?_⟩
  by_cases h : 0 ≤ Int.tmod n m
  · left; omega
  · right; omega
theorem rev_at {l : List (Int × Int)} {k : Nat} {e : Int × Int} (hk : k < l.length) (h : l[l.length - 1 - k]? = some e) : l.reverse.take (k + 1) = l.reverse.take k ++ [e] := by
  have h1 : k < l.reverse.length := by rw [List.length_reverse]; exact hk
  rw [List.take_succ_eq_append_getElem h1]
  congr 2
  rw [List.getElem_reverse]
  exact (List.getElem?_eq_some_iff.1 h).2
set_option maxRecDepth 100000 in
set_option maxHeartbeats 8000000 in
theorem law_same {w : World} {v va : Value} {l0 : List (Int × Int)} {ag : List Int} {from_ : Int} (h : EIs w v l0) (hr : ∀ e ∈ l0, InR64 e.1 ∧ InR64 e.2) (ha : NIs w va ag) (har : ∀ n ∈ ag, InR64 n) (hfr : InR64 from_) :
    Calls Try.prog 5 #[v, va, .int .i64 from_] w fun e w' => e = .returned (.bool true) ∧ Below w.heap.size w w' := by
  have HC := Lib.hid (cut_any h)
  have HR : Hid (∀ e ∈ l0.take 24, InR64 e.1 ∧ InR64 e.2) := Lib.hid (fun e he => hr e (List.mem_of_mem_take he))
  have hl : (l0.take 24).length ≤ 24 := by rw [List.length_take]; omega
  generalize l0.take 24 = l at HC HR hl
  have HA := Lib.hid ha
  have HAR := Lib.hid har
  have HFR := Lib.hid hfr
  clear h hr ha har hfr
  go_enter Try.func5, Try.ntmps5
  go_wp2_with fail
  refine (HC.out).mono ?_
  rintro e w1 ⟨v1, rfl, he1, rfl⟩
  have HE := Lib.hid he1
  obtain ⟨A, cap, rfl, hc1, hc2, _⟩ := he1
  unfold maxLen at hc2
  have hlI : (l.length : Int) ≤ 24 := by omega
  have HL := Lib.hid hl
  clear hl HC
  go_wp2_with fail
  go_loopw [7, 22] (fun mv iv wr => ∃ k : Nat, k ≤ l.length ∧ iv = .int .i64 k ∧ RowIs wr 2 mv (l.reverse.take k).length (edgesC (l.reverse.take k)) ∧ (∀ b, mv.ownBlock = some b → w1.heap.size ≤ b) ∧ Below w1.heap.size w1 wr) (fun _ iv _ => l.length - (intOf iv).toNat)
  case atStart => exact ⟨0, Nat.zero_le _, rfl, RowIs.nil _ _, (fun b e => by cases e), Below.refl _ _⟩
  case round =>
    obtain ⟨k, hk, rfl, hrow, ho, hb⟩ := hrel
    have HB := Lib.hid hb
    have HO := Lib.hid ho
    have HRW := Lib.hid hrow
    by_cases hlt : k < l.length
    · have hx : l[l.length - 1 - k]? = some (l[l.length - 1 - k]'(by omega)) := List.getElem?_eq_getElem _
      generalize l[l.length - 1 - k]'(by omega) = e at hx
      obtain ⟨A', cap', e', _, _, h3⟩ := HE.out.below hb
      injection e' with e1 _ e3
      subst e1 e3
      obtain ⟨a, rfl, hab, k0, k1⟩ := h3 _ e hx
      obtain ⟨x, y⟩ := e
      have HRV := Lib.hid (rev_at hlt hx)
      obtain ⟨j, hj⟩ : ∃ j, l.length - 1 - k = j := ⟨_, rfl⟩
      rw [hj] at k0 k1
      have hi : (k : Int) < (l.length : Int) := by omega
      have hjI : (l.length : Int) - 1 - (k : Int) = (j : Int) := by omega
      have hjl : (j : Int) < (l.length : Int) := by omega
      have k1' : wr.cell? ⟨(a.add (j * 2)).block, (a.add (j * 2)).off + 1, none⟩ = some (.int .i64 y) := k1
      have hlen : (l.reverse.take k).length ≤ 1000000 := by rw [List.length_take, List.length_reverse]; omega
      obtain ⟨v2, w2, hr2, hrow2, ht2, ho2⟩ := app_edgeR x y 22 hrow hlen
      have HR2 : Hid (RowIs w2 2 v2 (l.reverse.take (k + 1)).length (edgesC (l.reverse.take (k + 1)))) := Lib.hid (by rw [HRV.out]; exact hrow2)
      have HO2 : Hid (∀ b, v2.ownBlock = some b → w1.heap.size ≤ b) := Lib.hid (fun b e => (ho2 b e).elim (fun e => ho b e) (fun e => by have := hb.size; omega))
      have HB2 : Hid (Below w1.heap.size w1 w2) := Lib.hid (hb.trans (ht2.below (fun b e => ho b e) hb.size))
      have HLT := Lib.hid hlt
      clear h3 hx hk k1 hrow ho hb hlen hlt hrow2 ht2 ho2 hj
      go_wp2_with (at_builtin; refine wpList_app_run rfl _ _ _ _ rfl rfl rfl hr2 ?_)
      go_roundw
      case rel => exact ⟨k + 1, HLT.out, by go_num, HR2.out, HO2.out, HB2.out⟩
      case measure => have := HLT.out; simp [intOf]; omega
    · obtain rfl : k = l.length := by omega
      have HM0 : Hid (∀ e, e ∈ l ↔ e ∈ l.reverse.take l.length) := Lib.hid (fun e => by
        have e1 : l.reverse.take l.length = l.reverse := by rw [List.take_of_length_le (by simp)]
        rw [e1, List.mem_reverse])
      have HN0 : Hid ((l.reverse.take l.length).length ≤ 24) := Lib.hid (by have := HL.out; simp; omega)
      generalize l.reverse.take l.length = m0 at HRW HM0 HN0
      obtain ⟨Aa, ca, ea, hca1, hca2, _⟩ := HA.out.below hb
      subst ea
      unfold maxLen at hca2
      clear hlt hk hrow ho hb
      go_upto_block 2 with fail
      go_cut [7] from 8 to 66 (fun mv wx => ∃ m : List (Int × Int), m.length ≤ 34 ∧ (∀ e, e ∈ l ↔ e ∈ m) ∧ RowIs wx 2 mv m.length (edgesC m) ∧ (∀ b, mv.ownBlock = some b → w1.heap.size ≤ b) ∧ Below w1.heap.size w1 wx)
      case first =>
        go_wp2_with fail
        go_loopw [7, 39] (fun mv iv wr => ∃ (k : Nat) (m : List (Int × Int)), k ≤ ag.length ∧ k ≤ 10 ∧ iv = .int .i64 k ∧ m.length ≤ 24 + k ∧ (∀ e, e ∈ l ↔ e ∈ m) ∧ RowIs wr 2 mv m.length (edgesC m) ∧ (∀ b, mv.ownBlock = some b → w1.heap.size ≤ b) ∧ Below w1.heap.size w1 wr) (fun _ iv _ => 10 - (intOf iv).toNat)
        case atStart => exact ⟨0, m0, Nat.zero_le _, Nat.zero_le _, rfl, HN0.out, HM0.out, HRW.out, HO.out, HB.out⟩
        case round =>
          obtain ⟨k, m, hk, hk10, rfl, hml, hmem, hrow, ho, hb⟩ := hrel
          have HB9 := Lib.hid hb
          have HO9 := Lib.hid ho
          have HR9 := Lib.hid hrow
          have HMM := Lib.hid hmem
          have HML := Lib.hid hml
          have HK10 := Lib.hid hk10
          by_cases hlt : k < ag.length
          · have hx : ag[k]? = some ag[k] := List.getElem?_eq_getElem hlt
            have hnr := HAR.out _ (List.getElem_mem hlt)
            generalize ag[k] = n at hx hnr
            obtain ⟨_, _, e', _, _, h3⟩ := HA.out.below hb
            injection e' with e1 _ e3
            subst e1 e3
            obtain ⟨a, rfl, hab, k0⟩ := h3 k n hx
            have hi : (k : Int) < (ag.length : Int) := by omega
            have HLT := Lib.hid hlt
            by_cases h10 : 10 ≤ k
            · have q1 : (10 ≤ (k : Int)) = True := eq_true (by omega)
              clear h3 hx hk hk10 hml hmem hrow ho hb hlt h10 hnr
              go_wp2_with fail
              go_meet
              exact ⟨m, by have := HML.out; have := HK10.out; omega, HMM.out, HR9.out, HO9.out, HB9.out⟩
            · have q1 : (10 ≤ (k : Int)) = False := eq_false (by omega)
              have HK9 : Hid (k + 1 ≤ 10) := Lib.hid (by omega)
              by_cases hl0 : l.length = 0
              · have q2 : ((l.length : Int) == 0) = true := by rw [hl0]; rfl
                have HL0 := Lib.hid hl0
                clear h3 hx hk hk10 hml hmem hrow ho hb hlt h10 hnr hl0
                go_wp2_with fail
                go_meet
                exact ⟨m, by have := HML.out; have := HK10.out; omega, HMM.out, HR9.out, HO9.out, HB9.out⟩
              · have q2 : ((l.length : Int) == 0) = false := by rw [beq_eq_false_iff_ne]; omega
                obtain ⟨c, hcl, hct⟩ := tmod_at n (m := l.length) (by omega)
                have hxe : l[c]? = some l[c] := List.getElem?_eq_getElem hcl
                have hmeme := List.getElem_mem hcl
                generalize l[c] = ed at hxe hmeme
                obtain ⟨_, _, e', _, _, h4⟩ := HE.out.below hb
                injection e' with e1 _ e3
                subst e1 e3
                obtain ⟨al, rfl, halb, m0', m1'⟩ := h4 c ed hxe
                obtain ⟨x, y⟩ := ed
                have m1'' : wr.cell? ⟨(al.add (c * 2)).block, (al.add (c * 2)).off + 1, none⟩ = some (.int .i64 y) := m1'
                obtain ⟨v2, w2, hr2, hrow2, ht2, ho2⟩ := app_edgeR x y 22 hrow (by omega)
                have HR2 := Lib.hid hrow2
                have HO2 : Hid (∀ b, v2.ownBlock = some b → w1.heap.size ≤ b) := Lib.hid (fun b e => (ho2 b e).elim (fun e => ho b e) (fun e => by have := hb.size; omega))
                have HB2 : Hid (Below w1.heap.size w1 w2) := Lib.hid (hb.trans (ht2.below (fun b e => ho b e) hb.size))
                have HM2 : Hid (∀ e, e ∈ l ↔ e ∈ m ++ [(x, y)]) := Lib.hid (fun e => by
                  rw [List.mem_append, List.mem_singleton, ← hmem]
                  exact ⟨.inl, fun h => h.elim id (fun h => by rw [h]; exact hmeme)⟩)
                have hcI : (c : Int) < (l.length : Int) := by omega
                clear h3 hx hk hk10 hml hmem hrow ho hb hlt h10 hnr hl0 hxe hmeme h4 m1' hrow2 ht2 ho2
                rcases hct with hct | ⟨hct, hc0⟩
                · clear hcl
                  go_wp2_with (at_builtin; refine wpList_app_run rfl _ _ _ _ rfl rfl rfl hr2 ?_)
                  go_roundw
                  case rel => exact ⟨k + 1, m ++ [(x, y)], HLT.out, HK9.out, by go_num, by rw [List.length_append, List.length_singleton]; have := HML.out; omega, HM2.out, HR2.out, HO2.out, HB2.out⟩
                  case measure => have := HK9.out; simp [intOf]; omega
                · have q3 : (-(c : Int) < 0) = True := eq_true (by omega)
                  have hcI2 : (c : Int) ≤ 24 := by omega
                  have hc1 : (1 : Int) ≤ (c : Int) := by omega
                  clear hcl hc0
                  go_wp2_with (at_builtin; refine wpList_app_run rfl _ _ _ _ rfl rfl rfl hr2 ?_)
                  go_roundw
                  case rel => exact ⟨k + 1, m ++ [(x, y)], HLT.out, HK9.out, by go_num, by rw [List.length_append, List.length_singleton]; have := HML.out; omega, HM2.out, HR2.out, HO2.out, HB2.out⟩
                  case measure => have := HK9.out; simp [intOf]; omega
          · obtain rfl : k = ag.length := by omega
            clear hk hk10 hml hmem hrow ho hb hlt
            go_wp2_with fail
            go_meet
            exact ⟨m, by have := HML.out; have := HK10.out; omega, HMM.out, HR9.out, HO9.out, HB9.out⟩
      case rest =>
        obtain ⟨m, hml, hmm, hrow, ho, hb⟩ := hcut
        have HMR : Hid (∀ e ∈ m, InR64 e.1 ∧ InR64 e.2) := Lib.hid (fun e he => HR.out e ((hmm e).2 he))
        have HMM := Lib.hid hmm
        have HML := Lib.hid hml
        have HBC := Lib.hid hb
        have HEL := Lib.hid (HE.out.below hb)
        have HEM := Lib.hid hrow.edges
        have HO1 := Lib.hid (ours_any HEL.out (by have := HL.out; omega))
        clear hmm hml hb hrow ho
        go_wp2_with fail
        refine (HO1.out).mono ?_
        rintro e w2 ⟨xa, rfl, ha2, hb2⟩
        have HO2 := Lib.hid (ours_any (HEM.out.below hb2) (by have := HML.out; omega))
        have HXA := Lib.hid ha2
        have HB2 := Lib.hid (HBC.out.trans (hb2.mono HBC.out.size))
        clear ha2 hb2 HO1
        go_wp2_with fail
        refine (HO2.out).mono ?_
        rintro e w3 ⟨xb, rfl, ha3, hb3⟩
        have HXB := Lib.hid ha3
        have HXA3 := Lib.hid (HXA.out.below hb3)
        have HB3 := Lib.hid (HB2.out.trans (hb3.mono HB2.out.size))
        have HOA := Lib.hid (order_any HXA3.out HR.out (by have := HL.out; omega))
        clear ha3 hb3 HO2
        go_wp2_with fail
        refine (HOA.out).mono ?_
        rintro e w4 ⟨va4, oa, ba, nsa, rfl, hka, hoa, hfa, hta, hva, _, hb4⟩
        have HB4 := Lib.hid (HB3.out.trans (hb4.mono HB3.out.size))
        have HXA4 := Lib.hid (HXA3.out.below hb4)
        have HXB4 := Lib.hid (HXB.out.below hb4)
        have HVA4 := Lib.hid hva
        have hoal : oa.length ≤ 48 := by
          cases ba with
          | false => rw [hfa rfl]; simp
          | true => have h1 := (hta rfl).2; have h2 := hka.few; have := HL.out; omega
        have HOAL := Lib.hid hoal
        have HKA := Lib.hid hka
        have HOA2 := Lib.hid hoa
        have HFA := Lib.hid hfa
        have HOB := Lib.hid (order_any HXB4.out HMR.out (by have := HML.out; omega))
        clear hka hoa hfa hta hva hb4 hoal HOA
        go_wp2_with fail
        refine (HOB.out).mono ?_
        rintro e w5 ⟨vb5, ob, bb, nsb, rfl, hkb, hob, hfb, _, hvb, _, hb5⟩
        obtain ⟨e1, e2⟩ := ord_uniq HMM.out HKA.out hkb HOA2.out hob HFA.out hfb
        subst e1 e2
        have HB5 := Lib.hid (HB4.out.trans (hb5.mono HB4.out.size))
        have HXA5 := Lib.hid (HXA4.out.below hb5)
        have HXB5 := Lib.hid (HXB4.out.below hb5)
        have HVA5 := Lib.hid (HVA4.out.below hb5)
        have HVB5 := Lib.hid hvb
        have HCA := Lib.hid (circles_any HXA5.out HR.out (by have := HL.out; omega))
        clear hkb hob hfb hvb hb5 HOB
        go_wp2_with fail
        refine (HCA.out).mono ?_
        rintro e w6 ⟨vc6, ca6, rfl, hca6, hvc6, _, hb6⟩
        have HB6 := Lib.hid (HB5.out.trans (hb6.mono HB5.out.size))
        have HXA6 := Lib.hid (HXA5.out.below hb6)
        have HXB6 := Lib.hid (HXB5.out.below hb6)
        have HVA6 := Lib.hid (HVA5.out.below hb6)
        have HVB6 := Lib.hid (HVB5.out.below hb6)
        have HCP := Lib.hid hca6
        have HVC6 := Lib.hid hvc6
        have HCB := Lib.hid (circles_any HXB6.out HMR.out (by have := HML.out; omega))
        clear hca6 hvc6 hb6 HCA
        go_wp2_with fail
        refine (HCB.out).mono ?_
        rintro e w7 ⟨vc7, cb7, rfl, hcb7, hvc7, _, hb7⟩
        have := HCP.out.uniq hcb7 HMM.out
        subst this
        have HB7 := Lib.hid (HB6.out.trans (hb7.mono HB6.out.size))
        have HXA7 := Lib.hid (HXA6.out.below hb7)
        have HXB7 := Lib.hid (HXB6.out.below hb7)
        have HVA7 := Lib.hid (HVA6.out.below hb7)
        have HVB7 := Lib.hid (HVB6.out.below hb7)
        have HI7 := Lib.hid (ints_same (HVC6.out.below hb7) hvc7 (by have := HCP.out.few; have := HL.out; omega))
        clear hcb7 hvc7 hb7 HCB
        go_wp2_with fail
        refine (HI7.out).mono ?_
        rintro e w8 ⟨rfl, hb8⟩
        have HB8 := Lib.hid (HB7.out.trans (hb8.mono HB7.out.size))
        have HXA8 := Lib.hid (HXA7.out.below hb8)
        have HXB8 := Lib.hid (HXB7.out.below hb8)
        have HVA8 := Lib.hid (HVA7.out.below hb8)
        have HVB8 := Lib.hid (HVB7.out.below hb8)
        have HRA := Lib.hid (reach_any3 HXA8.out HR.out (by have := HL.out; omega) HFR.out)
        clear hb8 HI7
        go_wp2_with fail
        refine (HRA.out).mono ?_
        rintro e w9 ⟨vr9, ra9, rfl, hra9, hri9, hvr9, _, hb9⟩
        have HB9 := Lib.hid (HB8.out.trans (hb9.mono HB8.out.size))
        have HXB9 := Lib.hid (HXB8.out.below hb9)
        have HVA9 := Lib.hid (HVA8.out.below hb9)
        have HVB9 := Lib.hid (HVB8.out.below hb9)
        have HRP := Lib.hid hra9
        have HRR := Lib.hid hri9
        have HVR9 := Lib.hid hvr9
        have HRB := Lib.hid (reach_any3 HXB9.out HMR.out (by have := HML.out; omega) HFR.out)
        clear hra9 hri9 hvr9 hb9 HRA
        go_wp2_with fail
        refine (HRB.out).mono ?_
        rintro e w10 ⟨vr10, rb10, rfl, hrb10, hri10, hvr10, _, hb10⟩
        have := HRP.out.uniq hrb10 HRR.out hri10 HMM.out
        subst this
        have HB10 := Lib.hid (HB9.out.trans (hb10.mono HB9.out.size))
        have HVA10 := Lib.hid (HVA9.out.below hb10)
        have HVB10 := Lib.hid (HVB9.out.below hb10)
        have HI10 := Lib.hid (ints_same (HVR9.out.below hb10) hvr10 (by have := HRP.out.few; have := HL.out; omega))
        clear hrb10 hri10 hvr10 hb10 HRB
        go_wp2_with fail
        refine (HI10.out).mono ?_
        rintro e w11 ⟨rfl, hb11⟩
        have HB11 := Lib.hid (HB10.out.trans (hb11.mono HB10.out.size))
        have HI11 := Lib.hid (ints_same (HVA10.out.below hb11) (HVB10.out.below hb11) (by have := HOAL.out; omega))
        clear hb11 HI10
        go_wp2_with fail
        refine (HI11.out).mono ?_
        rintro e w12 ⟨rfl, hb12⟩
        have HB12 := Lib.hid (HB11.out.trans (hb12.mono HB11.out.size))
        have HAW := Lib.hid (awake_any w12)
        clear hb12 HI11
        go_wp2_with fail
        refine (HAW.out).mono ?_
        rintro e w13 ⟨rfl, hb13⟩
        have HB13 := Lib.hid (HB12.out.trans (hb13.mono HB12.out.size))
        clear hb13 HAW
        go_wp2_with fail
        go_ret
        first | exact HB13.out | exact ⟨rfl, HB13.out⟩
end Go.Proofs.Ytmpjimoefjcmhaa
