/- lock: Release, walked. -/
import Derived.Test.YtmchmlkbpocboaaGreatDoorZLkaC
set_option linter.unusedSimpArgs false
set_option linter.unusedVariables false
set_option linter.unnecessarySimpa false
namespace Go.Proofs.YtmchmlkbpocboaaGreatDoor
open Go.RowKit
open Go.Maps (Keyed)

set_option maxRecDepth 100000 in
set_option maxHeartbeats 4000000 in
theorem Release_any {w : World} {tb gl gw : Nat} {L : List Le} {WT : List Wt} {ro : Nat → Nat} (h : TbAt w tb gl gw L WT ro) (hf : Few 1000 L WT) (who : Int) (hw : InR64 who) : Calls Tryz.prog 21 #[.pointer (some ⟨tb, 0, none⟩), .int .i64 who] w (RelQ w tb gl gw ro (tbOf L WT) who) := by
  have HKE := Lib.hid (keys_any h ⟨by have := hf.1; omega, by have := hf.2.1; omega, fun e he => by have := hf.2.2 e he; omega⟩ who hw)
  have HT := Lib.hid h
  have HF := Lib.hid hf
  have HWH := Lib.hid hw
  obtain ⟨T, hT⟩ : ∃ T, tbOf L WT = T := ⟨_, rfl⟩
  rw [hT] at HKE ⊢
  have HTT := Lib.hid hT
  clear h hf hw hT
  go_enter Tryz.func21, Tryz.ntmps21
  go_wp2_with fail
  refine (HKE.out).mono ?_
  rintro e w1 ⟨Ak, ck, ks, rfl, hrk, hok, hks, hb1, hkl⟩
  have HKS := Lib.hid hks
  have hkn : ks.length ≤ 1000 := by
    have h1 := HF.out.1
    rw [← HTT.out] at hkl
    unfold tbOf at hkl
    simp only [List.length_map] at hkl
    omega
  have ht1 := HT.out.below hb1
  have t1 : w1.cell? ⟨tb, 1, none⟩ = some (.map (some gw)) := cell_of ht1.head 1
  obtain ⟨w2, hdel, ht2, htt2⟩ := ht1.nowait HWH.out
  have HT2 := Lib.hid ht2
  have HS2 : Hid (TStep w w2 ro ro) := Lib.hid (TStep.ahead hb1 ⟨htt2.mono (fun k _ e => by rw [e, ht1.rw]; decide), fun _ _ => rfl⟩)
  have hro0 : ∀ g, w.heap.size ≤ g → ro g = 0 := fun g hg => by
    by_cases e : ro g = 0
    · exact e
    · have := HT.out.lt g e; omega
  have HRO0 := Lib.hid hro0
  have hrk2 := hrk.touch htt2 (fun g hg e => by have h7 := hro0 g (hok g hg); rw [e, ht1.rw] at h7; cases h7)
  have HRK := Lib.hid hrk2
  have HOK := Lib.hid hok
  have HKN := Lib.hid hkn
  have hkI : (ks.length : Int) ≤ 1000 := by omega
  obtain ⟨T0, hT0⟩ : ∃ T0, tbOf L (WT.filter fun e => e.1 != who) = T0 := ⟨_, rfl⟩
  have HT0 : Hid (T0 = noWait T [who]) := Lib.hid (by rw [← hT0, nowait_tb, HTT.out])
  have HT0' := Lib.hid hT0
  obtain ⟨_, _, ekk, _⟩ := id hrk.form
  cases ekk
  clear hks hrk hb1 hkl hkn hok ht1 ht2 htt2 hro0 hrk2 hT0
  go_wp2_with fail
  go_loopw [6, 24] (fun s i wr => ∃ (k : Nat) (L' : List Le) (WT' : List Wt) (ro' : Nat → Nat) (sv : List Int) (A : Option Addr) (c : Nat), k ≤ ks.length ∧ i = .int .i64 k ∧ s = .slice A sv.length c ∧ RelR w2 wr tb gl gw ro T0 who ks k L' WT' ro' sv A c) (fun _ i _ => ks.length - (intOf i).toNat)
  case atStart => exact ⟨0, L, _, ro, [], none, 0, Nat.zero_le _, rfl, rfl, HT2.out, by rw [HT0'.out]; rfl, TStep.refl _ _, RowIs.nil _ _, (fun g e => by cases e), fun i x _ _ => by rw [HT0'.out], Nat.zero_le _, fun y hy => by cases hy⟩
  case round =>
    obtain ⟨k, L', WT', ro', sv, A, c, hk, rfl, rfl, hR⟩ := hrel
    obtain ⟨wi, rfl⟩ : ∃ wi, wi = wr := ⟨_, rfl⟩
    have HR := Lib.hid hR
    have hrki := HRK.out.touch hR.step.touch (fun g hg e => e (HRO0.out g (HOK.out g hg)))
    obtain ⟨_, _, ekk, _, _, _, _, hkc⟩ := id hrki.form
    cases ekk
    by_cases hlt : k < ks.length
    · have hx : ks[k]? = some ks[k] := List.getElem?_eq_getElem hlt
      have HTK : Hid (ks.take (k + 1) = ks.take k ++ [ks[k]]) := Lib.hid (List.take_succ_eq_append_getElem hlt)
      generalize ks[k] = key at hx HTK
      obtain ⟨gk, rfl, q0⟩ := hkc _ _ (strs_at hx)
      have t0 : wi.cell? ⟨tb, 0, none⟩ = some (.map (some gl)) := cell_of hR.tab.head 0
      obtain ⟨M, cM, hm, hmL⟩ := hR.tab.lanes
      have hlT : ∃ l, laneP T0 key = some l := by
        obtain ⟨l, hl, _⟩ := (HKS.out.2 key).1 (List.mem_of_getElem? hx)
        exact ⟨l, by rw [HT0.out, laneP_no]; exact hl⟩
      obtain ⟨l, hl0⟩ := hlT
      have hl := (hR.todo k key (Nat.le_refl _) hx).trans hl0
      rw [laneP_tb] at hl
      obtain ⟨x, hfx, hxl⟩ : ∃ x, L'.find? (fun e => e.key == key) = some x ∧ x.l = l := by
        cases hfx : L'.find? (fun e => e.key == key) with
        | none => rw [hfx] at hl; cases hl
        | some x => rw [hfx] at hl; exact ⟨x, rfl, by simpa using hl⟩
      have hxm := List.mem_of_find?_eq_some hfx
      have hxk := List.find?_some hfx
      rw [beq_iff_eq] at hxk
      obtain ⟨j, hj⟩ := List.getElem?_of_mem hxm
      have hkk1 : key.length ≤ 1000 := by rw [← hxk]; exact hR.tab.keys x hxm
      have hlook := lanes_look hm hmL hkk1
      rw [hfx] at hlook
      have hfew : x.l.held.length + x.l.row.length ≤ 1000 := by
        rw [hxl]
        have h1 : laneP (tbOf L WT) key = some l := by rw [HTT.out]; rw [HT0.out, laneP_no] at hl0; exact hl0
        rw [laneP_tb] at h1
        cases hf0 : L.find? (fun e => e.key == key) with
        | none => rw [hf0] at h1; cases h1
        | some y =>
          rw [hf0] at h1
          have h2 : y.l = l := by simpa using h1
          rw [← h2]
          exact HF.out.2.2 y (List.mem_of_find?_eq_some hf0)
      have hln := hR.tab.ln x hxm
      have HST := Lib.hid (strike_any hln HWH.out (by omega))
      have HSTEP : Hid (relStepP who (tbOf L' WT', sv) key = (if (relLane x.l who).1.held = [] then delLane (tbOf L' WT') key else setLane (tbOf L' WT') key (relLane x.l who).1, sv ++ (relLane x.l who).2)) := Lib.hid (relStep_at (by rw [laneP_tb, hfx]; rfl))
      obtain ⟨K, hK⟩ : ∃ K, (⟨key.toArray⟩ : ByteArray) = K := ⟨_, rfl⟩
      replace hlook : (Instr.lookup 61 (.map (some gl)) (.string K) false).run Tryz.prog wi = .ok (.pointer (some ⟨x.b, 0, none⟩)) wi := by rw [← hK]; exact hlook
      replace q0 : wi.cell? ⟨gk, k, none⟩ = some (.string K) := by rw [← hK]; exact q0
      have HK := Lib.hid hK
      have HJ := Lib.hid (And.intro hj hxk)
      have HFEW := Lib.hid hfew
      have HX := Lib.hid hx
      have hi : (k : Int) < (ks.length : Int) := by omega
      have HLT := Lib.hid hlt
      clear hR hrki hkc hx hm hmL hl0 hl hxl hfx hxm hxk hj hkk1 hfew hln hlt hk hK
      go_wp2_with fail
      refine (HST.out).mono ?_
      rintro e w3 ⟨rv3, rfl, hl3, ht3, ho3⟩
      have HSE := Lib.hid (serve_any hl3 (by have := List.length_filter_le (fun c : Cm => c.who != who) x.l.row; have := HFEW.out; show (x.l.row.filter _).length ≤ _; omega) (by
        have h1 := List.length_filter_le (fun c : Cm => c.who != who) x.l.row
        have h2 := List.length_filter_le (· != who) x.l.held
        have := HFEW.out
        show (x.l.held.filter _).length + (x.l.row.filter _).length ≤ _
        omega))
      have HL3 := Lib.hid (And.intro hl3 (And.intro ht3 ho3))
      clear hl3 ht3 ho3 q0 t0 hlook
      go_wp2_with fail
      refine (HSE.out).mono ?_
      intro e w4 hse
      obtain ⟨rv4, ro4, A4, _, c4, rfl, _, hrow4, hown4, htb4, hs4, hln4⟩ := HR.out.tab.relLane HJ.out.1 HL3.out.1 HL3.out.2.1 HL3.out.2.2 hse
      have HSV4 := Lib.hid (relLane_len x.l who)
      have HMM := Lib.hid (fun y => relLane_mem (l := x.l) (who := who) (y := y))
      obtain ⟨q, hq⟩ : ∃ q, relLane x.l who = q := ⟨_, rfl⟩
      rw [hq] at hrow4 hown4 htb4 hln4 HSTEP HSV4 HMM ⊢
      obtain ⟨ql, qs⟩ := q
      dsimp only at hrow4 hown4 htb4 hln4 HSV4 HSTEP ⊢
      have hrowS : RowIs w4 1 (.slice A sv.length c) sv.length (ints sv) := HR.out.row.touch hs4.touch (fun g hg e => e (HR.out.own g hg).2)
      obtain ⟨A5, c5, w5, hr5, hrow5, ht5, ho5⟩ := app_ints 38 hrowS hrow4 (by
        have h1 := HR.out.few
        have h2 := HSV4.out
        have h3 := HFEW.out
        have h4 : k * 1000 ≤ 1000 * 1000 := Nat.mul_le_mul_right _ (by have := HLT.out; have := HKN.out; omega)
        omega)
      have htb5 := htb4.keep ht5 (fun g hg => by
        have h1 := HR.out.own g hg
        rw [hs4.old g (HR.out.row.lt g hg)]
        exact h1.2)
      have hs5 : TStep w2 w5 ro ro4 := by
        refine ⟨(HR.out.step.trans hs4).touch.trans ht5 (fun i hi e => ?_), (HR.out.step.trans hs4).old⟩
        have h1 := HR.out.own i e
        omega
      have hown5 : ∀ g, (Value.slice A5 (sv ++ qs).length c5).ownBlock = some g → w2.heap.size ≤ g ∧ ro4 g = 0 := fun g hg => by
        rcases ho5 g hg with h1 | h1
        · have h2 := HR.out.own g h1
          exact ⟨h2.1, by rw [hs4.old g (HR.out.row.lt g h1)]; exact h2.2⟩
        · refine ⟨Nat.le_trans (HR.out.step.trans hs4).touch.size h1, ?_⟩
          by_cases e : ro4 g = 0
          · exact e
          · have := htb4.lt g e; omega
      have hj4 : (L'.set j { x with rv := rv4, l := ql })[j]? = some { x with rv := rv4, l := ql } := by
        rw [List.getElem?_set, if_pos rfl, if_pos (List.getElem?_eq_some_iff.1 HJ.out.1).1]
      have hln5 := htb5.ln _ (List.mem_of_getElem? hj4)
      have HSET := Lib.hid hln5.held
      have m0 : w5.cell? ⟨x.b, 0, none⟩ = some (.map (some x.gh)) := cell_of hln5.head 0
      have HRUN := Lib.hid hr5
      have HTB5 := Lib.hid htb5
      have HS5 := Lib.hid hs5
      have HROW5 := Lib.hid (And.intro hrow5 hown5)
      have HJ4 := Lib.hid hj4
      have HTODO : Hid (∀ (T' : Tb), T' = (if ql.held = [] then delLane (tbOf L' WT') key else setLane (tbOf L' WT') key ql) → ∀ i y, k + 1 ≤ i → ks[i]? = some y → laneP T' y = laneP T0 y) := Lib.hid (fun T' e i y hi hy => by
        have hne : y ≠ key := fun e2 => by
          have h1 := nodup_at (f := fun z : KeyT => z) (by rw [List.map_id']; exact HKS.out.1.nodup keyO) hy HX.out e2
          omega
        rw [e]
        split
        · rw [laneP_del, if_neg hne]
          exact HR.out.todo i y (by omega) hy
        · rw [laneP_set, if_neg hne]
          exact HR.out.todo i y (by omega) hy)
      have HFE : Hid ((sv ++ qs).length ≤ (k + 1) * 1000) := Lib.hid (by
        have h1 := HR.out.few
        have h2 := HSV4.out
        have h3 := HFEW.out
        rw [List.length_append, Nat.add_mul]
        omega)
      have HEQ : Hid (∀ T' : Tb, T' = (if ql.held = [] then delLane (tbOf L' WT') key else setLane (tbOf L' WT') key ql) → (T', sv ++ qs) = (ks.take (k + 1)).foldl (relStepP who) (T0, [])) := Lib.hid (fun T' e => by
        rw [HTK.out, List.foldl_append, ← HR.out.eq]
        show _ = relStepP who (tbOf L' WT', sv) key
        rw [HSTEP.out, e])
      have HNL := Lib.hid HR.out.tab.nodup
      have HNUM : Hid (∀ y ∈ sv ++ qs, InR64 y) := Lib.hid (fun y hy => by
        rcases List.mem_append.1 hy with hy | hy
        · exact HR.out.nums y hy
        · obtain ⟨cm, hcm, e⟩ := HMM.out y hy
          rw [← e]
          exact (HR.out.tab.ln x (List.mem_of_getElem? HJ.out.1)).nums cm hcm)
      clear hq hrow4 hown4 htb4 hln4 hrowS hr5 hrow5 ht5 ho5 htb5 hs5 hown5 hj4 hln5 hs4
      obtain ⟨nh, hnh⟩ : ∃ nh, ql.held.length = nh := ⟨_, rfl⟩
      have HNH := Lib.hid hnh
      by_cases hz : nh = 0
      · have hnb : ((nh : Int) == 0) = true := by rw [beq_iff_eq]; omega
        have hq0 : ql.held = [] := List.eq_nil_of_length_eq_zero (hnh.trans hz)
        obtain ⟨w6, hdel6, htb6, htt6⟩ := HTB5.out.drop HJ4.out
        have HDEL : Hid (∀ ty, (Builtin.delete_ #[61, 9] ty #[.map (some gl), .string K]).run Tryz.prog w5 = .ok (.tuple #[]) w6) := Lib.hid (fun ty => by
          have h1 := hdel6 ty
          have h2 : strV x.key = .string K := by rw [HJ.out.2]; unfold strV; rw [HK.out]
          rw [← h2]
          exact h1)
        have t5 : w5.cell? ⟨tb, 0, none⟩ = some (.map (some gl)) := cell_of HTB5.out.head 0
        have HF6 : Hid (∃ L6 WT6 ro6 A6 c6, .slice A5 (sv ++ qs).length c5 = Value.slice A6 (sv ++ qs).length c6 ∧ RelR w2 w6 tb gl gw ro T0 who ks (k + 1) L6 WT6 ro6 (sv ++ qs) A6 c6) := Lib.hid (by
          have hT6 : tbOf ((L'.set j { x with rv := rv4, l := ql }).eraseIdx j) WT' = delLane (tbOf L' WT') key := by
            rw [← del_tb (WT := WT') HTB5.out.nodup HJ4.out, ← setLane_set (WT := WT') HNL.out HJ.out.1 rv4 ql]
            show delLane (setLane (tbOf L' WT') x.key ql) x.key = _
            rw [HJ.out.2]
            have hany : (tbOf L' WT').lanes.any (fun e => e.1 == key) = true := List.any_eq_true.2 ⟨(x.key, x.l), List.mem_map.2 ⟨x, List.mem_of_getElem? HJ.out.1, rfl⟩, by rw [HJ.out.2]; simp⟩
            unfold setLane delLane
            rw [if_pos hany]
            simp only [Tb.mk.injEq, and_true]
            rw [List.filter_map]
            have : ((tbOf L' WT').lanes.filter ((fun e : KeyT × Ln => e.1 != key) ∘ fun e => if e.1 = key then (key, ql) else e)) = (tbOf L' WT').lanes.filter (fun e => e.1 != key) := List.filter_congr fun e _ => by
              show ((if e.1 = key then (key, ql) else e).1 != key) = _
              split
              · next h => rw [h]
              · rfl
            rw [this]
            refine (List.map_congr_left fun e he => ?_).trans (List.map_id _)
            have := (List.mem_filter.1 he).2
            rw [bne_iff_ne] at this
            rw [if_neg this]; rfl
          refine ⟨_, WT', ro4, A5, c5, rfl, htb6, ?_, HS5.out.trans ⟨htt6.mono (fun g _ e => by rw [e, HTB5.out.rl]; decide), fun _ _ => rfl⟩, HROW5.out.1.touch htt6 (fun g hg e => by have h7 := (HROW5.out.2 g hg).2; rw [e, HTB5.out.rl] at h7; cases h7), HROW5.out.2, ?_, HFE.out, HNUM.out⟩
          · rw [hT6]
            exact HEQ.out _ (by rw [if_pos hq0])
          · rw [hT6]
            exact HTODO.out _ (by rw [if_pos hq0]))
        have hd := HDEL.out
        clear hdel6 htb6 htt6 hz hnh hq0
        go_wp2_with (first | (at_builtin; refine wpList_app_run rfl _ _ _ _ rfl rfl rfl HRUN.out ?_) | (with_reducible refine wpList_set_len HSET.out rfl (.tmp 44) rfl rfl ?_; rw [HNH.out]))
        go_roundw
        case rel =>
          obtain ⟨L6, WT6, ro6, A6, c6, e6, hR6⟩ := HF6.out
          injection e6 with e61 e62 e63
          subst e61 e63
          exact ⟨k + 1, L6, WT6, ro6, sv ++ qs, A5, c5, HLT.out, by go_num, by simp, hR6⟩
        case measure => have := HLT.out; simp [intOf]; omega
      · have hnb : ((nh : Int) == 0) = false := by rw [beq_eq_false_iff_ne]; omega
        have hq0 : ql.held ≠ [] := fun e => hz (by rw [← hnh, e]; rfl)
        have t5 : w5.cell? ⟨tb, 0, none⟩ = some (.map (some gl)) := cell_of HTB5.out.head 0
        have HF6 : Hid (RelR w2 w5 tb gl gw ro T0 who ks (k + 1) (L'.set j { x with rv := rv4, l := ql }) WT' ro4 (sv ++ qs) A5 c5) := Lib.hid (by
          have hT6 : tbOf (L'.set j { x with rv := rv4, l := ql }) WT' = setLane (tbOf L' WT') key ql := by
            rw [← setLane_set (WT := WT') HNL.out HJ.out.1 rv4 ql, HJ.out.2]
          refine ⟨HTB5.out, ?_, HS5.out, HROW5.out.1, HROW5.out.2, ?_, HFE.out, HNUM.out⟩
          · rw [hT6]
            exact HEQ.out _ (by rw [if_neg hq0])
          · rw [hT6]
            exact HTODO.out _ (by rw [if_neg hq0]))
        clear hz hnh hq0
        go_wp2_with (first | (at_builtin; refine wpList_app_run rfl _ _ _ _ rfl rfl rfl HRUN.out ?_) | (with_reducible refine wpList_set_len HSET.out rfl (.tmp 44) rfl rfl ?_; rw [HNH.out]))
        go_roundw
        case rel => exact ⟨k + 1, _, WT', ro4, sv ++ qs, A5, c5, HLT.out, by go_num, by simp, HF6.out⟩
        case measure => have := HLT.out; simp [intOf]; omega
    · obtain rfl : k = ks.length := by omega
      have hn : ¬ (ks.length : Int) < (ks.length : Int) := by omega
      have hRE := hR.eq
      rw [List.take_length] at hRE
      have HRE := Lib.hid hRE
      have HREL : Hid (relP T who ks = (noWait (tbOf L' WT') sv, sv)) := Lib.hid (by
        unfold relP
        rw [← HT0.out, ← hRE])
      have hsl : sv.length ≤ 1000 * 1000 := Nat.le_trans hR.few (Nat.mul_le_mul_right _ HKN.out)
      have hslI : (sv.length : Int) ≤ 1000000 := by omega
      have HSL := Lib.hid hsl
      obtain ⟨_, _, esv, hs1, hs2, _, _, hsc⟩ := id hR.row.form
      cases esv
      have HSC := Lib.hid hsc
      clear hRE hrki hkc hlt hsc
      clear hR hk
      go_wp2_with fail
      go_loopw [55] (fun i wr => ∃ (k : Nat) (WT2 : List Wt), k ≤ sv.length ∧ i = .int .i64 k ∧ RelW wi wr tb gl gw ro' L' WT' sv k WT2) (fun i _ => sv.length - (intOf i).toNat)
      case atStart => exact ⟨0, WT', Nat.zero_le _, rfl, HR.out.tab, by rw [List.take_zero, noWait_nil], Touch.refl _ _⟩
      case round =>
        obtain ⟨k, WT2, hk, rfl, hW⟩ := hrel
        obtain ⟨wj, rfl⟩ : ∃ wj, wj = wr := ⟨_, rfl⟩
        have HWW := Lib.hid hW
        by_cases hlt : k < sv.length
        · have hx : sv[k]? = some sv[k] := List.getElem?_eq_getElem hlt
          have HTK : Hid (sv.take (k + 1) = sv.take k ++ [sv[k]]) := Lib.hid (List.take_succ_eq_append_getElem hlt)
          generalize sv[k] = y at hx HTK
          obtain ⟨gk, rfl, q0⟩ := HSC.out _ _ (ints_at hx)
          have q1 : wj.cell? ⟨gk, k, none⟩ = some (.int .i64 y) := (World.cell?_of_block (a := ⟨gk, k, none⟩) (hW.touch.block gk (heap_lt' q0) (fun e => by have h7 := (HR.out.own gk rfl).2; rw [e, HR.out.tab.rw] at h7; cases h7))).trans q0
          have hyr : InR64 y := HR.out.nums y (List.mem_of_getElem? hx)
          obtain ⟨w6, hd, htb6, htt6⟩ := hW.tab.nowait hyr
          have HN6 : Hid (RelW wi w6 tb gl gw ro' L' WT' sv (k + 1) (WT2.filter fun e => e.1 != y)) := Lib.hid ⟨htb6, by rw [nowait_tb, hW.eq, noWait_snoc, HTK.out], hW.touch.trans htt6 (fun _ _ e => e)⟩
          have t5 : wj.cell? ⟨tb, 1, none⟩ = some (.map (some gw)) := cell_of hW.tab.head 1
          have hi : (k : Int) < (sv.length : Int) := by omega
          have HLT := Lib.hid hlt
          clear hW hx q0 hyr htb6 htt6 hlt hk
          go_wp2_with fail
          go_roundw
          case rel => exact ⟨k + 1, _, HLT.out, by go_num, HN6.out⟩
          case measure => have := HLT.out; simp [intOf]; omega
        · obtain rfl : k = sv.length := by omega
          have hn : ¬ (sv.length : Int) < (sv.length : Int) := by omega
          have hrow7 := HR.out.row.touch hW.touch (fun g hg e => by have h7 := (HR.out.own g hg).2; rw [e, HR.out.tab.rw] at h7; cases h7)
          have HSO := Lib.hid (sortI_row hrow7 (by have := HSL.out; omega))
          have hW2 := hW.eq
          rw [List.take_length] at hW2
          have HW2 := Lib.hid hW2
          clear hW hlt hk hrow7 hW2
          go_wp2_with fail
          refine (HSO.out).mono ?_
          rintro e w8 ⟨rfl, hr8, ht8⟩
          have HF8 : Hid (RelQ w tb gl gw ro T who (.returned (.slice A sv.length c)) w8) := Lib.hid (by
            refine ⟨ks, A, c, HKS.out, by rw [HREL.out], by rw [HREL.out]; exact hr8, fun g hg => ?_, ?_⟩
            · rw [HREL.out] at hg
              exact Nat.le_trans HS2.out.touch.size (HR.out.own g hg).1
            · rw [HREL.out]
              refine ⟨L', WT2, ro', HWW.out.tab.keep ht8 (fun g hg => (HR.out.own g hg).2), HW2.out, ?_⟩
              have hs1 : TStep wi wj ro' ro' := ⟨HWW.out.touch.mono (fun g _ e => by rw [e, HR.out.tab.rw]; decide), fun _ _ => rfl⟩
              have hs3 := HS2.out.trans (HR.out.step.trans hs1)
              refine ⟨hs3.touch.trans ht8 (fun i hi e => ?_), hs3.old⟩
              have h1 := (HR.out.own i e).1
              have h2 := HS2.out.touch.size
              omega)
          clear hr8 ht8
          go_wp2_with fail
          refine bodyPost_ret (v := .slice A sv.length c) (by simp [results, Tryz.results21, go_sem]) rfl HF8.out
end Go.Proofs.YtmchmlkbpocboaaGreatDoor
