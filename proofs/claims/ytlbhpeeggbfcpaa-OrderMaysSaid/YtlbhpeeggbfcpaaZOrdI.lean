/- order: who waits for whom. -/
import Derived.Test.YtlbhpeeggbfcpaaZOrdH
import Derived.Test.YtlbhpeeggbfcpaaZOrdJ
set_option linter.unusedSimpArgs false
set_option linter.unusedVariables false
set_option linter.unnecessarySimpa false
namespace Go.Proofs.Ytlbhpeeggbfcpaa
open Go.RowKit
open Go.Maps (Keyed)

set_option maxRecDepth 100000 in
set_option maxHeartbeats 2000000 in
theorem Waits_any {w : World} {v : Value} {l : Gr} (h : UIs w v l) (hl : l.length ≤ 20) (hs : ∀ u ∈ l, u.2.length ≤ 20) (hn : ∀ u ∈ l, InR64 u.1) (hr : ∀ u ∈ l, ∀ s ∈ u.2, InR64 s) : Calls Try.prog 10 #[v] w fun e w' => ∃ v', e = .returned v' ∧ EIs w' v' (waitsP l) ∧ Below w.heap.size w w' := by
  have HI := Lib.hid (inTurn_any h (by omega) (fun u hu => by have := hs u hu; omega) hn)
  have HTP := Lib.hid (turnT_holds l)
  have HWS := Lib.hid (waits_same (turnT_holds l))
  have HTL : Hid (∀ u ∈ turnT l, u.2.length ≤ 1000) := Lib.hid (fun u hu => by
    unfold turnT at hu
    obtain ⟨g, _, rfl⟩ := List.mem_map.1 hu
    have h1 := site_len (m := 20) l hs g
    have h2 := rises_len (at_ (siteG l) g)
    show (rises _).length ≤ 1000
    have : l.length * 20 ≤ 400 := by omega
    omega)
  have HNR : Hid (∀ u ∈ turnT l, InR64 u.1 ∧ ∀ s ∈ u.2, InR64 s) := Lib.hid (fun u hu => by
    have h1 := turnT_holds l
    obtain ⟨v, hv, e⟩ := (h1.all u.1).1 (List.mem_map.2 ⟨u, hu, rfl⟩)
    refine ⟨by rw [← e]; exact hn v hv, fun s hs' => ?_⟩
    obtain ⟨x, hx, _, hsx⟩ := (h1.mem u hu s).1 hs'
    exact hr x hx s hsx)
  have hTl : (turnT l).length ≤ 20 := by unfold turnT; rw [List.length_map]; have := (allU_holds l).2.2; omega
  generalize turnT l = T at *
  obtain ⟨A, cap, rfl, _⟩ := h
  go_enter Try.func10, Try.ntmps10
  go_wp2_with fail
  refine (HI.out).mono ?_
  rintro e w1 ⟨v1, rfl, hU, hb1⟩
  have hmm := @run_makeMap Try.prog
  obtain ⟨A1, c1, rfl, q1, q2, _⟩ := id hU
  unfold maxLen at q2
  have HU := Lib.hid hU
  have hTI : (T.length : Int) ≤ 20 := by omega
  have hbm := below_new (w := w1) (.map #[] 0)
  obtain ⟨w2, hmk, hmr, hmb, hms⟩ := make_ints (w1.alloc (.map #[] 0)) T.length (by omega)
  rw [asz] at hmk hmr hms
  have hg0 : GAt Try.prog 3 w2 w1.heap.size w1.heap.size [] [] 0 := (GAt.made Try.prog 3 w1 (Nat.le_refl _)).below hmb
  have HW0 : Hid (WaI w1 w2 w1.heap.size (w1.heap.size + 1) [] [] 0 (List.replicate T.length 0) (.slice none 0 0) [] (.slice none 0 0) []) := Lib.hid
    ⟨hg0, by rw [List.length_replicate]; exact hmr, RowIs.nil _ _, RowIs.nil _ _, hbm.trans (hmb.mono hbm.size), ⟨by omega, by omega⟩, (fun b e => by cases e), (fun b e => by cases e), (fun e he => by cases he)⟩
  have HB1 := Lib.hid hb1
  clear hU HI hmr hmb hg0 hbm hb1 hms
  have HTS : Hid (∀ n, (sT T n).length ≤ 1000) := Lib.hid (fun n => by
    unfold sT
    cases hx : T[n]? with
    | none => simp
    | some u =>
      show u.2.length ≤ 1000
      exact HTL.out u (List.mem_of_getElem? hx))
  have HTN : Hid (∀ n, (sT T n).Nodup) := Lib.hid (fun n => by
    unfold sT
    cases hx : T[n]? with
    | none => simp
    | some u => exact (lt_le (HTP.out.rise u (List.mem_of_getElem? hx))).1)
  have HTI : Hid (∀ u ∈ T, InR64 u.1 ∧ ∀ s ∈ u.2, InR64 s) := HNR
  go_wp2_with (refine wpList_run_make _ rfl _ _ _ rfl rfl rfl hmk ?_)
  clear hmk
  go_loopw [6, 24] (fun sv iv wr => ∃ (i : Nat) (G : Gr) (L : List MapEntry) (clock : Nat) (M : List Int) (av : Value), i ≤ T.length ∧ iv = .int .i64 i ∧ av = sv ∧ WaI w1 wr w1.heap.size (w1.heap.size + 1) G L clock M av (waitsT T i) (.slice none 0 0) [] ∧ PlaI T i 0 G ∧ BtwI i M ∧ M.length = T.length) (fun _ iv _ => T.length - (intOf iv).toNat)
  case atStart => exact ⟨0, [], [], 0, _, _, Nat.zero_le _, rfl, rfl, HW0.out, PlaI.start T, BtwI.start _, by simp⟩
  case round =>
    obtain ⟨i, G, L, clock, M, av, hi0, rfl, rfl, hW, hP, hM, hML⟩ := hrel
    by_cases hlt : i < T.length
    · have hx : T[i]? = some T[i] := List.getElem?_eq_getElem hlt
      generalize T[i] = u at hx
      obtain ⟨A', cap', e', _, _, h3⟩ := HU.out
      injection e' with e1 _ e3
      subst e1 e3
      obtain ⟨a, sv, rfl, ha, k00, k01, hsv⟩ := h3 i u hx
      have k0 := (hW.bel.cell (p := a.add (i * 2)) (by rw [add_block]; exact ha)).trans k00
      have k1 := (hW.bel.cell (p := (a.add (i * 2)).add 1) (by rw [add_block, add_block]; exact ha)).trans k01
      have HUA : Hid (∀ n : Nat, n < T.length → ∀ W, Below w1.heap.size w1 W → W.cell? (a.add (n * 2)) = some (.int .i64 (gT T n))) := Lib.hid (fun n hn' W hWb => by
        have hxn : T[n]? = some T[n] := List.getElem?_eq_getElem hn'
        obtain ⟨a', sv', e1, ha', c0, _⟩ := h3 n _ hxn
        injection e1 with e1
        subst e1
        rw [gT_at hxn]
        exact (hWb.cell (p := a.add (n * 2)) (by rw [add_block]; exact ha')).trans c0)
      clear k00 k01
      have HX := Lib.hid hx
      have HXS : Hid (sT T i = u.2) := Lib.hid (sT_at hx)
      have HXG : Hid (u.1 = gT T i) := Lib.hid (gT_at hx).symm
      obtain ⟨g, ss⟩ := u
      obtain ⟨B, scap, rfl, hs1, hs2, hsc⟩ := id hsv
      have HSV := Lib.hid hsv
      have hi : (i : Int) < (T.length : Int) := by omega
      have k1' : wr.cell? ⟨(a.add (i * 2)).block, (a.add (i * 2)).off + 1, none⟩ = some (.slice B ss.length scap) := k1
      have hat := alloc_at wr (.cells #[.int .i64 g, .slice B ss.length scap] 61)
      have s0 := cell_of hat 0
      have s1 := cell_of hat 1
      have hbn := below_new (w := wr) (.cells #[.int .i64 g, .slice B ss.length scap] 61)
      have HW1 := Lib.hid (hW.below hbn)
      have HOF := Lib.hid hW.off
      have HPL := Lib.hid hP
      have HBT := Lib.hid hM
      have HML := Lib.hid hML
      have HLT := Lib.hid hlt
      have hsl : ss.length ≤ 1000 := by have := HTS.out i; rw [HXS.out] at this; exact this
      have hslI : (ss.length : Int) ≤ 1000 := by omega
      unfold maxLen at hs2
      obtain ⟨W1, hW1⟩ : ∃ W1, W1 = wr.alloc (.cells #[.int .i64 g, .slice B ss.length scap] 61) := ⟨_, rfl⟩
      obtain ⟨bx, hbx⟩ : ∃ bx, bx = wr.heap.size := ⟨_, rfl⟩
      have HBL : Hid (bx < W1.heap.size) := Lib.hid (by rw [hW1, asz, hbx]; omega)
      rw [← hW1] at HW1
      rw [← hbx] at HOF
      have HC0 : Hid (W1.cell? ⟨bx, 0, none⟩ = some (.int .i64 g) ∧ W1.cell? ⟨bx, 1, none⟩ = some (.slice B ss.length scap)) := Lib.hid (by rw [hW1, hbx]; exact ⟨s0, s1⟩)
      have HBN : Hid (Below w1.heap.size w1 W1) := Lib.hid (HW1.out.bel)
      have HWE := Lib.hid hW1
      have HBE := Lib.hid hbx
      clear hW hP hM hML hlt h3 hsv hx hsc hat hbn hW1 hbx hi0
      go_wp2_with fail
      rw [← HBE.out, ← HWE.out]
      go_loopw [9, 32] (fun sv jv wx => ∃ (j : Nat) (G : Gr) (L : List MapEntry) (clock : Nat) (M A : List Int) (hv : Value), j ≤ ss.length ∧ jv = .int .i64 j ∧ hv = sv ∧ WaI w1 wx w1.heap.size (w1.heap.size + 1) G L clock M av (waitsT T i) hv A ∧ PlaI T i j G ∧ MetI i M A ∧ AhdI T i j [] A ∧ M.length = T.length ∧ wx.heap[bx]? = W1.heap[bx]? ∧ Off w1.heap.size (w1.heap.size + 1) L av hv bx) (fun _ jv _ => ss.length - (intOf jv).toNat)
      case atStart => exact ⟨0, G, L, clock, M, [], _, Nat.zero_le _, rfl, rfl, HW1.out, HPL.out, HBT.out.met, AhdI.start T i, HML.out, rfl, HOF.out⟩
      case round =>
        obtain ⟨j, G, L, clock, M, A, hv, hj0, rfl, rfl, hW, hP, hM, hA, hML, hbw, hof⟩ := hrel
        by_cases hlt : j < ss.length
        · have hx : ss[j]? = some ss[j] := List.getElem?_eq_getElem hlt
          generalize ss[j] = s at hx
          have hss : (sT T i)[j]? = some s := by rw [HXS.out]; exact hx
          have hsR : InR64 s := (HTI.out _ (List.mem_of_getElem? HX.out)).2 s (List.mem_of_getElem? hx)
          obtain ⟨_, _, e', _, _, h4⟩ := HSV.out.below hW.bel
          injection e' with e1 _ e3
          subst e1 e3
          obtain ⟨b, rfl, _, kc⟩ := h4 j s hx
          have hj : (j : Int) < (ss.length : Int) := by omega
          have hfew : (at_ G s).length ≤ 1000000 := by
            have h5 := hP.few s
            have : i * 1000 ≤ 20000 := by have := HLT.out; omega
            omega
          obtain ⟨v0, hv0, hlk, ho0, _⟩ := hW.put (i := (i : Int)) hsR hfew
          have lk0 := hlk wr rfl
          obtain ⟨A0, c0, ev0, hc01, hc02, _, _, hcell⟩ := id hv0.form
          subst ev0
          unfold maxLen at hc02
          have hfI : ((at_ G s).length : Int) ≤ 1000000 := by omega
          have HW := Lib.hid hW
          have HP := Lib.hid hP
          have HS := Lib.hid hss
          have HSR := Lib.hid hsR
          have HJ := Lib.hid hlt
          have HBW := Lib.hid hbw
          have HOFF := Lib.hid hof
          have HV0 := Lib.hid hv0
          have HO0 := Lib.hid ho0
          have HCELL := Lib.hid hcell
          have HM := Lib.hid hM
          have HA := Lib.hid hA
          have HMT := Lib.hid hML
          have HFEW := Lib.hid hfew
          have HXX := Lib.hid hx
          obtain ⟨wo, hwo⟩ : ∃ wo, wo = wr := ⟨_, rfl⟩
          have HWO := Lib.hid hwo
          clear hW hP hM hA hML hbw hof hss hsR hlt hv0 ho0 hcell h4 hfew hlk hj0 hwo
          go_wp2_with (at_lookup; refine wpList_look_run rfl _ _ _ _ rfl rfl rfl lk0 ?_)
          obtain ⟨K, hK⟩ : ∃ K, K = at_ G s := ⟨_, rfl⟩
          have HK := Lib.hid hK
          rw [← hK] at HCELL HV0 HO0 hc01 hfI ⊢
          clear hK
          go_loopw [9, 40] (fun sv mv wx => ∃ (m : Nat) (M A : List Int) (hv : Value), m ≤ K.length ∧ mv = .int .i64 m ∧ hv = sv ∧ WaI w1 wx w1.heap.size (w1.heap.size + 1) G L clock M av (waitsT T i) hv A ∧ MetI i M A ∧ AhdI T i j (K.take m) A ∧ M.length = T.length ∧ ∀ b, (b = bx ∨ (Value.slice A0 K.length c0).ownBlock = some b) → wx.heap[b]? = wo.heap[b]? ∧ hv.ownBlock ≠ some b) (fun _ mv _ => K.length - (intOf mv).toNat)
          case atStart => exact ⟨0, M, A, hv, Nat.zero_le _, rfl, rfl, HW.out, HM.out, by rw [List.take_zero]; exact HA.out, HMT.out, fun b hb => ⟨by rw [HWO.out], fun e => hb.elim (fun e1 => HOFF.out.hv (by rw [← e1]; exact e)) (fun e1 => (HO0.out b e1).2.2.2 e)⟩⟩
          case round =>
            obtain ⟨m, M2, A2, hv2, hm0, rfl, rfl, hW2, hM2, hA2, hML2, hk2⟩ := hrel
            by_cases hlt2 : m < K.length
            · have hy : K[m]? = some K[m] := List.getElem?_eq_getElem hlt2
              have hmem : K[m] ∈ at_ G s := by rw [← HK.out]; exact List.getElem_mem hlt2
              generalize K[m] = y at hy hmem
              obtain ⟨n, rfl, hn⟩ := pla_sub HP.out HS.out (HTN.out i) hmem
              obtain ⟨gk, eg, kc2⟩ := HCELL.out m (.int .i64 (n : Int)) (by unfold ints; rw [List.getElem?_map, hy]; rfl)
              subst eg
              have kw : wr.cell? ⟨gk, m, none⟩ = some (.int .i64 (n : Int)) := (World.cell?_of_block (a := ⟨gk, m, none⟩) (hk2 gk (.inr rfl)).1).trans (by rw [HWO.out]; exact kc2)
              have hnT : n < T.length := by have := HLT.out; omega
              have hnI : (n : Int) < (T.length : Int) := by omega
              have hnM : n < M2.length := by omega
              have hxm : M2[n]? = some M2[n] := List.getElem?_eq_getElem hnM
              generalize M2[n] = x at hxm
              have mc := hW2.mcell hxm
              have hmi : (m : Int) < (K.length : Int) := by omega
              have HTK : Hid (K.take (m + 1) = K.take m ++ [(n : Int)]) := Lib.hid (by rw [List.take_add_one, hy]; rfl)
              have HLT2 := Lib.hid hlt2
              by_cases hxi : x < (i : Int)
              · obtain ⟨hfr, _, hW3⟩ := hW2.met hnM (i : Int)
                have hM3 := hM2.add hxm hn hxi
                obtain ⟨v', w', hr, hW4, hoff4⟩ := hW3.ahead (n : Int) (by have := hM2.few; have := HLT.out; omega)
                have HW4 := Lib.hid hW4
                have HM3 := Lib.hid hM3
                have HA3 := Lib.hid (hA2.add (y := (n : Int)))
                have HML3 : Hid ((M2.set n (i : Int)).length = T.length) := Lib.hid (by rw [List.length_set]; exact hML2)
                have HK4 : Hid (∀ b, (b = bx ∨ (Value.slice (some ⟨gk, 0, none⟩) K.length c0).ownBlock = some b) → w'.heap[b]? = wo.heap[b]? ∧ v'.ownBlock ≠ some b) := Lib.hid (fun b hb => by
                  have hbl : b < wr.heap.size := by
                    have h1 : b < wo.heap.size := by
                      rcases hb with e | e
                      · rw [e, HWO.out]
                        refine heap_lt (o := (W1.heap[bx]'HBL.out)) ?_
                        rw [HBW.out]
                        exact Array.getElem?_eq_getElem _
                      · have := HV0.out.lt b e
                        rwa [HWO.out]
                    have h2 : (wr.heap[b]?).isSome = true := by
                      rw [(hk2 b hb).1, Array.getElem?_eq_getElem h1]; rfl
                    rcases Nat.lt_or_ge b wr.heap.size with h3 | h3
                    · exact h3
                    · rw [Array.getElem?_eq_none h3] at h2; cases h2
                  have hbm : b ≠ w1.heap.size + 1 := by
                    rcases hb with e | e
                    · rw [e]; exact HOFF.out.mb
                    · exact (HO0.out b e).1
                  obtain ⟨q1, q2⟩ := hoff4 b (by simpa [World.setCell] using hbl) (hk2 b hb).2
                  exact ⟨q1.trans ((Below.heap_setCell _ _ _ _ hbm).trans (hk2 b hb).1), q2⟩)
                clear hW2 hM2 hA2 hML2 hk2 hy hmem hxm hW3 hM3 hW4 hoff4 hlt2 hm0 kc2 hnM
                rw [show (wr.setCell ⟨w1.heap.size + 1, n, none⟩ (.int .i64 (i : Int))).heap.size = wr.heap.size from by simp [World.setCell]] at hr
                go_wp2_with (at_builtin; refine wpList_app_run rfl _ _ _ _ rfl rfl rfl hr ?_)
                go_roundw
                case rel => exact ⟨m + 1, _, _, _, HLT2.out, by go_num, rfl, HW4.out, HM3.out, by rw [HTK.out]; exact HA3.out, HML3.out, HK4.out⟩
                case measure => have := HLT2.out; simp [intOf]; omega
              · have hyA : (n : Int) ∈ A2 := (hM2.met n x hxm hn).2 (by have := (hM2.low n x hxm).2; omega)
                have HW4 := Lib.hid hW2
                have HM3 := Lib.hid hM2
                have HA3 := Lib.hid (hA2.skip hyA)
                have HML3 := Lib.hid hML2
                have HK4 := Lib.hid hk2
                clear hW2 hM2 hA2 hML2 hk2 hy hmem hxm hlt2 hm0 kc2 hnM hyA
                go_wp2_with fail
                go_roundw
                case rel => exact ⟨m + 1, _, _, _, HLT2.out, by go_num, rfl, HW4.out, HM3.out, by rw [HTK.out]; exact HA3.out, HML3.out, HK4.out⟩
                case measure => have := HLT2.out; simp [intOf]; omega
            · obtain rfl : m = K.length := by omega
              rw [List.take_length, HK.out] at hA2
              obtain ⟨v0', _, hlk', _, hput'⟩ := hW2.put (i := (i : Int)) HSR.out HFEW.out
              have lkr := hlk' wr rfl
              obtain ⟨v', w', w3, L', clock', hr, hp, hW3, hoff3⟩ := hput' wr (Below.refl _ _)
              have hbl : bx < wr.heap.size := by
                have h2 : (wr.heap[bx]?).isSome = true := by
                  rw [(hk2 bx (.inl rfl)).1, HWO.out, HBW.out, Array.getElem?_eq_getElem HBL.out]; rfl
                rcases Nat.lt_or_ge bx wr.heap.size with h3 | h3
                · exact h3
                · rw [Array.getElem?_eq_none h3] at h2; cases h2
              have ho9 := hoff3 bx hbl ⟨HOFF.out.g, HOFF.out.mb, HOFF.out.av, (hk2 bx (.inl rfl)).2, HOFF.out.rows⟩
              have HF : Hid (WaI w1 w3 w1.heap.size (w1.heap.size + 1) (putK G s (at_ G s ++ [(i : Int)])) L' clock' M2 av (waitsT T i) hv2 A2 ∧ PlaI T i (j + 1) (putK G s (at_ G s ++ [(i : Int)])) ∧ MetI i M2 A2 ∧ AhdI T i (j + 1) [] A2 ∧ M2.length = T.length ∧ w3.heap[bx]? = W1.heap[bx]? ∧ Off w1.heap.size (w1.heap.size + 1) L' av hv2 bx) := Lib.hid
                ⟨hW3, HP.out.put HS.out, hM2, hA2.next HP.out HS.out (HTN.out i), hML2, ho9.1.trans ((hk2 bx (.inl rfl)).1.trans (by rw [HWO.out]; exact HBW.out)), ho9.2⟩
              clear hW2 hM2 hA2 hML2 hk2 hlt2 hm0 hlk' hput' hW3 hoff3 hbl ho9
              go_wp2_with (first | (at_lookup; refine wpList_look_run rfl _ _ _ _ rfl rfl rfl lkr ?_) | (at_builtin; refine wpList_app_run rfl _ _ _ _ rfl rfl rfl hr ?_) | (at_mapUpdate; refine wpList_put_run rfl _ _ _ _ rfl rfl rfl rfl hp ?_))
              go_roundw
              case rel => exact ⟨j + 1, _, L', clock', M2, A2, _, HJ.out, by go_num, rfl, HF.out⟩
              case measure => have := HJ.out; simp [intOf]; omega
        · obtain rfl : j = ss.length := by omega
          obtain ⟨Ah, ch, eh, hh1, hh2, _⟩ := hW.hd.form
          subst eh
          unfold maxLen at hh2
          have hAf := hM.few
          have HSO := Lib.hid (sort_row hW.hd (by have := HLT.out; omega))
          have HAD : Hid ((sorted A).map (fun y => gT T y.toNat) = aheadT T (g, ss)) := Lib.hid (ahead_done HTP.out HX.out hM (by rw [HXS.out]; exact hA))
          have HPN : Hid (PlaI T (i + 1) 0 G) := Lib.hid (PlaI.next (by rw [HXS.out]; exact hP) (HTS.out i))
          have HMN := Lib.hid hM.next
          have HSUB : Hid (∀ y ∈ sorted A, ∃ n : Nat, y = (n : Int) ∧ n < T.length) := Lib.hid (fun y hy => by
            obtain ⟨n, e, hn⟩ := hM.sub y ((List.mergeSort_perm A _).mem_iff.1 hy)
            exact ⟨n, e, by have := HLT.out; omega⟩)
          have HAL : Hid ((sorted A).length ≤ 20) := Lib.hid (by rw [sorted_len]; have := HLT.out; omega)
          have HALE : Hid ((sorted A).length = A.length) := Lib.hid (sorted_len A)
          have HW := Lib.hid hW
          have HBW := Lib.hid hbw
          have HOFF := Lib.hid hof
          have HMT := Lib.hid hML
          have hAI : (A.length : Int) ≤ 20 := by have := HLT.out; omega
          have HWSN := Lib.hid (waitsT_snoc HX.out)
          have HEL : Hid ((waitsT T i).length ≤ 400) := Lib.hid (Nat.le_trans (waitsT_len i) (Nat.mul_le_mul (show i ≤ 20 by have := HLT.out; omega) hTl))
          clear hW hP hM hA hbw hof hML hlt hj0 hAf hi
          go_wp2_with fail
          refine (HSO.out).mono ?_
          rintro e w3 ⟨rfl, hr3, ht3⟩
          have HW3 := Lib.hid (HW.out.sort ht3 hr3)
          have HB3 : Hid (w3.heap[bx]? = W1.heap[bx]?) := Lib.hid ((ht3.block bx (by
            have h2 : (wr.heap[bx]?).isSome = true := by rw [HBW.out, Array.getElem?_eq_getElem HBL.out]; rfl
            rcases Nat.lt_or_ge bx wr.heap.size with h3 | h3
            · exact h3
            · rw [Array.getElem?_eq_none h3] at h2; cases h2) (fun e => HOFF.out.hv e)).trans HBW.out)
          clear hr3 ht3
          go_wp2_with fail
          obtain ⟨Bq, hBq⟩ : ∃ Bq, Bq = sorted A := ⟨_, rfl⟩
          rw [← hBq] at HAD HSUB HAL HALE HW3
          have hBAI : (A.length : Int) = (Bq.length : Int) := by rw [HALE.out]
          have HBA : Hid (A.length = Bq.length) := Lib.hid HALE.out.symm
          clear hBq
          generalize hAL : A.length = nA at *
          obtain rfl : nA = Bq.length := HBA.out
          clear hAL HBA hBAI HALE HSO
          go_loopw [6, 72] (fun sv mv wx => ∃ (m : Nat) (av : Value), m ≤ Bq.length ∧ mv = .int .i64 m ∧ av = sv ∧ WaI w1 wx w1.heap.size (w1.heap.size + 1) G L clock M av (waitsT T i ++ (Bq.take m).map (fun y => (g, gT T y.toNat))) (.slice Ah Bq.length ch) Bq ∧ wx.heap[bx]? = W1.heap[bx]? ∧ av.ownBlock ≠ some bx) (fun _ mv _ => Bq.length - (intOf mv).toNat)
          case atStart => exact ⟨0, _, Nat.zero_le _, rfl, rfl, by rw [List.take_zero, List.map_nil, List.append_nil]; exact HW3.out, HB3.out, HOFF.out.av⟩
          case round =>
            obtain ⟨m, av2, hm0, rfl, rfl, hW4, hb4, ho4⟩ := hrel
            by_cases hlt4 : m < Bq.length
            · have hy : Bq[m]? = some Bq[m] := List.getElem?_eq_getElem hlt4
              have hmem := List.getElem_mem hlt4
              generalize Bq[m] = y at hy hmem
              obtain ⟨n, rfl, hn⟩ := HSUB.out y hmem
              obtain ⟨Ax, cx, ex, _, _, _, _, hcell⟩ := hW4.hd.form
              injection ex with ex1 _ ex3
              subst ex1 ex3
              obtain ⟨gk, eg, kc⟩ := hcell m (.int .i64 (n : Int)) (by unfold ints; rw [List.getElem?_map, hy]; rfl)
              subst eg
              have hnI : (n : Int) < (T.length : Int) := by omega
              have hmi : (m : Int) < (Bq.length : Int) := by omega
              have hWd := hW4.below (below_drew (Below.refl wr.heap.size wr))
              have ku := HUA.out n hn wr.drew hWd.bel
              have kb := (World.cell?_of_block (a := ⟨bx, 0, none⟩) hb4).trans HC0.out.1
              have hbl : bx < wr.heap.size := by
                have h2 : (wr.heap[bx]?).isSome = true := by rw [hb4, Array.getElem?_eq_getElem HBL.out]; rfl
                rcases Nat.lt_or_ge bx wr.heap.size with h3 | h3
                · exact h3
                · rw [Array.getElem?_eq_none h3] at h2; cases h2
              obtain ⟨v', w4, hr, hW5, hoff5⟩ := hWd.edge g (gT T n) (by
                rw [List.length_append, List.length_map, List.length_take]
                have := HEL.out
                have := HAL.out
                omega)
              have hS0 : wr.drew.cell? ⟨bx, 0, none⟩ = some (.int .i64 g) ∧ wr.drew.cell? (a.add (n * 2)) = some (.int .i64 (gT T n)) := ⟨kb, ku⟩
              have hbd := below_new (w := wr.drew) (.cells #[.int .i64 g, .int .i64 (gT T n)] 39)
              have hS1 : (wr.drew.alloc (.cells #[.int .i64 g, .int .i64 (gT T n)] 39)).cell? ⟨bx, 0, none⟩ = some (.int .i64 g) ∧ (wr.drew.alloc (.cells #[.int .i64 g, .int .i64 (gT T n)] 39)).cell? (a.add (n * 2)) = some (.int .i64 (gT T n)) := ⟨(hbd.cell (p := ⟨bx, 0, none⟩) hbl).trans kb, HUA.out n hn _ (hWd.bel.trans (hbd.mono hWd.bel.size))⟩
              have hof5 := hoff5 bx hbl ho4
              have hS2 : w4.cell? ⟨bx, 0, none⟩ = some (.int .i64 g) ∧ w4.cell? (a.add (n * 2)) = some (.int .i64 (gT T n)) := ⟨(World.cell?_of_block (a := ⟨bx, 0, none⟩) hof5.1).trans kb, HUA.out n hn _ hW5.bel⟩
              have HF : Hid (WaI w1 w4 w1.heap.size (w1.heap.size + 1) G L clock M v' (waitsT T i ++ (Bq.take (m + 1)).map (fun y => (g, gT T y.toNat))) (.slice (some ⟨gk, 0, none⟩) Bq.length ch) Bq ∧ w4.heap[bx]? = W1.heap[bx]? ∧ v'.ownBlock ≠ some bx) := Lib.hid ⟨by
                rw [List.take_add_one, hy, List.map_append, ← List.append_assoc]
                exact hW5, hof5.1.trans hb4, hof5.2⟩
              have HL4 := Lib.hid hlt4
              clear hW4 hb4 ho4 hcell hy hmem hWd hbd hW5 hoff5 hof5 hbl hlt4 hm0
              go_wp2_with fail
              refine wp_region_held_drew (S := fun W => W.cell? ⟨bx, 0, none⟩ = some (.int .i64 g) ∧ W.cell? (a.add (n * 2)) = some (.int .i64 (gT T n))) (by kernel_rfl) hS0 (fun hHeld => ?_)
              clear kc kb ku
              refine wpAnyH_take (i := 0) (oi := { dst := some 76, op := Op.move (Operand.tmp 6), type := 33, pos := "order.go:53", after := #[], guard := none }) (v := ?vv1) rfl (by kernel_rfl) (by kernel_rfl) (by kernel_rfl) (fun _ _ _ h => h) ?hy1 (by assumption) ?rest1
              case hy1 => (refine Or.inl ⟨by rfl, ?_⟩; intro W hSw; (try dsimp only at hSw); go_simp; (try with_reducible rfl))
              try simp only [Act.put, List.setIfInBounds_toArray, List.set_cons_zero, List.set_cons_succ]
              refine wpAnyH_take (i := 1) (oi := { dst := some 77, op := Op.fieldAddr 61 (Operand.tmp 8) 0, type := 0, pos := "order.go:53", after := #[], guard := none }) (v := ?vv2) rfl (by kernel_rfl) (by kernel_rfl) (by kernel_rfl) (fun _ _ _ h => h) ?hy2 (by assumption) ?rest2
              case hy2 => (refine Or.inl ⟨by rfl, ?_⟩; intro W hSw; (try dsimp only at hSw); go_simp; (try with_reducible rfl))
              try simp only [Act.put, List.setIfInBounds_toArray, List.set_cons_zero, List.set_cons_succ]
              refine wpAnyH_take (i := 2) (oi := { dst := some 78, op := Op.load 3 (Operand.tmp 77), type := 3, pos := "order.go:53", after := #[{ on := 1, ground := Ground.data }], guard := none }) (v := ?vv3) rfl (by kernel_rfl) (by kernel_rfl) (by kernel_rfl) (fun _ _ _ h => h) ?hy3 (by assumption) ?rest3
              case hy3 => (refine Or.inl ⟨by rfl, ?_⟩; intro W hSw; (try dsimp only at hSw); go_simp; (try with_reducible rfl))
              try simp only [Act.put, List.setIfInBounds_toArray, List.set_cons_zero, List.set_cons_succ]
              refine wpAnyH_take (i := 3) (oi := { dst := some 79, op := Op.move (Operand.tmp 3), type := 23, pos := "order.go:53", after := #[], guard := none }) (v := ?vv4) rfl (by kernel_rfl) (by kernel_rfl) (by kernel_rfl) (fun _ _ _ h => h) ?hy4 (by assumption) ?rest4
              case hy4 => (refine Or.inl ⟨by rfl, ?_⟩; intro W hSw; (try dsimp only at hSw); go_simp; (try with_reducible rfl))
              try simp only [Act.put, List.setIfInBounds_toArray, List.set_cons_zero, List.set_cons_succ]
              refine wpAnyH_take (i := 4) (oi := { dst := some 80, op := Op.move (Operand.tmp 15), type := 3, pos := "order.go:53", after := #[], guard := none }) (v := ?vv5) rfl (by kernel_rfl) (by kernel_rfl) (by kernel_rfl) (fun _ _ _ h => h) ?hy5 (by assumption) ?rest5
              case hy5 => (refine Or.inl ⟨by rfl, ?_⟩; intro W hSw; (try dsimp only at hSw); go_simp; (try with_reducible rfl))
              try simp only [Act.put, List.setIfInBounds_toArray, List.set_cons_zero, List.set_cons_succ]
              refine wpAnyH_take (i := 5) (oi := { dst := some 81, op := Op.indexAddr 23 (Operand.tmp 79) (Operand.tmp 80), type := 0, pos := "order.go:53", after := #[{ on := 3, ground := Ground.data }, { on := 4, ground := Ground.data }], guard := none }) (v := ?vv6) rfl (by kernel_rfl) (by kernel_rfl) (by kernel_rfl) (fun _ _ _ h => h) ?hy6 (by assumption) ?rest6
              case hy6 => (refine Or.inl ⟨by rfl, ?_⟩; intro W hSw; (try dsimp only at hSw); go_simp; (try with_reducible rfl))
              try simp only [Act.put, List.setIfInBounds_toArray, List.set_cons_zero, List.set_cons_succ]
              refine wpAnyH_take (i := 6) (oi := { dst := some 82, op := Op.fieldAddr 61 (Operand.tmp 81) 0, type := 0, pos := "order.go:53", after := #[{ on := 5, ground := Ground.data }], guard := none }) (v := ?vv7) rfl (by kernel_rfl) (by kernel_rfl) (by kernel_rfl) (fun _ _ _ h => h) ?hy7 (by assumption) ?rest7
              case hy7 => (refine Or.inl ⟨by rfl, ?_⟩; intro W hSw; (try dsimp only at hSw); go_simp; (try with_reducible rfl))
              try simp only [Act.put, List.setIfInBounds_toArray, List.set_cons_zero, List.set_cons_succ]
              refine wpAnyH_take (i := 7) (oi := { dst := some 83, op := Op.load 3 (Operand.tmp 82), type := 3, pos := "order.go:53", after := #[{ on := 6, ground := Ground.data }], guard := none }) (v := ?vv8) rfl (by kernel_rfl) (by kernel_rfl) (by kernel_rfl) (fun _ _ _ h => h) ?hy8 (by assumption) ?rest8
              case hy8 => (refine Or.inl ⟨by rfl, ?_⟩; intro W hSw; (try dsimp only at hSw); go_simp; (try with_reducible rfl))
              try simp only [Act.put, List.setIfInBounds_toArray, List.set_cons_zero, List.set_cons_succ]
              refine wpAnyH_take (i := 8) (oi := { dst := some 84, op := Op.build 39 #[(0, Operand.tmp 78), (1, Operand.tmp 83)], type := 39, pos := "order.go:53", after := #[{ on := 2, ground := Ground.data }, { on := 7, ground := Ground.data }], guard := none }) (v := ?vv9) rfl (by kernel_rfl) (by kernel_rfl) (by kernel_rfl) (fun _ _ _ h => h) ?hy9 (by assumption) ?rest9
              case hy9 => (refine Or.inl ⟨by rfl, ?_⟩; intro W hSw; (try dsimp only at hSw); go_simp; (try with_reducible rfl))
              try simp only [Act.put, List.setIfInBounds_toArray, List.set_cons_zero, List.set_cons_succ]
              refine wpAnyH_ready (rs := [9]) (by kernel_rfl) (by simp) ?_
              refine AllReadyH.cons (o := { dst := some 85, op := Op.buildSlice 33 1 #[(0, Operand.tmp 84)], type := 33, pos := "order.go:53", after := #[{ on := 8, ground := Ground.data }], guard := none }) rfl (fun K hK => ?step10) ?more10
              case more10 => exact AllReadyH.nil
              (go_simp)
              refine hK.out _ _ ?hS10 (fun hHeld => ?rr10)
              case hS10 => (exact hS1)
              clear hK K
              try simp only [Act.put, List.setIfInBounds_toArray, List.set_cons_zero, List.set_cons_succ]
              refine wpAnyH_ready (rs := [10]) (by kernel_rfl) (by simp) ?_
              refine AllReadyH.cons (o := { dst := some 86, op := Op.call { callee := Callee.builtin Builtin.append, args := #[Operand.tmp 76, Operand.tmp 85], argTypes := #[33, 33] }, type := 33, pos := "order.go:53", after := #[{ on := 0, ground := Ground.data }, { on := 9, ground := Ground.data }], guard := none }) rfl (fun K hK => ?step11) ?more11
              case more11 => exact AllReadyH.nil
              (refine step_app_run hr rfl (.tmp 76) (.tmp 85) rfl rfl rfl ?_)
              refine hK.out _ _ ?hS11 (fun hHeld => ?rr11)
              case hS11 => (exact hS2)
              clear hK K
              try simp only [Act.put, List.setIfInBounds_toArray, List.set_cons_zero, List.set_cons_succ]
              refine wpAnyH_ready (rs := [11]) (by kernel_rfl) (by simp) ?_
              refine AllReadyH.cons (o := { dst := some 6, op := Op.assign (Operand.tmp 86), type := 33, pos := "order.go:53", after := #[{ on := 10, ground := Ground.data }, { on := 10, ground := Ground.chain }, { on := 0, ground := Ground.phase }, { on := 1, ground := Ground.phase }, { on := 2, ground := Ground.phase }, { on := 3, ground := Ground.phase }, { on := 4, ground := Ground.phase }, { on := 5, ground := Ground.phase }, { on := 6, ground := Ground.phase }, { on := 7, ground := Ground.phase }, { on := 8, ground := Ground.phase }, { on := 9, ground := Ground.phase }, { on := 10, ground := Ground.phase }], guard := none }) rfl (fun K hK => ?step12) ?more12
              case more12 => exact AllReadyH.nil
              (go_simp)
              refine hK.out _ _ ?hS12 (fun hHeld => ?rr12)
              case hS12 => (exact hS2)
              clear hK K
              try simp only [Act.put, List.setIfInBounds_toArray, List.set_cons_zero, List.set_cons_succ]
              refine wpAnyH_done (by kernel_rfl) ?_ _
              clear hHeld
              go_wp2_with fail
              go_roundw
              case rel => exact ⟨m + 1, _, HL4.out, by go_num, rfl, HF.out⟩
              case measure => have := HL4.out; simp [intOf]; omega
            · obtain rfl : m = Bq.length := by omega
              have HF : Hid (WaI w1 wr w1.heap.size (w1.heap.size + 1) G L clock M av2 (waitsT T (i + 1)) (.slice none 0 0) []) := Lib.hid (by
                have h1 := hW4.fresh
                rw [List.take_length] at h1
                have h2 : waitsT T (i + 1) = waitsT T i ++ Bq.map (fun y => (g, gT T y.toNat)) := by
                  rw [HWSN.out, ← HAD.out, List.map_map]
                  rfl
                rw [h2]
                exact h1)
              clear hW4 hb4 ho4 hlt4 hm0
              have hi : (i : Int) < (T.length : Int) := by have := HLT.out; omega
              go_wp2_with fail
              go_roundw
              case rel => exact ⟨i + 1, G, L, clock, M, _, HLT.out, by go_num, rfl, HF.out, HPN.out, HMN.out, HMT.out⟩
              case measure => have := HLT.out; simp [intOf]; omega
    · obtain rfl : i = T.length := by omega
      have HF : Hid (EIs wr av (waitsP l) ∧ Below w.heap.size w wr) := Lib.hid ⟨by have := hW.al.edges; rwa [HWS.out] at this, HB1.out.trans (hW.bel.mono HB1.out.size)⟩
      clear hW hP hM hML hlt hi0
      go_wp2_with fail
      go_ret
      exact ⟨av, rfl, HF.out⟩
end Go.Proofs.Ytlbhpeeggbfcpaa
