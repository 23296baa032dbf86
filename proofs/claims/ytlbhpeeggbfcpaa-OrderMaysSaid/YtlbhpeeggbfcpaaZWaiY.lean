/- Order, walked: what it answers is what the plain words say. -/
import Derived.Test.YtlbhpeeggbfcpaaZWaiW
set_option linter.unusedSimpArgs false
set_option linter.unusedVariables false
set_option linter.unnecessarySimpa false
namespace Go.Proofs.Ytlbhpeeggbfcpaa
open Go.RowKit
open Go.Maps (Keyed)

theorem filter_snoc {l : List Int} {k : Nat} {x : Int} (p : Int → Bool) (h : l[k]? = some x) : (l.take (k + 1)).filter p = (l.take k).filter p ++ if p x then [x] else [] := by
  have hk := (List.getElem?_eq_some_iff.1 h).1
  rw [List.take_succ_eq_append_getElem hk, (List.getElem?_eq_some_iff.1 h).2, List.filter_append]
  congr 1
  by_cases hp : p x = true
  · simp [hp]
  · simp [hp]
set_option maxRecDepth 100000 in
set_option maxHeartbeats 4000000 in
theorem order_any {w : World} {v : Value} {l : List (Int × Int)} (h : EIs w v l) (hr : ∀ e ∈ l, InR64 e.1 ∧ InR64 e.2) (hl : l.length ≤ 1000) :
    Calls Try.prog 34 #[v] w fun e w' => ∃ v' o b ns, e = .returned (.tuple #[v', .bool b]) ∧ KeysP l ns ∧ ordP (graphR l) ns ns.length [] = (if b then some o else none) ∧ (b = false → o = []) ∧ (b = true → OrdI (graphR l) ns o ∧ o.length = ns.length) ∧ RowIs w' 1 v' o.length (ints o) ∧ (∀ k, v'.ownBlock = some k → w.heap.size ≤ k) ∧ Below w.heap.size w w' := by
  have HG := Lib.hid (graph_any h hr hl)
  have HE := Lib.hid h
  clear h
  go_enter Try.func34, Try.ntmps34
  go_wp2_with fail
  refine (HG.out).mono ?_
  rintro e w1 ⟨g, L, clock, rfl, hg, hb⟩
  have HT := Lib.hid (turn_any (HE.out.below hb) hl)
  have HG1 := Lib.hid hg
  have HB1 := Lib.hid hb
  clear hg hb HG
  go_wp2_with fail
  refine (HT.out).mono ?_
  rintro e w2 ⟨v2, rfl, hv2, hb2⟩
  have hsw : ∀ e ∈ swapE l, InR64 e.1 ∧ InR64 e.2 := fun e he => by
    unfold swapE at he
    obtain ⟨e0, h0, rfl⟩ := List.mem_map.1 he
    exact ⟨(hr e0 h0).2, (hr e0 h0).1⟩
  have HG2 := Lib.hid (graph_any hv2 hsw (by unfold swapE; rw [List.length_map]; exact hl))
  have HB2 := Lib.hid hb2
  clear hv2 hb2 HT hsw
  go_wp2_with fail
  refine (HG2.out).mono ?_
  rintro e w3 ⟨g2, L2, clock2, rfl, hg2, hb3⟩
  have HG3 := Lib.hid hg2
  have HB3 := Lib.hid hb3
  clear hg2 hb3 HG2
  have hmm := @run_makeMap Try.prog
  have hnd := HG1.out.nodup
  rw [keys_graphR] at hnd
  have hbA : Below w3.heap.size w3 ((w3.alloc (.map #[] 0)).alloc (.cells #[.slice none 0 0] 108)) := (below_new _).trans ((below_new _).mono (by rw [asz]; omega))
  have hgA := ((HG1.out.below HB2.out).below HB3.out).below hbA
  have HA := Lib.hid (all_any hgA (key_num hr) (by have := graphR_len hnd; omega))
  have hnA : NAt Try.prog 3 ((w3.alloc (.map #[] 0)).alloc (.cells #[.slice none 0 0] 108)) w3.heap.size [] [] 0 := (NAt.made Try.prog 3 w3).keep (Below.heap_alloc _ _ _ (by rw [asz]; omega))
  have hqA : QH ((w3.alloc (.map #[] 0)).alloc (.cells #[.slice none 0 0] 108)) (w3.heap.size + 1) (.slice none 0 0) [] := ⟨[], ⟨by have := alloc_at (w3.alloc (.map #[] 0)) (.cells #[.slice none 0 0] 108); rw [asz] at this; exact this, RowIs.nil _ _, by intro e; cases e⟩, List.Perm.refl _, fun k h0 hk => by simp at hk⟩
  have hszA : ((w3.alloc (.map #[] 0)).alloc (.cells #[.slice none 0 0] 108)).heap.size = w3.heap.size + 2 := by rw [asz, asz]
  have HNA := Lib.hid hnA
  have HWM : Hid (w.heap.size ≤ w3.heap.size) := Lib.hid (Nat.le_trans HB1.out.size (Nat.le_trans HB2.out.size HB3.out.size))
  have HQA := Lib.hid hqA
  have HSA := Lib.hid hszA
  have HGA := Lib.hid hgA
  have HBA := Lib.hid (((HB1.out.trans (HB2.out.mono HB1.out.size)).trans (HB3.out.mono (Nat.le_trans HB1.out.size HB2.out.size))).trans (hbA.mono (Nat.le_trans HB1.out.size (Nat.le_trans HB2.out.size HB3.out.size))))
  have HGB := Lib.hid (HG3.out.below hbA)
  have HND := Lib.hid hnd
  have hm3 : g < w3.heap.size := Nat.lt_of_lt_of_le HG1.out.map.lt (Nat.le_trans HB2.out.size HB3.out.size)
  have hown1 : ∀ e ∈ L, ∀ k, e.val.ownBlock = some k → k < w3.heap.size := fun e he k hk => by
    obtain ⟨j, hj⟩ := List.getElem?_of_mem he
    have h1 : j < (graphR l).length := by rw [← HG1.out.len]; exact (List.getElem?_eq_some_iff.1 hj).1
    exact Nat.lt_of_lt_of_le ((HG1.out.each j e _ hj (List.getElem?_eq_getElem h1)).2.lt k hk) (Nat.le_trans HB2.out.size HB3.out.size)
  have hown2 : ∀ e ∈ L2, ∀ k, e.val.ownBlock = some k → k < w3.heap.size := fun e he k hk => by
    obtain ⟨j, hj⟩ := List.getElem?_of_mem he
    have h1 : j < (graphR (swapE l)).length := by rw [← HG3.out.len]; exact (List.getElem?_eq_some_iff.1 hj).1
    exact (HG3.out.each j e _ hj (List.getElem?_eq_getElem h1)).2.lt k hk
  have HM3 := Lib.hid hm3
  have HM4 := Lib.hid HG3.out.map.lt
  have HO1 := Lib.hid hown1
  have HO2 := Lib.hid hown2
  have HAT : Hid (∀ x, (at_ (graphR l) x).length ≤ 1000) := Lib.hid (fun x => Nat.le_trans (at_sum (graphR l) x) (Nat.le_trans (sum_graphR hnd) hl))
  have hnd2 := HG3.out.nodup
  rw [keys_graphR] at hnd2
  have HAT2 : Hid (∀ x, (at_ (graphR (swapE l)) x).length ≤ 1000) := Lib.hid (fun x => Nat.le_trans (at_sum (graphR (swapE l)) x) (Nat.le_trans (sum_graphR hnd2) (by unfold swapE; rw [List.length_map]; exact hl)))
  clear hbA hgA hnA hqA hszA hnd hm3 hown1 hown2 hnd2 HG1 HG3 HB1 HB2 HB3
  go_wp2_with fail
  refine (HA.out).mono ?_
  clear HA
  rintro e w4 ⟨kv, ns, rfl, hkv, hp, hrise, hko, hb4⟩
  have hks := keys_of HND.out hp hrise
  have HKS := Lib.hid hks
  have HFEW := Lib.hid hks.few
  obtain ⟨Ak, ck, ek, hck1, hck2, _, _, hckc⟩ := hkv.form
  subst ek
  unfold maxLen at hck2
  have hs4 := hb4.size
  have hsA := HSA.out
  have HB4 : Hid (Below w.heap.size w w4) := Lib.hid (HBA.out.trans (hb4.mono HBA.out.size))
  have HW0 : Hid (OrdM w4 w4 (w3.heap.size + 1) w3.heap.size (.slice none 0 0) (.slice none 0 0) [] [] []) := Lib.hid ⟨Touch.refl _ _, ⟨[], 0, HNA.out.keep (hb4.block _ (by omega))⟩, HQA.out.below hb4, RowIs.nil _ _, ⟨by omega, by omega, by omega⟩, (fun k e => by cases e), (fun k e => by cases e)⟩
  have HGl : Hid ((graphR l).length = ns.length) := Lib.hid (by have := hp.length_eq; rw [List.length_map] at this; exact this.symm)
  have hgA4 := HGA.out.below hb4
  have hgB4 := HGB.out.below hb4
  have HLN : Hid (∀ wr, Touch (fun k => k = w3.heap.size ∨ k = w3.heap.size + 1) w4 wr → ∀ ty, (Builtin.len_ #[66] ty #[.map (some g)]).run Try.prog wr = .ok (.int .i64 (ns.length : Int)) wr) := Lib.hid (fun wr ht ty => by
    have := map_len (hgA4.touch ht (fun e => by have := HM3.out; omega) (fun e he k hk e2 => by have := HO1.out e he k hk; omega)) Try.underlying66 ty
    rw [HGl.out] at this
    exact this)
  have HLA : Hid (∀ x, InR64 x → ∃ A c, c ≤ 9223372036854775807 ∧ ∀ wr, Touch (fun k => k = w3.heap.size ∨ k = w3.heap.size + 1) w4 wr → (Instr.lookup 66 (.map (some g)) (.int .i64 x) false).run Try.prog wr = .ok (.slice A (at_ (graphR l) x).length c) wr ∧ RowIs wr 1 (.slice A (at_ (graphR l) x).length c) (at_ (graphR l) x).length (ints (at_ (graphR l) x))) := Lib.hid (fun x hx => look_since hgA4 ⟨by have := HM3.out; omega, by have := HM3.out; omega⟩ (fun e he k hk => by have := HO1.out e he k hk; omega) hx)
  have HLB : Hid (∀ x, InR64 x → ∃ A c, c ≤ 9223372036854775807 ∧ ∀ wr, Touch (fun k => k = w3.heap.size ∨ k = w3.heap.size + 1) w4 wr → (Instr.lookup 66 (.map (some g2)) (.int .i64 x) false).run Try.prog wr = .ok (.slice A (at_ (graphR (swapE l)) x).length c) wr ∧ RowIs wr 1 (.slice A (at_ (graphR (swapE l)) x).length c) (at_ (graphR (swapE l)) x).length (ints (at_ (graphR (swapE l)) x))) := Lib.hid (fun x hx => look_since hgB4 ⟨by have := HM4.out; omega, by have := HM4.out; omega⟩ (fun e he k hk => by have := HO2.out e he k hk; omega) hx)
  have HKO : Hid (∀ k, (Value.slice Ak ns.length ck).ownBlock = some k → w3.heap.size + 1 < k) := Lib.hid (fun k hk => by have := hko k hk; omega)
  have HKV := Lib.hid hkv
  have HNU := Lib.hid (hks.num hr)
  have HWS : Hid (w.heap.size ≤ w4.heap.size) := Lib.hid HB4.out.size
  have n1 : (ns.length : Int) ≤ 2000 := by have := hks.few; omega
  clear hkv hp hrise hko hb4 hks hckc hs4 hsA hgA4 hgB4 HGA HGB HNA HQA HSA HBA HND
  generalize w3.heap.size = m at *
  generalize hGdef : graphR l = G at *
  generalize hBdef : graphR (swapE l) = B at *
  have HMS : Hid (∀ x y, x ∈ at_ B y ↔ y ∈ at_ G x) := Lib.hid (fun x y => by rw [← hGdef, ← hBdef]; exact mem_swap l x y)
  have HGN : Hid (∀ x, (at_ G x).Nodup) := Lib.hid (fun x => by rw [← hGdef]; exact at_nodup l x)
  have HBN : Hid (∀ x, (at_ B x).Nodup) := Lib.hid (fun x => by rw [← hBdef]; exact at_nodup _ x)
  have HBK : Hid (∀ x y, x ∈ at_ B y → x ∈ ns) := Lib.hid (fun x y hx => by
    have h1 := (HMS.out x y).1 hx
    rw [← hGdef, mem_at] at h1
    exact (HKS.out.mem x).2 ⟨_, h1, .inl rfl⟩)
  have HGD := Lib.hid hGdef
  clear hGdef hBdef
  go_wp2_with fail
  go_loopw [23] (fun iv wr => ∃ (k : Nat) (v' : Value) (N : Nu), k ≤ ns.length ∧ iv = .int .i64 k ∧ OrdM w4 wr (m + 1) m v' (.slice none 0 0) N ((ns.take k).filter fun x => owes G [] x == 0) [] ∧ ∀ y ∈ ns.take k, getN N y = owes G [] y) (fun iv _ => ns.length - (intOf iv).toNat)
  case atStart => exact ⟨0, _, [], Nat.zero_le _, rfl, by rw [List.take_zero]; exact HW0.out, fun y hy => by rw [List.take_zero] at hy; cases hy⟩
  case round =>
    obtain ⟨k, v', N, hk, rfl, hM, hN⟩ := hrel
    have HM := Lib.hid hM
    have HN := Lib.hid hN
    clear hM hN
    by_cases hlt : k < ns.length
    · have hx : ns[k]? = some ns[k] := List.getElem?_eq_getElem hlt
      have hxr := HNU.out _ (List.getElem_mem hlt)
      generalize ns[k] = x at hx hxr
      obtain ⟨_, _, e', _, _, _, _, hc⟩ := (HKV.out.touch HM.out.since (fun b hb e => by have := HKO.out b hb; omega)).form
      injection e' with e1 _ e3
      subst e1 e3
      obtain ⟨gk, rfl, kc⟩ := hc k (.int .i64 x) (by unfold ints; rw [List.getElem?_map, hx]; rfl)
      obtain ⟨A0, c0, hc0, hlk⟩ := HLA.out x hxr
      obtain ⟨lk0, hv0⟩ := hlk wr HM.out.since
      obtain ⟨Ln, cn, hn⟩ := HM.out.met
      obtain ⟨w5, L5, c5, hr5, hn5, ht5⟩ := (hn.bump keyedI Try.underlying69 zeroN (keyI hxr)).2 wr ((at_ G x).length : Int) rfl
      have lk5 := ((hn5.bump keyedI Try.underlying69 zeroN (keyI hxr)).1 w5 rfl).1
      rw [getN_putN, if_pos rfl] at lk5
      have HM5 := Lib.hid (HM.out.put ⟨L5, c5, hn5⟩ ht5)
      have hi : (k : Int) < (ns.length : Int) := by omega
      have HX := Lib.hid hx
      have HLT := Lib.hid hlt
      have hle := HAT.out x
      have HFL : Hid (((ns.take k).filter fun x => owes G [] x == 0).length ≤ 900000) := Lib.hid (by
        have h1 := List.length_filter_le (fun x => owes G [] x == 0) (ns.take k)
        have h2 : (ns.take k).length ≤ ns.length := by rw [List.length_take]; omega
        omega)
      have HN' : Hid (∀ y ∈ ns.take (k + 1), getN (putN N x ((at_ G x).length : Int)) y = owes G [] y) := Lib.hid (fun y hy => by
        rw [getN_putN]
        by_cases e : y = x
        · rw [if_pos e, e, owes_nil]
        · rw [if_neg e]
          refine HN.out y ?_
          rw [List.take_succ_eq_append_getElem HLT.out, (List.getElem?_eq_some_iff.1 HX.out).2] at hy
          rcases List.mem_append.1 hy with e2 | e2
          · exact e2
          · rw [List.mem_singleton] at e2
            exact (e e2).elim)
      have HSN := Lib.hid (filter_snoc (fun x => owes G [] x == 0) hx)
      have HOW := Lib.hid (owes_nil G x)
      clear hc hx hlk hv0 hn hn5 ht5 hxr hk hlt
      by_cases hz : (at_ G x).length = 0
      · have q0 : (((at_ G x).length : Int) == 0) = true := by rw [hz]; rfl
        have HADD := Lib.hid (qadd_any (x := x) HM5.out.que HFL.out)
        have HZ := Lib.hid hz
        clear hz
        go_wp2_with (first | (at_lookup; first | (refine wpList_look_run rfl _ _ _ _ rfl rfl rfl lk0 ?_) | (refine wpList_look_run rfl _ _ _ _ rfl rfl rfl lk5 ?_)) | (at_mapUpdate; refine wpList_put_run rfl _ _ _ _ rfl rfl rfl rfl hr5 ?_))
        refine (HADD.out).mono ?_
        rintro e w6 ⟨v6, rfl, hq6, ho6, ht6⟩
        have HM6 := Lib.hid (HM5.out.turned hq6 ho6 ht6)
        clear hq6 ho6 ht6 HADD
        go_wp2_with fail
        go_roundw
        case rel => exact ⟨k + 1, v6, _, HLT.out, by go_num, by
          have e : (if ((at_ G x).length == 0) = true then [x] else []) = [x] := by rw [HZ.out]; rfl
          rw [HSN.out, HOW.out, e]
          exact HM6.out, HN'.out⟩
        case measure => have := HLT.out; simp [intOf]; omega
      · have q0 : (((at_ G x).length : Int) == 0) = false := by rw [beq_eq_false_iff_ne]; omega
        have HZ := Lib.hid hz
        clear hz
        go_wp2_with (first | (at_lookup; first | (refine wpList_look_run rfl _ _ _ _ rfl rfl rfl lk0 ?_) | (refine wpList_look_run rfl _ _ _ _ rfl rfl rfl lk5 ?_)) | (at_mapUpdate; refine wpList_put_run rfl _ _ _ _ rfl rfl rfl rfl hr5 ?_))
        go_roundw
        case rel => exact ⟨k + 1, v', _, HLT.out, by go_num, by rw [HSN.out, HOW.out, if_neg (by simpa using HZ.out), List.append_nil]; exact HM5.out, HN'.out⟩
        case measure => have := HLT.out; simp [intOf]; omega
    · obtain rfl : k = ns.length := by omega
      rw [List.take_length, ← free_nil] at HM
      rw [List.take_length] at HN
      clear hlt hk
      go_wp2_with fail
      go_loopg [10] ns.length (fun n lv wr => ∃ (o : List Int) (v' : Value) (N : Nu), ns.length - o.length = n ∧ OrdM w4 wr (m + 1) m v' lv N (freeP G ns o) o ∧ OrdI G ns o ∧ ∀ y ∈ ns, getN N y = owes G o y)
      case atStart => exact ⟨[], v', N, by simp, HM.out, OrdI.nil G ns, HN.out⟩
      case round =>
        obtain ⟨o, v', N, hn, hM, hI, hN⟩ := hrel
        have HLE := Lib.hid (hM.que.len)
        have HM := Lib.hid hM
        have HI := Lib.hid hI
        have HN := Lib.hid hN
        have HNN := Lib.hid hn
        clear hM hI hN hn
        cases hF : freeP G ns o with
        | nil =>
          rw [hF] at HLE
          have HF := Lib.hid hF
          clear hF
          go_wp2_with fail
          refine (HLE.out).mono ?_
          rintro e wx ⟨rfl, hwx⟩
          subst wx
          have hol := nodup_le HI.out.one HI.out.sub
          have ho1 : (o.length : Int) ≤ 2000 := by omega
          obtain ⟨Ao, co, eo, hco1, hco2, _⟩ := HM.out.all.form
          unfold maxLen at hco2
          subst eo
          have HLNx := HLN.out wr HM.out.since
          have HOL := Lib.hid hol
          by_cases hlt : o.length < ns.length
          · have q1 : (o.length : Int) < (ns.length : Int) := by omega
            have HLT := Lib.hid hlt
            clear hlt hol
            go_wp2_with (at_builtin; refine wpList_len_run rfl _ _ rfl rfl (HLNx _) ?_)
            refine bodyPost_ret (v := .tuple #[.slice none 0 0, .bool false]) (by simp [results, Try.results34, go_sem]) rfl ?_
            exact ⟨_, [], false, ns, rfl, HKS.out, (by rw [HGD.out, HI.out.run]; exact ord_none HF.out _ (by have := HLT.out; omega)), (fun _ => rfl), (fun e => by cases e), RowIs.nil _ _, (fun k e => by cases e), HB4.out.trans (HM.out.since.below (fun k e => by have := HWM.out; rcases e with e | e <;> omega) HB4.out.size)⟩
          · have q1 : ¬ (o.length : Int) < (ns.length : Int) := by omega
            have HLT := Lib.hid hlt
            clear hlt hol
            go_wp2_with (at_builtin; refine wpList_len_run rfl _ _ rfl rfl (HLNx _) ?_)
            refine bodyPost_ret (v := .tuple #[.slice Ao o.length co, .bool true]) (by simp [results, Try.results34, go_sem]) rfl ?_
            have hol2 : o.length = ns.length := by have := HOL.out; have := HLT.out; omega
            exact ⟨_, o, true, ns, rfl, HKS.out, (by rw [HGD.out, HI.out.run, hol2, Nat.sub_self]; rfl), (fun e => by cases e), (fun _ => ⟨by rw [HGD.out]; exact HI.out, hol2⟩), HM.out.all, (fun k hk => by have := (HM.out.ownA k hk).1; have := HWS.out; omega), HB4.out.trans (HM.out.since.below (fun k e => by have := HWM.out; rcases e with e | e <;> omega) HB4.out.size)⟩
        | cons x F =>
          rw [hF] at HLE
          have HMQ := HM.out
          rw [hF] at HMQ
          have HMF := Lib.hid HMQ
          have HF := Lib.hid hF
          clear hF HMQ
          have q0 : (0 : Int) < (F.length : Int) + 1 := by omega
          have hfew := HI.out.few HF.out
          have hFl : F.length ≤ 900000 := by
            have h1 : (freeP G ns o).length ≤ ns.length := List.length_filter_le _ _
            rw [HF.out, List.length_cons] at h1
            omega
          have HTK := Lib.hid (qtake_any HMF.out.que (free_rise HKS.out.rise HF.out) hFl)
          have hFI : (F.length : Int) ≤ 900000 := by omega
          have HFL := Lib.hid hFl
          have HFW := Lib.hid hfew
          clear hFl hfew
          go_wp2_with fail
          refine (HLE.out).mono ?_
          rintro e wx ⟨rfl, hwx⟩
          subst wx
          go_wp2_with fail
          refine (HTK.out).mono ?_
          rintro e w5 ⟨v5, rfl, hq5, ho5, ht5⟩
          have HM5 := Lib.hid (HMF.out.turned hq5 (fun k hk => .inl (by rw [← ho5]; exact hk)) ht5)
          clear hq5 ho5 ht5 HTK HLE
          have hol := nodup_le HI.out.one HI.out.sub
          obtain ⟨v6, w6, hr6, hv6, ht6, ho6⟩ := app_int x 30 HM5.out.all (by have := HFEW.out; omega)
          have HM6 := Lib.hid (HM5.out.app hv6 ho6 ht6)
          have hxk : x ∈ freeP G ns o := by rw [HF.out]; simp
          obtain ⟨hx1, hx2, hx3⟩ := mem_free.1 hxk
          obtain ⟨A0, c0, hc0, hlk⟩ := HLB.out x (HNU.out x hx1)
          obtain ⟨lk0, hv0⟩ := hlk w6 HM6.out.since
          obtain ⟨_, _, e', hcl, _⟩ := hv0.form
          injection e' with e1 _ e3
          subst e1 e3
          have HLKB := Lib.hid hlk
          have HX2 := Lib.hid hx2
          have HX3 := Lib.hid hx3
          have HIS := Lib.hid (HI.out.snoc HGN.out HF.out)
          have hself : x ∉ at_ B x := fun e => hx2 (owes_zero.1 hx3 x ((HMS.out x x).1 e))
          have HMID := Lib.hid (midF_all HKS.out.one HGN.out (HBN.out x) (fun y => HMS.out y x) (fun y hy => HBK.out y x hy) HI.out.zero hx2 HF.out hself)
          have hN6 : Hid (∀ y ∈ ns, getN N y = (owes G (o ++ [x]) y : Int) + (if y ∈ (at_ B x).drop 0 then 1 else 0)) := Lib.hid (fun y hy => by
            have h1 := owes_snoc (G := G) (x := y) (HGN.out y) hx2
            rw [List.drop_zero, HN.out y hy]
            have h2 := HMS.out y x
            by_cases e : y ∈ at_ B x
            · rw [if_pos e]
              rw [if_pos (h2.1 e)] at h1
              omega
            · rw [if_neg e]
              rw [if_neg (fun e2 => e (h2.2 e2))] at h1
              omega)
          have hBl := HAT2.out x
          have hBI : ((at_ B x).length : Int) ≤ 1000 := by omega
          clear hol hv6 ht6 ho6 hxk hx1 hx2 hx3 hlk hv0 hself HM5 HM HMF
          go_wp2_with (first | (at_lookup; refine wpList_look_run rfl _ _ _ _ rfl rfl rfl lk0 ?_) | (at_builtin; refine wpList_app_run rfl _ _ _ _ rfl rfl rfl hr6 ?_))
          clear hr6 lk0
          go_loopw [51] (fun iv wr => ∃ (p : Nat) (v' : Value) (N : Nu), p ≤ (at_ B x).length ∧ iv = .int .i64 p ∧ OrdM w4 wr (m + 1) m v' v6 N (midF G F (o ++ [x]) ((at_ B x).take p)) (o ++ [x]) ∧ ∀ y ∈ ns, getN N y = (owes G (o ++ [x]) y : Int) + (if y ∈ (at_ B x).drop p then 1 else 0)) (fun iv _ => (at_ B x).length - (intOf iv).toNat)
          case atStart => exact ⟨0, v5, N, Nat.zero_le _, rfl, by
            have e : midF G F (o ++ [x]) ((at_ B x).take 0) = F := by unfold midF; rw [List.take_zero]; simp
            rw [e]
            exact HM6.out, hN6.out⟩
          case round =>
            obtain ⟨p, v7, N7, hp, rfl, hM, hN⟩ := hrel
            have HM7 := Lib.hid hM
            have HN7 := Lib.hid hN
            clear hM hN
            by_cases hlt : p < (at_ B x).length
            · have hy : (at_ B x)[p]? = some (at_ B x)[p] := List.getElem?_eq_getElem hlt
              have hyB := List.getElem_mem hlt
              have hdrop : (at_ B x).drop p = (at_ B x)[p] :: (at_ B x).drop (p + 1) := List.drop_eq_getElem_cons hlt
              generalize (at_ B x)[p] = y at hy hyB hdrop
              have hyk := HBK.out y x hyB
              have hyr := HNU.out y hyk
              obtain ⟨_, _, e', _, _, _, _, hc⟩ := (HLKB.out wr HM7.out.since).2.form
              injection e' with e1 _ e3
              subst e1 e3
              obtain ⟨gk, rfl, kc⟩ := hc p (.int .i64 y) (by unfold ints; rw [List.getElem?_map, hy]; rfl)
              have hyd : y ∈ (at_ B x).drop p := by rw [hdrop]; simp
              have hynd : y ∉ (at_ B x).drop (p + 1) := by
                have h1 : ((at_ B x).drop p).Nodup := (HBN.out x).sublist (List.drop_sublist _ _)
                rw [hdrop, List.nodup_cons] at h1
                exact h1.1
              have hval := HN7.out y hyk
              rw [if_pos hyd] at hval
              obtain ⟨c, hcd⟩ : ∃ c, owes G (o ++ [x]) y = c := ⟨_, rfl⟩
              have hcle : c ≤ 1000 := by rw [← hcd]; exact Nat.le_trans (owes_le _ _ _) (HAT.out y)
              rw [hcd] at hval
              obtain ⟨Ln, cn, hn⟩ := HM7.out.met
              have hbm := hn.bump keyedI Try.underlying69 zeroN (keyI hyr)
              have lk7 := (hbm.1 wr rfl).1
              rw [hval] at lk7
              obtain ⟨w8, L8, c8, hr8, hn8, ht8⟩ := hbm.2 wr (c : Int) rfl
              have lk8 := ((hn8.bump keyedI Try.underlying69 zeroN (keyI hyr)).1 w8 rfl).1
              rw [getN_putN, if_pos rfl] at lk8
              have HM8 := Lib.hid (HM7.out.put ⟨L8, c8, hn8⟩ ht8)
              have hi : (p : Int) < ((at_ B x).length : Int) := by omega
              have hcI : (c : Int) ≤ 1000 := by omega
              have HY := Lib.hid hy
              have HLT := Lib.hid hlt
              have HMS8 : Hid (midF G F (o ++ [x]) ((at_ B x).take (p + 1)) = midF G F (o ++ [x]) ((at_ B x).take p) ++ if c == 0 then [y] else []) := Lib.hid (by
                unfold midF
                rw [filter_snoc _ hy, List.append_assoc, hcd])
              have HFL8 : Hid ((midF G F (o ++ [x]) ((at_ B x).take p)).length ≤ 900000) := Lib.hid (by
                unfold midF
                rw [List.length_append]
                have h1 := List.length_filter_le (fun x_1 => owes G (o ++ [x]) x_1 == 0) ((at_ B x).take p)
                have h2 : ((at_ B x).take p).length ≤ (at_ B x).length := by rw [List.length_take]; omega
                have h3 : F.length + 1 ≤ ns.length := by
                  have h4 : (freeP G ns o).length ≤ ns.length := List.length_filter_le _ _
                  rw [HF.out, List.length_cons] at h4
                  omega
                have := HFEW.out
                omega)
              have HN8 : Hid (∀ z ∈ ns, getN (putN N7 y (c : Int)) z = (owes G (o ++ [x]) z : Int) + (if z ∈ (at_ B x).drop (p + 1) then 1 else 0)) := Lib.hid (fun z hz => by
                rw [getN_putN]
                by_cases e : z = y
                · rw [if_pos e, e, if_neg hynd, hcd]; omega
                · rw [if_neg e, HN7.out z hz]
                  have h1 : z ∈ (at_ B x).drop p ↔ z ∈ (at_ B x).drop (p + 1) := by
                    rw [hdrop, List.mem_cons]
                    exact ⟨fun h => h.resolve_left e, .inr⟩
                  by_cases e2 : z ∈ (at_ B x).drop (p + 1)
                  · rw [if_pos e2, if_pos (h1.2 e2)]
                  · rw [if_neg e2, if_neg (fun e3 => e2 (h1.1 e3))])
              clear hc hy hyB hdrop hyk hyr hyd hynd hval hcd hcle hn hbm hn8 ht8 hlt hp
              by_cases hz : c = 0
              · have q2 : ((c : Int) == 0) = true := by rw [hz]; rfl
                have HADD := Lib.hid (qadd_any (x := y) HM8.out.que HFL8.out)
                have HZ := Lib.hid hz
                clear hz
                go_wp2_with (first | (at_lookup; first | (refine wpList_look_run rfl _ _ _ _ rfl rfl rfl lk7 ?_) | (refine wpList_look_run rfl _ _ _ _ rfl rfl rfl lk8 ?_)) | (at_mapUpdate; refine wpList_put_run rfl _ _ _ _ rfl rfl rfl rfl hr8 ?_))
                refine (HADD.out).mono ?_
                rintro e w9 ⟨v9, rfl, hq9, ho9, ht9⟩
                have HM9 := Lib.hid (HM8.out.turned hq9 ho9 ht9)
                clear hq9 ho9 ht9 HADD
                go_wp2_with fail
                go_roundw
                case rel => exact ⟨p + 1, v9, _, HLT.out, by go_num, by
                  have e : (if (c == 0) = true then [y] else []) = [y] := by rw [HZ.out]; rfl
                  rw [HMS8.out, e]
                  exact HM9.out, HN8.out⟩
                case measure => have := HLT.out; simp [intOf]; omega
              · have q2 : ((c : Int) == 0) = false := by rw [beq_eq_false_iff_ne]; omega
                have HZ := Lib.hid hz
                clear hz
                go_wp2_with (first | (at_lookup; first | (refine wpList_look_run rfl _ _ _ _ rfl rfl rfl lk7 ?_) | (refine wpList_look_run rfl _ _ _ _ rfl rfl rfl lk8 ?_)) | (at_mapUpdate; refine wpList_put_run rfl _ _ _ _ rfl rfl rfl rfl hr8 ?_))
                go_roundw
                case rel => exact ⟨p + 1, v7, _, HLT.out, by go_num, by rw [HMS8.out, if_neg (by simpa using HZ.out), List.append_nil]; exact HM8.out, HN8.out⟩
                case measure => have := HLT.out; simp [intOf]; omega
            · obtain rfl : p = (at_ B x).length := by omega
              rw [List.take_length] at HM7
              have HM9 := Lib.hid (HM7.out.perm HMID.out)
              clear hlt hp
              go_wp2_with fail
              go_roundg (ns.length - (o ++ [x]).length)
              case measure => have := HFW.out; have := HNN.out; rw [List.length_append, List.length_singleton]; omega
              case rel => exact ⟨o ++ [x], v7, N7, rfl, HM9.out, HIS.out, fun y hy => by
                have := HN7.out y hy
                rw [List.drop_length] at this
                simpa using this⟩
end Go.Proofs.Ytlbhpeeggbfcpaa
