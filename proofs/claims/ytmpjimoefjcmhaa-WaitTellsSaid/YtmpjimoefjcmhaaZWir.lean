/- The reference's Order, walked. -/
import Derived.Test.YtmpjimoefjcmhaaZWiq
set_option linter.unusedSimpArgs false
set_option linter.unusedVariables false
set_option linter.unnecessarySimpa false
namespace Go.Proofs.Ytmpjimoefjcmhaa
open Go.RowKit

/-- May one be next, as the reference asks it? -/
def mayW (l : List (Int × Int)) (o : List Int) (w : Int) : Bool := !o.contains w && l.all fun e => e.1 != w || o.contains e.2
theorem free_may (l : List (Int × Int)) (ns o : List Int) : freeP (graphR l) ns o = ns.filter (mayW l o) := by
  unfold freeP
  congr 1
  funext w
  unfold mayW
  congr 1
  rw [Bool.eq_iff_iff, List.all_eq_true, List.all_eq_true]
  constructor
  · intro h e he
    by_cases hw : e.1 = w
    · have := h e.2 ((mem_at l w e.2).2 (by rw [← hw]; exact he))
      simpa [hw] using this
    · simp [hw]
  · intro h y hy
    have := h (w, y) ((mem_at l w y).1 hy)
    simpa using this
theorem all_take {l : List (Int × Int)} {k : Nat} {x : Int × Int} (p : Int × Int → Bool) (h : l[k]? = some x) : (l.take (k + 1)).all p = ((l.take k).all p && p x) := by
  have hk := (List.getElem?_eq_some_iff.1 h).1
  rw [List.take_succ_eq_append_getElem hk, (List.getElem?_eq_some_iff.1 h).2, List.all_append]
  simp
theorem find_take {l : List Int} {k : Nat} {x : Int} (p : Int → Bool) (h : l[k]? = some x) : (l.take (k + 1)).find? p = ((l.take k).find? p).or (if p x then some x else none) := by
  have hk := (List.getElem?_eq_some_iff.1 h).1
  rw [List.take_succ_eq_append_getElem hk, (List.getElem?_eq_some_iff.1 h).2, List.find?_append]
  congr 1
  by_cases hp : p x = true
  · simp [hp]
  · simp [hp]
set_option maxRecDepth 100000 in
set_option maxHeartbeats 8000000 in
theorem ord_ref {w : World} {v : Value} {l : List (Int × Int)} (h : EIs w v l) (hl : l.length ≤ 1000) : Calls Try.prog 13 #[v] w fun e w' => ∃ v' o b, e = .returned (.tuple #[v', .bool b]) ∧ ordP (graphR l) (allP l) (allP l).length [] = (if b then some o else none) ∧ (b = false → o = []) ∧ RowIs w' 1 v' o.length (ints o) ∧ Below w.heap.size w w' := by
  have HE := Lib.hid h
  have HA := Lib.hid (all_ref h hl)
  obtain ⟨A, cap, rfl, hA1, hA2, _⟩ := h
  unfold maxLen at hA2
  have hlI : (l.length : Int) ≤ 1000 := by omega
  go_enter Try.func13, Try.ntmps13
  go_wp2_with fail
  refine (HA.out).mono ?_
  rintro e w1 ⟨v1, rfl, hv1, ho1, hb1⟩
  obtain ⟨hns, hmem, hfew⟩ := allP_holds l
  have HNS := Lib.hid hns
  generalize hne : allP l = ns at *
  have HNE := Lib.hid hne
  clear hne
  have HV1 := Lib.hid hv1
  have HB1 := Lib.hid hb1
  obtain ⟨A1, c1, e1, hc11, hc12, _⟩ := hv1.form
  subst e1
  unfold maxLen at hc12
  have hnI : (ns.length : Int) ≤ 2000 := by omega
  have HFW : Hid (ns.length ≤ 2000) := Lib.hid (by omega)
  have HGN : Hid (∀ x, (at_ (graphR l) x).Nodup) := Lib.hid (fun x => at_nodup l x)
  have HGE : Hid (∀ o, freeP (graphR l) ns o = ns.filter (mayW l o)) := Lib.hid (fun o => free_may l ns o)
  clear hns hmem hfew hv1 ho1 hb1 HA
  go_wp2_with fail
  go_loopg [5] ns.length (fun n ov wr => ∃ o : List Int, ns.length - o.length = n ∧ OrdI (graphR l) ns o ∧ RowIs wr 1 ov o.length (ints o) ∧ (∀ b, ov.ownBlock = some b → w1.heap.size ≤ b) ∧ Below w1.heap.size w1 wr)
  case atStart => exact ⟨[], by simp, OrdI.nil _ _, RowIs.nil _ _, (fun b e => by cases e), Below.refl _ _⟩
  case round =>
    obtain ⟨o, hn, hoi, hrow, ho, hb⟩ := hrel
    have HOI := Lib.hid hoi
    have HB := Lib.hid hb
    have HO := Lib.hid ho
    have HR := Lib.hid hrow
    have HNN := Lib.hid hn
    have hol := nodup_le hoi.one hoi.sub
    have HOL := Lib.hid hol
    obtain ⟨Ao, co, eo, hco1, hco2, _⟩ := hrow.form
    subst eo
    unfold maxLen at hco2
    have hoI : (o.length : Int) ≤ 2000 := by omega
    by_cases hlt : o.length < ns.length
    · have q1 : (o.length : Int) < (ns.length : Int) := by omega
      have HLT := Lib.hid hlt
      clear hoi hrow ho hb hn hol hlt
      go_upto_block 2 with fail
      go_cut [6, 7, 9, 10, 12] from 20 to 56 (fun nv fv a9 a10 a12 wx => ((ns.find? (mayW l o) = none ∧ fv = .bool false) ∨ ∃ x, ns.find? (mayW l o) = some x ∧ fv = .bool true ∧ nv = .int .i64 x) ∧ Below w1.heap.size w1 wx ∧ RowIs wx 1 (.slice Ao o.length co) o.length (ints o))
      case first =>
        go_wp2_with fail
        go_loopw [6, 7, 22] (fun nv fv iv wr => ∃ k : Nat, k ≤ ns.length ∧ iv = .int .i64 k ∧ (((ns.take k).find? (mayW l o) = none ∧ fv = .bool false) ∨ ∃ x, (ns.take k).find? (mayW l o) = some x ∧ fv = .bool true ∧ nv = .int .i64 x) ∧ Below w1.heap.size w1 wr ∧ RowIs wr 1 (.slice Ao o.length co) o.length (ints o)) (fun _ _ iv _ => ns.length - (intOf iv).toNat)
        case atStart => exact ⟨0, Nat.zero_le _, rfl, .inl ⟨by simp, rfl⟩, HB.out, HR.out⟩
        case round =>
          obtain ⟨k, hk, rfl, hfd, hb, hro⟩ := hrel
          have HFD := Lib.hid hfd
          have HB2 := Lib.hid hb
          have HRO := Lib.hid hro
          by_cases hlt : k < ns.length
          · have hx : ns[k]? = some ns[k] := List.getElem?_eq_getElem hlt
            generalize ns[k] = x at hx
            obtain ⟨_, _, e', _, _, _, _, hc⟩ := (HV1.out.below hb).form
            injection e' with e1 _ e3
            subst e1 e3
            obtain ⟨g, rfl, kc⟩ := hc k (.int .i64 x) (by unfold ints; rw [List.getElem?_map, hx]; rfl)
            have hi : (k : Int) < (ns.length : Int) := by omega
            have HLT2 := Lib.hid hlt
            have HFT := Lib.hid (find_take (mayW l o) hx)
            have HHX := Lib.hid (has_any (x := x) hro (by omega))
            -- the flag, once all edges were gone through
            obtain ⟨f, hf⟩ : ∃ f : Bool, u7 = .bool f ∧ (f = true → ∃ z, (ns.take k).find? (mayW l o) = some z ∧ u6 = .int .i64 z) ∧ (f = false → (ns.take k).find? (mayW l o) = none) := by
              rcases hfd with ⟨h1, h2⟩ | ⟨z, h1, h2, h3⟩
              · exact ⟨false, h2, (fun e => by cases e), fun _ => h1⟩
              · exact ⟨true, h2, fun _ => ⟨z, h1, h3⟩, (fun e => by cases e)⟩
            obtain ⟨rfl, hf1, hf2⟩ := hf
            have HF1 := Lib.hid hf1
            have HF2 := Lib.hid hf2
            clear hx hk hc hfd hb hro hlt hf1 hf2
            go_upto_region 9 with fail
            go_cut [10] from 26 to 33 (fun fv wx => fv = .bool (!f && !o.contains x) ∧ wr = wx)
            case first =>
              cases f with
              | true =>
                go_wp2_with fail
                go_meet
                exact ⟨by simp, rfl⟩
              | false =>
                go_wp2_with fail
                refine (HHX.out).mono ?_
                rintro e wx ⟨rfl, hwx⟩
                subst wx
                go_wp2_with fail
                go_meet
                exact ⟨by simp, rfl⟩
            case rest =>
              obtain ⟨rfl, rfl⟩ := hcut
              go_upto_block 4 with fail
              go_cut [10, 12] from 34 to 53 (fun fv ev wx => fv = .bool (!f && mayW l o x) ∧ Below w1.heap.size w1 wx ∧ RowIs wx 1 (.slice Ao o.length co) o.length (ints o))
              case first =>
                go_wp2_with fail
                go_loopw [10, 36] (fun fv iv wr => ∃ j : Nat, j ≤ l.length ∧ iv = .int .i64 j ∧ fv = .bool (!f && (!o.contains x && (l.take j).all fun e => e.1 != x || o.contains e.2)) ∧ Below w1.heap.size w1 wr ∧ RowIs wr 1 (.slice Ao o.length co) o.length (ints o)) (fun _ iv _ => l.length - (intOf iv).toNat)
                case atStart => exact ⟨0, Nat.zero_le _, rfl, by simp, HB2.out, HRO.out⟩
                case round =>
                  obtain ⟨j, hj, rfl, rfl, hb3, hro3⟩ := hrel
                  have HB3 := Lib.hid hb3
                  have HRO3 := Lib.hid hro3
                  by_cases hjl : j < l.length
                  · have hxe : l[j]? = some l[j] := List.getElem?_eq_getElem hjl
                    generalize l[j] = ed at hxe
                    obtain ⟨_, _, e', _, _, h3⟩ := ((HE.out.below HB1.out).below hb3)
                    injection e' with e1 _ e3
                    subst e1 e3
                    obtain ⟨a, rfl, ha, k0, k1⟩ := h3 j ed hxe
                    obtain ⟨p, q⟩ := ed
                    have hi2 : (j : Int) < (l.length : Int) := by omega
                    have k1' : wr.cell? ⟨(a.add (j * 2)).block, (a.add (j * 2)).off + 1, none⟩ = some (.int .i64 q) := k1
                    have hbn := below_new (w := wr) (.cells #[.int .i64 p, .int .i64 q] 40)
                    have hrn := hro3.below hbn
                    have HRN := Lib.hid hrn
                    have HBN := Lib.hid (hb3.trans (hbn.mono hb3.size))
                    have HHQ := Lib.hid (has_any (x := q) hrn (by omega))
                    have HJL := Lib.hid hjl
                    have HAT := Lib.hid (all_take (fun e => e.1 != x || o.contains e.2) hxe)
                    clear h3 hxe hj k1 hb3 hro3 hjl hbn hrn
                    generalize hfc : (!f && (!o.contains x && (l.take j).all fun e => e.1 != x || o.contains e.2)) = fc at *
                    have HFC : Hid ((!f && (!o.contains x && (l.take (j + 1)).all fun e => e.1 != x || o.contains e.2)) = (fc && (p != x || o.contains q))) := Lib.hid (by
                      rw [HAT.out, ← hfc]
                      cases f <;> cases o.contains x <;> cases ((l.take j).all fun e => e.1 != x || o.contains e.2) <;> rfl)
                    clear hfc
                    cases fc with
                    | false =>
                      go_wp2_with fail
                      go_roundw
                      case rel => exact ⟨j + 1, HJL.out, by go_num, by rw [HFC.out]; rfl, HBN.out, HRN.out⟩
                      case measure => have := HJL.out; simp [intOf]; omega
                    | true =>
                      by_cases hpx : p = x
                      · have HPX := Lib.hid hpx
                        subst hpx
                        go_wp2_with fail
                        refine (HHQ.out).mono ?_
                        rintro e wx ⟨rfl, hwx⟩
                        subst wx
                        go_wp2_with fail
                        go_roundw
                        case rel => exact ⟨j + 1, HJL.out, by go_num, by rw [HFC.out]; simp, HBN.out, HRN.out⟩
                        case measure => have := HJL.out; simp [intOf]; omega
                      · have b1 : (p != x) = true := by simpa using hpx
                        have HPX := Lib.hid b1
                        clear hpx
                        go_wp2_with fail
                        go_roundw
                        case rel => exact ⟨j + 1, HJL.out, by go_num, by rw [HFC.out, HPX.out]; rfl, HBN.out, HRN.out⟩
                        case measure => have := HJL.out; simp [intOf]; omega
                  · obtain rfl : j = l.length := by omega
                    have HMW : Hid ((!f && (!o.contains x && (l.take l.length).all fun e => e.1 != x || o.contains e.2)) = (!f && mayW l o x)) := Lib.hid (by rw [List.take_length]; rfl)
                    rw [HMW.out]
                    clear hj hjl hb3 hro3
                    go_wp2_with fail
                    go_meet
                    exact ⟨rfl, HB3.out, HRO3.out⟩
              case rest =>
                obtain ⟨rfl, hb4, hro4⟩ := hcut
                have HB4 := Lib.hid hb4
                have HRO4 := Lib.hid hro4
                clear hb4 hro4
                cases f with
                | true =>
                  have eb : (!true && mayW l o x) = false := rfl
                  rw [eb]
                  clear eb
                  go_wp2_with fail
                  go_roundw
                  case rel => exact ⟨k + 1, HLT2.out, by go_num, .inr (by
                    obtain ⟨z, h1, h2⟩ := HF1.out rfl
                    exact ⟨z, by rw [HFT.out, h1]; rfl, rfl, h2⟩), HB4.out, HRO4.out⟩
                  case measure => have := HLT2.out; simp [intOf]; omega
                | false =>
                  have h1 := HF2.out rfl
                  rw [h1] at HFT
                  have eb : (!false && mayW l o x) = mayW l o x := rfl
                  rw [eb]
                  clear eb
                  cases hm : mayW l o x with
                  | true =>
                    have HM := Lib.hid hm
                    clear hm h1
                    go_wp2_with fail
                    go_roundw
                    case rel => exact ⟨k + 1, HLT2.out, by go_num, .inr ⟨x, by rw [HFT.out, HM.out]; rfl, rfl, rfl⟩, HB4.out, HRO4.out⟩
                    case measure => have := HLT2.out; simp [intOf]; omega
                  | false =>
                    have HM := Lib.hid hm
                    clear hm h1
                    go_wp2_with fail
                    go_roundw
                    case rel => exact ⟨k + 1, HLT2.out, by go_num, .inl ⟨by rw [HFT.out, HM.out]; rfl, rfl⟩, HB4.out, HRO4.out⟩
                    case measure => have := HLT2.out; simp [intOf]; omega
          · obtain rfl : k = ns.length := by omega
            have HFD2 := HFD
            have HFE : Hid (ns.take ns.length = ns) := Lib.hid (List.take_length)
            clear hlt hk hfd hb hro
            go_wp2_with fail
            go_meet
            have h1 := HFD.out
            rw [HFE.out] at h1
            exact ⟨h1, HB2.out, HRO.out⟩
      case rest =>
        obtain ⟨hfd, hb5, hro5⟩ := hcut
        have HR5 := Lib.hid hro5
        clear hro5
        rcases hfd with ⟨h1, rfl⟩ | ⟨x, h1, rfl, rfl⟩
        · have hfr : freeP (graphR l) ns o = [] := by
            rw [HGE.out, List.filter_eq_nil_iff]
            intro y hy
            have := List.find?_eq_none.1 h1 y hy
            simpa using this
          have HRUN : Hid (ordP (graphR l) ns ns.length [] = none) := Lib.hid (by rw [HOI.out.run]; exact ord_none hfr _ (by have := HLT.out; omega))
          have HB6 : Hid (Below w.heap.size w wc) := Lib.hid (HB1.out.trans (hb5.mono HB1.out.size))
          clear h1 hb5 hfr
          go_wp2_with fail
          refine bodyPost_ret (v := .tuple #[.slice none 0 0, .bool false]) (by simp [results, Try.results13, go_sem]) rfl ?_
          rw [HNE.out]
          exact ⟨_, [], false, rfl, HRUN.out, (fun _ => rfl), RowIs.nil _ _, HB6.out⟩
        · obtain ⟨F, hF⟩ : ∃ F, freeP (graphR l) ns o = x :: F := by
            have h2 : (freeP (graphR l) ns o).head? = some x := by rw [HGE.out, List.head?_filter]; exact h1
            cases hf : freeP (graphR l) ns o with
            | nil => rw [hf] at h2; cases h2
            | cons y F =>
              rw [hf] at h2
              have h2 : some y = some x := h2
              injection h2 with h2
              rw [h2]
              exact ⟨F, rfl⟩
          have HOS := Lib.hid (HOI.out.snoc HGN.out hF)
          obtain ⟨v6, w6, hr6, hv6, ht6, ho6⟩ := app_int x 26 HR5.out (by have := HOL.out; have := HFW.out; omega)
          have HV6 := Lib.hid hv6
          have HO6 : Hid (∀ b, v6.ownBlock = some b → w1.heap.size ≤ b) := Lib.hid (fun b e => (ho6 b e).elim (fun e => HO.out b e) (fun e => by have := hb5.size; omega))
          have HB6 : Hid (Below w1.heap.size w1 w6) := Lib.hid (hb5.trans (ht6.below (fun b e => HO.out b e) hb5.size))
          clear h1 hb5 hF hv6 ht6 ho6
          go_wp2_with (at_builtin; refine wpList_app_run rfl _ _ _ _ rfl rfl rfl hr6 ?_)
          go_roundg (ns.length - (o ++ [x]).length)
          case measure => have := HLT.out; have := HNN.out; rw [List.length_append, List.length_singleton]; omega
          case rel => exact ⟨o ++ [x], rfl, HOS.out, HV6.out, HO6.out, HB6.out⟩
    · have q1 : ¬ (o.length : Int) < (ns.length : Int) := by omega
      have hoe : o.length = ns.length := by omega
      have HRUN : Hid (ordP (graphR l) ns ns.length [] = some o) := Lib.hid (by rw [hoi.run, hoe, Nat.sub_self]; rfl)
      have HB4 : Hid (Below w.heap.size w wr) := Lib.hid (HB1.out.trans (hb.mono HB1.out.size))
      clear hoi hrow ho hb hn hol hlt hoe
      go_wp2_with fail
      refine bodyPost_ret (v := .tuple #[.slice Ao o.length co, .bool true]) (by simp [results, Try.results13, go_sem]) rfl ?_
      rw [HNE.out]
      exact ⟨_, o, .inr ⟨rfl, HRUN.out, HR.out, HB4.out⟩⟩
end Go.Proofs.Ytmpjimoefjcmhaa
