/- order: the document's own Certify. -/
import Derived.Test.YtlbhpeeggbfcpaaZOcB
import Derived.Test.YtlbhpeeggbfcpaaZOcC
set_option linter.unusedSimpArgs false
set_option linter.unusedVariables false
set_option linter.unnecessarySimpa false
namespace Go.Proofs.Ytlbhpeeggbfcpaa
open Go.RowKit

theorem allG_take {T : List Tk} {k : Nat} {x : Tk} (h : T[k]? = some x) : allG (T.take (k + 1)) = intoP (allG (T.take k)) x.g := foldl_take _ _ h
def CerQ (w : World) (T : List Tk) (e : Ending) (w' : World) : Prop := ∃ v' o b, e = .returned (.tuple #[v', .bool b]) ∧ certP T o b ∧ SIs w' v' o ∧ Below w.heap.size w w'
theorem CerQ.mk {w w' : World} {T : List Tk} {v' : Value} {o : List Int} {b : Bool} (h1 : certP T o b) (h2 : SIs w' v' o) (h3 : Below w.heap.size w w') : CerQ w T (.returned (.tuple #[v', .bool b])) w' := ⟨v', o, b, rfl, h1, h2, h3⟩
def slen : Value → Nat
  | .slice _ n _ => n
  | _ => 0
/-- May one be ahead as far as another one says? -/
def qT (T : List Tk) (o : List Int) (g h : Int) : Bool := o.contains h || !aheadB T h g
def pT (T : List Tk) (al o : List Int) (g : Int) : Bool := !o.contains g && al.all (qT T o g)
theorem free_pT (T : List Tk) (al o : List Int) : freeT T al o = al.filter (pT T al o) := rfl
set_option maxRecDepth 100000 in
set_option maxHeartbeats 4000000 in
theorem RCertify_any {w : World} {v : Value} {T : List Tk} (h : RowIs w 3 v T.length (tkC T)) (hl : T.length ≤ 16) : Calls Try.prog 16 #[v] w (CerQ w T) := by
  obtain ⟨A, cap, rfl, h1, h2, _⟩ := id h.form
  unfold maxLen at h2
  have hlI : (T.length : Int) ≤ 16 := by omega
  have HTW := Lib.hid (Twice_any h (by omega))
  have HH := Lib.hid h
  have HL := Lib.hid hl
  clear h
  obtain ⟨bt, hb⟩ : ∃ b, twB T = b := ⟨_, rfl⟩
  rw [hb] at HTW
  have HBT := Lib.hid hb
  clear hb
  go_enter Try.func16, Try.ntmps16
  go_wp2_with fail
  refine (HTW.out).mono ?_
  rintro e w1 ⟨rfl, hb1⟩
  have HB1 := Lib.hid hb1
  clear hb1 HTW
  cases bt with
  | true =>
    have HN : Hid (¬ OnceP T) := Lib.hid (twB_iff.1 HBT.out)
    go_wp2_with fail
    refine bodyPost_ret (v := .tuple #[.slice none 0 0, .bool false]) (by simp [results, Try.results16, go_sem]) rfl (CerQ.mk (o := []) ⟨fun e => absurd e HN.out, fun _ => rfl, fun _ => rfl⟩ (RowIs.nil _ 1 : RowIs _ 1 _ ([] : List Int).length (ints [])).sis HB1.out)
  | false =>
    have HN : Hid (OnceP T) := Lib.hid (Classical.byContradiction fun e => by have := twB_iff.2 e; rw [HBT.out] at this; cases this)
    go_wp2_with fail
    go_loopw [4, 19] (fun av iv wr => ∃ k : Nat, k ≤ T.length ∧ iv = .int .i64 k ∧ RowIs wr 1 av (allG (T.take k)).length (ints (allG (T.take k))) ∧ (∀ b, av.ownBlock = some b → w.heap.size ≤ b) ∧ Below w.heap.size w wr) (fun _ iv _ => T.length - (intOf iv).toNat)
    case atStart => exact ⟨0, Nat.zero_le _, rfl, RowIs.nil _ _, (fun b e => by cases e), HB1.out⟩
    case round =>
      obtain ⟨k, hk, rfl, hr, ho, hb⟩ := hrel
      by_cases hlt : k < T.length
      · have hx : T[k]? = some T[k] := List.getElem?_eq_getElem hlt
        generalize T[k] = x at hx
        obtain ⟨g, rfl, k0, k1, k2⟩ := tk_cells (HH.out.below hb) hx
        have hi : (k : Int) < (T.length : Int) := by omega
        have hbn := below_new (w := wr) (.cells #[.int .i64 x.g, .int .i64 x.site, .int .i64 x.n] 78)
        have hlen : (allG (T.take k)).length ≤ 16 := by have := (allG_holds (T.take k)).2.2; rw [List.length_take] at this; omega
        have HIN := Lib.hid (into_any (n := x.g) (hr.below hbn) (by omega))
        rw [← allG_take hx] at HIN
        have HB := Lib.hid (hb.trans (hbn.mono hb.size))
        have HZ := Lib.hid (Nat.le_trans hb.size hbn.size)
        have HLT := Lib.hid hlt
        clear hr ho hb hbn hlt hk hx hlen
        go_wp2_with fail
        refine (HIN.out).mono ?_
        rintro e w2 ⟨v2, rfl, hr2, ho2, hb2⟩
        have HF := Lib.hid (And.intro hr2 (And.intro (show ∀ b, v2.ownBlock = some b → w.heap.size ≤ b from fun b e => Nat.le_trans HZ.out (ho2 b e)) (HB.out.trans (hb2.mono HB.out.size))))
        clear hr2 ho2 hb2 HIN
        go_wp2_with fail
        go_roundw
        case rel => exact ⟨k + 1, HLT.out, by go_num, HF.out⟩
        case measure => have := HLT.out; simp [intOf]; omega
      · obtain rfl : k = T.length := by omega
        rw [List.take_length] at hr
        have hall : (allG T).length ≤ 16 := by have := (allG_holds T).2.2; omega
        obtain ⟨Aa, ca, rfl, _⟩ := id hr.form
        have HALL := Lib.hid hall
        have HR := Lib.hid hr
        have HO := Lib.hid ho
        have HB := Lib.hid hb
        have hallI : ((allG T).length : Int) ≤ 16 := by omega
        obtain ⟨al, hal⟩ : ∃ al, al = allG T := ⟨_, rfl⟩
        rw [← hal] at HALL HR HO hallI ⊢
        have HAL := Lib.hid hal
        clear hlt hk hr ho hb hall hal
        generalize wr = wa at *
        go_wp2_with fail
        go_loopw [5] (fun ov wx => ∃ o : List Int, o.length ≤ al.length ∧ RowIs wx 1 ov o.length (ints o) ∧ (∀ b, ov.ownBlock = some b → wa.heap.size ≤ b) ∧ ordT T al (al.length - o.length) o = ordT T al al.length [] ∧ Below wa.heap.size wa wx) (fun ov _ => al.length - slen ov)
        case atStart => exact ⟨[], Nat.zero_le _, RowIs.nil _ _, (fun b e => by cases e), rfl, Below.refl _ _⟩
        case round =>
          obtain ⟨o, hol, hr, ho, hord, hb⟩ := hrel
          obtain ⟨Ao, co, rfl, _⟩ := id hr.form
          by_cases hlt : o.length < al.length
          · have hi : (o.length : Int) < (al.length : Int) := by omega
            have HRo := Lib.hid hr
            have HOo := Lib.hid ho
            have HORD := Lib.hid hord
            have HBo := Lib.hid hb
            have HLo := Lib.hid hlt
            clear hr ho hord hb hol hlt
            generalize wr = wo at *
            go_wp2_with fail
            go_loopw [8, 9, 35] (fun nv fv iv wx => ∃ (i : Nat) (F : List Int), i ≤ al.length ∧ iv = .int .i64 i ∧ F = (al.take i).filter (pT T al o) ∧ nv = .int .i64 (F.headD 0) ∧ fv = .bool (!F.isEmpty) ∧ Below wo.heap.size wo wx) (fun _ _ iv _ => al.length - (intOf iv).toNat)
            case atStart => exact ⟨0, [], Nat.zero_le _, rfl, rfl, rfl, rfl, Below.refl _ _⟩
            case round =>
              obtain ⟨i, F, hil, rfl, hF, rfl, rfl, hb⟩ := hrel
              by_cases hlt : i < al.length
              · have hx : al[i]? = some al[i] := List.getElem?_eq_getElem hlt
                generalize al[i] = g at hx
                have htk : al.take (i + 1) = al.take i ++ [g] := by rw [List.take_add_one, hx]; rfl
                obtain ⟨_, _, e', _, _, _, _, hc⟩ := ((HR.out.below (HBo.out.trans (hb.mono HBo.out.size)))).form
                injection e' with e1 _ e3
                subst e1 e3
                obtain ⟨ga, rfl, k0⟩ := hc i (.int .i64 g) (by unfold ints; rw [List.getElem?_map, hx]; rfl)
                have hi2 : (i : Int) < (al.length : Int) := by omega
                have HBi := Lib.hid hb
                have HLi := Lib.hid hlt
                have HFN : Hid ((al.take (i + 1)).filter (pT T al o) = F ++ if pT T al o g then [g] else []) := Lib.hid (by
                  rw [htk, List.filter_append, ← hF]
                  cases hp : pT T al o g <;> simp [hp])
                have hRo2 := HRo.out.below hb
                have HRA : Hid (∀ wx, Below wr.heap.size wr wx → RowIs wx 1 (.slice (some ⟨ga, 0, none⟩) al.length ca) al.length (ints al)) := Lib.hid (fun wx hbx => (HR.out.below (HBo.out.trans (hb.mono HBo.out.size))).below hbx)
                have HRT : Hid (∀ wx, Below wr.heap.size wr wx → RowIs wx 3 (.slice A T.length cap) T.length (tkC T)) := Lib.hid (fun wx hbx => ((HH.out.below HB.out).below (HBo.out.trans (hb.mono HBo.out.size))).below hbx)
                have HRO : Hid (∀ wx, Below wr.heap.size wr wx → RowIs wx 1 (.slice Ao o.length co) o.length (ints o)) := Lib.hid (fun wx hbx => hRo2.below hbx)
                have hol16 : o.length ≤ 1000 := by have := HALL.out; have := HLo.out; omega
                have hTl : T.length ≤ 1000 := by have := HL.out; omega
                have HHAS : Hid (∀ (wx : World) (n : Int), Below wr.heap.size wr wx → Calls Try.prog 22 #[.slice Ao o.length co, .int .i64 n] wx fun e w' => e = .returned (.bool (decide (n ∈ o))) ∧ Below wx.heap.size wx w') := Lib.hid (fun wx n hbx => has_any (HRO.out wx hbx) hol16)
                have HAHD : Hid (∀ (wx : World) (a b : Int), Below wr.heap.size wr wx → Calls Try.prog 20 #[.int .i64 a, .int .i64 b, .slice A T.length cap] wx fun e w' => e = .returned (.bool (aheadB T a b)) ∧ Below wx.heap.size wx w') := Lib.hid (fun wx a b hbx => Ahead_any (HRT.out wx hbx) hTl)
                clear htk hx hb hlt hil hF hRo2 hc hol16 hTl
                generalize wr = wi at *
                cases F with
                | nil =>
                  have HG := Lib.hid (HHAS.out wi g (Below.refl _ _))
                  obtain ⟨bg, hbg⟩ : ∃ bg, decide (g ∈ o) = bg := ⟨_, rfl⟩
                  rw [hbg] at HG
                  have HBG := Lib.hid hbg
                  clear hbg
                  go_wp2_with fail
                  refine (HG.out).mono ?_
                  rintro e w5 ⟨rfl, hb5⟩
                  have HB5 := Lib.hid hb5
                  clear hb5
                  go_wp2_with fail
                  go_loopw [12, 49] (fun fv jv wx => ∃ (j : Nat) (f : Bool), j ≤ al.length ∧ jv = .int .i64 j ∧ fv = .bool f ∧ f = (!bg && (al.take j).all (qT T o g)) ∧ Below wi.heap.size wi wx) (fun _ jv _ => al.length - (intOf jv).toNat)
                  case atStart => exact ⟨0, !bg, Nat.zero_le _, rfl, rfl, by simp, HB5.out⟩
                  case round =>
                    obtain ⟨j, f, hjl, rfl, rfl, hf, hb⟩ := hrel
                    by_cases hlt : j < al.length
                    · have hx : al[j]? = some al[j] := List.getElem?_eq_getElem hlt
                      generalize al[j] = h at hx
                      have htk : al.take (j + 1) = al.take j ++ [h] := by rw [List.take_add_one, hx]; rfl
                      have hfn : (!bg && (al.take (j + 1)).all (qT T o g)) = (f && qT T o g h) := by rw [htk, List.all_append, hf]; simp [Bool.and_assoc]
                      obtain ⟨_, _, e', _, _, _, _, hc⟩ := (HRA.out _ hb).form
                      injection e' with e1 _ e3
                      subst e1 e3
                      obtain ⟨ga2, eg, q0⟩ := hc j (.int .i64 h) (by unfold ints; rw [List.getElem?_map, hx]; rfl)
                      injection eg with eg
                      injection eg with eg
                      subst eg
                      have hj2 : (j : Int) < (al.length : Int) := by omega
                      have HBj := Lib.hid hb
                      have HLj := Lib.hid hlt
                      have HFN2 := Lib.hid hfn
                      have HG2 := Lib.hid (HHAS.out wr h hb)
                      have HA2 := Lib.hid (fun (wx : World) (hbx : Below wr.heap.size wr wx) => HAHD.out wx h g (hb.trans (hbx.mono hb.size)))
                      clear hfn hf htk hx hb hlt hjl hc
                      cases f with
                      | false =>
                        go_wp2_with fail
                        go_roundw
                        case rel => exact ⟨j + 1, false, HLj.out, by go_num, rfl, by rw [HFN2.out]; rfl, HBj.out⟩
                        case measure => have := HLj.out; simp [intOf]; omega
                      | true =>
                        obtain ⟨bh, hbh⟩ : ∃ bh, decide (h ∈ o) = bh := ⟨_, rfl⟩
                        rw [hbh] at HG2
                        have HBH := Lib.hid hbh
                        clear hbh
                        go_wp2_with fail
                        refine (HG2.out).mono ?_
                        rintro e w6 ⟨rfl, hb6⟩
                        have HB6 := Lib.hid (HBj.out.trans (hb6.mono HBj.out.size))
                        have HA3 := Lib.hid (HA2.out w6 hb6)
                        clear hb6 HG2 HA2
                        cases bh with
                        | true =>
                          have HQ : Hid (qT T o g h = true) := Lib.hid (by unfold qT; rw [List.contains_eq_mem, HBH.out]; rfl)
                          go_wp2_with fail
                          go_roundw
                          case rel => exact ⟨j + 1, true, HLj.out, by go_num, rfl, by rw [HFN2.out, HQ.out]; rfl, HB6.out⟩
                          case measure => have := HLj.out; simp [intOf]; omega
                        | false =>
                          have HQ : Hid (qT T o g h = !aheadB T h g) := Lib.hid (by unfold qT; rw [List.contains_eq_mem, HBH.out]; rfl)
                          obtain ⟨ba, hba⟩ : ∃ ba, aheadB T h g = ba := ⟨_, rfl⟩
                          rw [hba] at HQ HA3
                          clear hba
                          go_wp2_with fail
                          refine (HA3.out).mono ?_
                          rintro e w7 ⟨rfl, hb7⟩
                          have HB7 := Lib.hid (HB6.out.trans (hb7.mono HB6.out.size))
                          clear hb7 HA3
                          go_wp2_with fail
                          go_roundw
                          case rel => exact ⟨j + 1, !ba, HLj.out, by go_num, rfl, by rw [HFN2.out, HQ.out]; rfl, HB7.out⟩
                          case measure => have := HLj.out; simp [intOf]; omega
                    · obtain rfl : j = al.length := by omega
                      rw [List.take_length] at hf
                      have hp : pT T al o g = f := by unfold pT; rw [List.contains_eq_mem, HBG.out, hf]
                      rw [hp] at HFN
                      have HBj := Lib.hid (HBi.out.trans (hb.mono HBi.out.size))
                      clear hf hp hb hlt hjl
                      cases f with
                      | true =>
                        go_wp2_with fail
                        go_roundw
                        case rel => exact ⟨i + 1, [g], HLi.out, by go_num, by rw [HFN.out]; rfl, rfl, rfl, HBj.out⟩
                        case measure => have := HLi.out; simp [intOf]; omega
                      | false =>
                        go_wp2_with fail
                        go_roundw
                        case rel => exact ⟨i + 1, [], HLi.out, by go_num, by rw [HFN.out]; rfl, rfl, rfl, HBj.out⟩
                        case measure => have := HLi.out; simp [intOf]; omega
                | cons f0 F0 =>
                  dsimp only [List.headD, List.isEmpty, Bool.not_false]
                  go_wp2_with fail
                  go_loopw [12, 49] (fun fv jv wx => ∃ j : Nat, j ≤ al.length ∧ jv = .int .i64 j ∧ fv = .bool false ∧ Below wi.heap.size wi wx) (fun _ jv _ => al.length - (intOf jv).toNat)
                  case atStart => exact ⟨0, Nat.zero_le _, rfl, rfl, Below.refl _ _⟩
                  case round =>
                    obtain ⟨j, hjl, rfl, rfl, hb⟩ := hrel
                    by_cases hlt : j < al.length
                    · have hx : al[j]? = some al[j] := List.getElem?_eq_getElem hlt
                      generalize al[j] = h at hx
                      obtain ⟨_, _, e', _, _, _, _, hc⟩ := (HRA.out _ hb).form
                      injection e' with e1 _ e3
                      subst e1 e3
                      obtain ⟨ga2, eg, q0⟩ := hc j (.int .i64 h) (by unfold ints; rw [List.getElem?_map, hx]; rfl)
                      injection eg with eg
                      injection eg with eg
                      subst eg
                      have hj2 : (j : Int) < (al.length : Int) := by omega
                      have HBj := Lib.hid hb
                      have HLj := Lib.hid hlt
                      clear hx hb hlt hjl hc
                      go_wp2_with fail
                      go_roundw
                      case rel => exact ⟨j + 1, HLj.out, by go_num, rfl, HBj.out⟩
                      case measure => have := HLj.out; simp [intOf]; omega
                    · obtain rfl : j = al.length := by omega
                      have HBj := Lib.hid (HBi.out.trans (hb.mono HBi.out.size))
                      clear hb hlt hjl
                      go_wp2_with fail
                      go_roundw
                      case rel => exact ⟨i + 1, (f0 :: F0) ++ (if pT T al o g then [g] else []), HLi.out, by go_num, HFN.out.symm, rfl, rfl, HBj.out⟩
                      case measure => have := HLi.out; simp [intOf]; omega
              · obtain rfl : i = al.length := by omega
                rw [List.take_length, ← free_pT] at hF
                have HBm := Lib.hid hb
                have HFF := Lib.hid hF.symm
                clear hb hlt hil hF
                cases F with
                | nil =>
                  have HC : Hid (certP T [] false) := Lib.hid ⟨fun _ => by rw [← HAL.out, ← HORD.out]; exact ordT_none HFF.out _ (by have := HLo.out; omega), fun e => absurd HN.out e, fun _ => rfl⟩
                  have HBF := Lib.hid (HB.out.trans ((HBo.out.trans (HBm.out.mono HBo.out.size)).mono HB.out.size))
                  dsimp only [List.headD, List.isEmpty, Bool.not_true]
                  go_wp2_with fail
                  refine bodyPost_ret (v := .tuple #[.slice none 0 0, .bool false]) (by simp [results, Try.results16, go_sem]) rfl (CerQ.mk HC.out (RowIs.nil _ 1 : RowIs _ 1 _ ([] : List Int).length (ints [])).sis HBF.out)
                | cons f0 F0 =>
                  dsimp only [List.headD, List.isEmpty, Bool.not_false]
                  obtain ⟨ov', w', r1, r2, r3, r4⟩ := app_int f0 30 (HRo.out.below HBm.out) (by have := HALL.out; have := HLo.out; omega)
                  have HF : Hid ((o ++ [f0]).length ≤ al.length ∧ RowIs w' 1 ov' (o ++ [f0]).length (ints (o ++ [f0])) ∧ (∀ b, ov'.ownBlock = some b → wa.heap.size ≤ b) ∧ ordT T al (al.length - (o ++ [f0]).length) (o ++ [f0]) = ordT T al al.length [] ∧ Below wa.heap.size wa w') := Lib.hid (by
                    have h5 := HLo.out
                    have hbb := HBo.out.trans (HBm.out.mono HBo.out.size)
                    refine ⟨by rw [List.length_append, List.length_singleton]; omega, r2, fun b hb => ?_, ?_, hbb.trans (r3.below (fun b e => HOo.out b e) hbb.size)⟩
                    · rcases r4 b hb with e | e
                      · exact HOo.out b e
                      · exact Nat.le_trans hbb.size e
                    · rw [← HORD.out, List.length_append, List.length_singleton]
                      have e6 : al.length - o.length = (al.length - (o.length + 1)) + 1 := by omega
                      rw [e6, ordT_some HFF.out])
                  obtain ⟨Av, cv, ev, _⟩ := id r2.form
                  have HLN : Hid (slen ov' = o.length + 1) := Lib.hid ((congrArg slen ev).trans (by show (o ++ [f0]).length = o.length + 1; simp))
                  clear ev
                  clear r2 r3 r4
                  go_wp2_with (at_builtin; refine wpList_app_run rfl _ _ _ _ rfl rfl rfl r1 ?_)
                  go_roundw
                  case rel => exact ⟨o ++ [f0], HF.out⟩
                  case measure => have := HLo.out; rw [HLN.out]; show al.length - (o.length + 1) < al.length - slen (.slice Ao o.length co); simp only [slen]; omega
          · have hle : ¬ ((o.length : Int) < (al.length : Int)) := by omega
            have h0 : al.length - o.length = 0 := by omega
            rw [h0] at hord
            have HC : Hid (certP T o true) := Lib.hid ⟨fun _ => by rw [← HAL.out, ← hord]; rfl, fun e => absurd HN.out e, fun e => by cases e⟩
            have HS := Lib.hid hr.sis
            have HBF := Lib.hid (HB.out.trans (hb.mono HB.out.size))
            clear hr ho hord hb hol hlt h0
            go_wp2_with fail
            refine bodyPost_ret (v := .tuple #[.slice Ao o.length co, .bool true]) (by simp [results, Try.results16, go_sem]) rfl (CerQ.mk HC.out HS.out HBF.out)
end Go.Proofs.Ytlbhpeeggbfcpaa
