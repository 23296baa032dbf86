/- order: the law OrderRises. -/
import Derived.Test.YtlbhpeeggbfcpaaZOrdU
set_option linter.unusedSimpArgs false
set_option linter.unusedVariables false
set_option linter.unnecessarySimpa false
namespace Go.Proofs.Ytlbhpeeggbfcpaa
open Go.RowKit

set_option maxRecDepth 100000 in
set_option maxHeartbeats 4000000 in
theorem law_orises {w : World} {v tv : Value} {l : Gr} {tl : List (Int × Int × Bool)} (h : UIs w v l) (ht : TIs w tv tl) : Calls Try.prog 5 #[v, tv] w fun e w' => e = .returned (.bool true) ∧ Below w.heap.size w w' := by
  obtain ⟨A, cap, rfl, h1, h2, _⟩ := id h
  unfold maxLen at h2
  have HUS := Lib.hid (users_any h)
  obtain ⟨At, ct, rfl, ht1, ht2, _⟩ := id ht
  unfold maxLen at ht2
  have HT := Lib.hid ht
  clear h ht
  go_enter Try.func5, Try.ntmps5
  go_wp2_with fail
  refine (HUS.out).mono ?_
  rintro e w1 ⟨va, vb, rfl, ha, hb, hb1⟩
  obtain ⟨Ab, cb, rfl, hb2, hb3, _⟩ := id hb
  unfold maxLen at hb3
  have hL10 : (cutU l).length ≤ 10 := by unfold cutU; rw [List.length_map, List.length_take]; omega
  have HL6 : Hid (∀ u ∈ cutU l, u.2.length ≤ 6) := Lib.hid (fun u hu => by
    unfold cutU at hu
    obtain ⟨x, _, rfl⟩ := List.mem_map.1 hu
    show (x.2.take 6).length ≤ 6
    rw [List.length_take]; omega)
  have HB := Lib.hid hb
  have HB1 := Lib.hid hb1
  generalize cutU l = L at *
  have hLI : (L.length : Int) ≤ 10 := by omega
  clear ha hb hb1 HUS
  go_wp2_with fail
  go_loopw [7, 32] (fun nv iv wr => ∃ (k : Nat) (N : Gr) (ss : List (Int × Value)), k ≤ L.length ∧ iv = .int .i64 k ∧ N.length = k ∧ NowP N ∧ NowM w1 wr nv N ss) (fun _ iv _ => L.length - (intOf iv).toNat)
  case atStart => exact ⟨0, [], [], Nat.zero_le _, rfl, rfl, NowP.nil, NowM.start _⟩
  case round =>
    obtain ⟨k, N, ss, hk, rfl, hNk, hP, hI⟩ := hrel
    by_cases hlt : k < L.length
    · have hx : L[k]? = some L[k] := List.getElem?_eq_getElem hlt
      have hs6 := HL6.out _ (List.getElem_mem hlt)
      generalize L[k] = u at hx hs6
      obtain ⟨_, _, e', _, _, h4⟩ := HB.out.below hI.bel
      injection e' with e1 _ e3
      subst e1 e3
      obtain ⟨a, sv, rfl, ha, k0, k1', hsv⟩ := h4 k u hx
      obtain ⟨g, sl⟩ := u
      have hs6 : sl.length ≤ 6 := hs6
      obtain ⟨B, scap, rfl, hs1, hs2, _⟩ := id hsv
      have k1 : wr.cell? ⟨(a.add (k * 2)).block, (a.add (k * 2)).off + 1, none⟩ = some (.slice B sl.length scap) := k1'
      have hi : (k : Int) < (L.length : Int) := by omega
      have hat := alloc_at wr (.cells #[.int .i64 g, .slice B sl.length scap] 32)
      have hbn := below_new (w := wr) (.cells #[.int .i64 k, .slice B sl.length scap] 32)
      have hat2 := alloc_at wr (.cells #[.int .i64 k, .slice B sl.length scap] 32)
      have f0 := free0 hat 0
      have HV := Lib.hid (hsv.below hbn)
      have HI := Lib.hid hI
      have HZ := Lib.hid (asz wr (.cells #[.int .i64 k, .slice B sl.length scap] 32))
      have HBN := Lib.hid hbn
      have HA2 := Lib.hid hat2
      have HP := Lib.hid (hP.snoc (by omega) (Nat.le_trans (sites_holds sl).2 hs6))
      rw [hNk] at HP
      have HNK := Lib.hid hNk
      have c0 := cell_of hat2 0
      have c1 := cell_of hat2 1
      simp at c0 c1
      have hsI : (sl.length : Int) ≤ 6 := by omega
      have HLT := Lib.hid hlt
      clear hI hP hNk h4 k1' hsv hx hlt hk hat hat2 hbn hs1 hs2
      go_wp2_with fail
      generalize wr = wo at *
      go_loopw [10, 42] (fun ov jv wx => ∃ j : Nat, j ≤ sl.length ∧ jv = .int .i64 j ∧ RowIs wx 1 ov (sitesP (sl.take j)).length (ints (sitesP (sl.take j))) ∧ (∀ b, ov.ownBlock = some b → wo.heap.size + 1 ≤ b) ∧ Below (wo.heap.size + 1) (wo.alloc (.cells #[.int .i64 k, .slice B sl.length scap] 32)) wx) (fun _ jv _ => sl.length - (intOf jv).toNat)
      case atStart => exact ⟨0, Nat.zero_le _, rfl, RowIs.nil _ _, (fun b e => by cases e), Below.refl _ _⟩
      case round =>
        obtain ⟨j, hj, rfl, hr, ho, hbx⟩ := hrel
        have hzz := HZ.out
        by_cases hjl : j < sl.length
        · have hx : sl[j]? = some sl[j] := List.getElem?_eq_getElem hjl
          generalize sl[j] = x at hx
          obtain ⟨_, _, e', _, _, h4⟩ := HV.out.below (by rw [hzz]; exact hbx)
          injection e' with e1 _ e3
          subst e1 e3
          obtain ⟨b, rfl, hb, q0⟩ := h4 j x hx
          have hji : (j : Int) < (sl.length : Int) := by omega
          have hl2 : (sitesP (sl.take j)).length ≤ 6 := by have := (sites_holds (sl.take j)).2; rw [List.length_take] at this; omega
          have HIN := Lib.hid (into_any (n := x) hr (by omega))
          rw [← sites_take hx] at HIN
          have HBX := Lib.hid hbx
          have HJ := Lib.hid hjl
          have HSZ : Hid (wo.heap.size + 1 ≤ wr.heap.size) := Lib.hid (hzz ▸ hbx.size)
          clear hr ho hbx hj hjl hx h4 hl2 hzz
          go_wp2_with fail
          refine (HIN.out).mono ?_
          rintro e w5 ⟨v5, rfl, hr5, ho5, hb5⟩
          have HF := Lib.hid (And.intro hr5 (And.intro (show ∀ b, v5.ownBlock = some b → wo.heap.size + 1 ≤ b from fun b e => Nat.le_trans HSZ.out (ho5 b e)) (HBX.out.trans (hb5.mono HSZ.out))))
          clear hr5 ho5 hb5 HIN
          go_wp2_with fail
          go_roundw
          case rel => exact ⟨j + 1, HJ.out, by go_num, HF.out⟩
          case measure => have := HJ.out; simp [intOf]; omega
        · obtain rfl : j = sl.length := by omega
          rw [List.take_length] at hr
          have hbox := (hbx.block wo.heap.size (by omega)).trans HA2.out
          obtain ⟨Ao, co, rfl, _⟩ := id hr.form
          have hset := set_at hbox 1 (.slice Ao (sitesP sl).length co)
          have f1 := free0 hbox 1
          have r1 := cell_of hbox 1
          have hbW : Below wo.heap.size wo (wr.setCell ⟨wo.heap.size, 1, none⟩ (.slice Ao (sitesP sl).length co)) := (HBN.out.trans (hbx.mono (by omega))).setCell (p := ⟨wo.heap.size, 1, none⟩) (Nat.le_refl _) _
          have hr2 := hr.touch ((Touch.refl (fun b => b = wo.heap.size) wr).setCell ⟨wo.heap.size, 1, none⟩ (fun _ => rfl) (.slice Ao (sitesP sl).length co)) (fun b hb e => by have := ho b hb; omega)
          obtain ⟨nv', w', n1, n2⟩ := (HI.out.below hbW).push (by rw [HNK.out]; have := HLT.out; omega) (x := (k : Int)) rfl hr2 (fun b e => ⟨by have := ho b e; have := HI.out.bel.size; omega, fun e' => by have := ho b e; have := HI.out.row.lt b e'; omega⟩)
          have g0 := cell_of hset 0
          have g1 := cell_of hset 1
          simp at r1 g0 g1
          rw [World.size_setCell] at n1
          have HF := Lib.hid n2
          have HNL : Hid ((N ++ [((k : Int), sitesP sl)]).length = k + 1) := Lib.hid (by rw [List.length_append, HNK.out]; rfl)
          clear hr ho hbx hj hjl hzz hbox hset hbW hr2 n2
          go_wp2_with (at_builtin; refine wpList_app_run rfl _ _ _ _ rfl rfl rfl n1 ?_)
          go_roundw
          case rel => exact ⟨k + 1, _, _, HLT.out, by go_num, HNL.out, HP.out, HF.out⟩
          case measure => have := HLT.out; simp [intOf]; omega
    · obtain rfl : k = L.length := by omega
      clear hlt hk
      obtain ⟨An, cn, rfl, _⟩ := id hI.row.form
      have hsl : ss.length = L.length := by rw [hI.len, hNk]
      rw [hsl] at hI
      rw [hsl]
      have HI := Lib.hid hI
      have HP := Lib.hid hP
      have HNK := Lib.hid hNk
      clear hI hP hNk hsl
      go_wp2_with fail
      go_loopw [13, 59] (fun kv iv wx => ∃ (i : Nat) (N : Gr) (T : List Tk) (ss : List (Int × Value)), i ≤ tl.length ∧ iv = .int .i64 i ∧ N.length = L.length ∧ NowP N ∧ TookI N T i ∧ NowM w1 wx (.slice An L.length cn) N ss ∧ TkM w1 wx (.slice An L.length cn) kv T ss) (fun _ iv _ => tl.length - (intOf iv).toNat)
      case atStart => exact ⟨0, N, [], ss, Nat.zero_le _, rfl, HNK.out, HP.out, TookI.nil _, HI.out, TkM.nil _ _ _ _⟩
      case round =>
        clear HNK HP HI
        obtain ⟨i, N, T, ss, hik, rfl, hNk, hP, hTK, hI, hT⟩ := hrel
        by_cases hlt : i < tl.length
        · have hx : tl[i]? = some tl[i] := List.getElem?_eq_getElem hlt
          generalize tl[i] = u at hx
          obtain ⟨_, _, e', _, _, h4⟩ := (HT.out.below HB1.out).below hI.bel
          injection e' with e1 _ e3
          subst e1 e3
          obtain ⟨a, rfl, ha, k0, k1', k2'⟩ := h4 i u hx
          obtain ⟨g, site, lv⟩ := u
          have k1 : wr.cell? ⟨(a.add (i * 3)).block, (a.add (i * 3)).off + 1, none⟩ = some (.int .i64 site) := k1'
          have k2 : wr.cell? ⟨(a.add (i * 3)).block, (a.add (i * 3)).off + 2, none⟩ = some (.bool lv) := k2'
          have k0 : wr.cell? (a.add (i * 3)) = some (.int .i64 g) := k0
          have hi : (i : Int) < (tl.length : Int) := by omega
          have hat := alloc_at wr (.cells #[.int .i64 g, .int .i64 site, .bool lv] 57)
          have hbn := below_new (w := wr) (.cells #[.int .i64 g, .int .i64 site, .bool lv] 57)
          have HLT := Lib.hid hlt
          have HTK := Lib.hid hTK
          have HP := Lib.hid hP
          have HNK := Lib.hid hNk
          have HI2 := Lib.hid (hI.below hbn)
          have HT2 := Lib.hid (hT.below hbn)
          clear h4 k1' k2' hx hlt hik hTK hP hNk hI hT
          by_cases h40 : 40 ≤ i
          · have h40' : (40 : Int) ≤ (i : Int) := by omega
            clear h40 hat hbn
            go_wp2_with fail
            go_roundw
            case rel => exact ⟨i + 1, N, T, ss, HLT.out, by go_num, HNK.out, HP.out, HTK.out.skip, HI2.out, HT2.out⟩
            case measure => have := HLT.out; simp [intOf]; omega
          · have h40' : ¬ ((40 : Int) ≤ (i : Int)) := by omega
            have H40 := Lib.hid h40
            clear h40
            by_cases hg0 : g < 0
            · clear hat hbn
              go_wp2_with fail
              go_roundw
              case rel => exact ⟨i + 1, N, T, ss, HLT.out, by go_num, HNK.out, HP.out, HTK.out.skip, HI2.out, HT2.out⟩
              case measure => have := HLT.out; simp [intOf]; omega
            · by_cases hgl : (L.length : Int) ≤ g
              · clear hat hbn
                go_wp2_with fail
                go_roundw
                case rel => exact ⟨i + 1, N, T, ss, HLT.out, by go_num, HNK.out, HP.out, HTK.out.skip, HI2.out, HT2.out⟩
                case measure => have := HLT.out; simp [intOf]; omega
              · have hgl' : g < (L.length : Int) := by omega
                obtain ⟨gn, rfl⟩ : ∃ gn : Nat, g = (gn : Int) := ⟨g.toNat, by omega⟩
                have hgn : gn < N.length := by have := HNK.out; omega
                have hgs : gn < ss.length := by rw [HI2.out.len]; exact hgn
                have hN : N[gn]? = some N[gn] := List.getElem?_eq_getElem hgn
                have hS : ss[gn]? = some ss[gn] := List.getElem?_eq_getElem hgs
                have hu1 := HP.out.num gn _ hN
                have hu6 := HP.out.small _ (List.getElem_mem hgn)
                generalize N[gn] = u at hN hu1 hu6
                generalize ss[gn] = e at hS
                obtain ⟨ug, sl⟩ := u
                obtain rfl : ug = (gn : Int) := hu1
                have hu6 : sl.length ≤ 6 := hu6
                obtain ⟨ee1, ee2⟩ := HI2.out.eq gn e _ hS hN
                obtain ⟨bn, hAn, m0, m1⟩ := HI2.out.at hS
                subst hAn
                obtain ⟨eg, ev⟩ := e
                obtain rfl : eg = (gn : Int) := ee1
                obtain ⟨Bs, cs, rfl, _⟩ := id ee2.form
                have hz1 := asz wr (.cells #[.int .i64 gn, .int .i64 site, .bool lv] 57)
                generalize hWA : wr.alloc (.cells #[.int .i64 gn, .int .i64 site, .bool lv] 57) = WA at *
                have hb2 := below_new (w := WA) (.cells #[.int .i64 gn, .slice Bs sl.length cs] 32)
                have ha2 := alloc_at WA (.cells #[.int .i64 gn, .slice Bs sl.length cs] 32)
                have hz2 := asz WA (.cells #[.int .i64 gn, .slice Bs sl.length cs] 32)
                have c0 := cell_of hat 0
                have c1 := cell_of hat 1
                have c2 := cell_of hat 2
                simp at c0 c1 c2
                have HA2 := Lib.hid ha2
                have hsl : (sl.length : Int) ≤ 6 := by omega
                have HE2 := Lib.hid (ee2.below hb2)
                have HI3 := Lib.hid (HI2.out.below hb2)
                have HT3 := Lib.hid (HT2.out.below hb2)
                have HBX : Hid ((WA.alloc (.cells #[.int .i64 gn, .slice Bs sl.length cs] 32)).heap[wr.heap.size]? = some (.cells #[.int .i64 gn, .int .i64 site, .bool lv] 57 (0, 0)) ∧ wr.heap.size < (WA.alloc (.cells #[.int .i64 gn, .slice Bs sl.length cs] 32)).heap.size) := Lib.hid ⟨(hb2.block _ (by omega)).trans hat, by omega⟩
                have HN := Lib.hid hN
                have HS := Lib.hid hS
                have HGN := Lib.hid hgs
                clear hN hS hgn hgs ee2 hb2 ha2 hat hbn HI2 HT2
                go_wp2_with fail
                generalize hwrs : wr.heap.size = zr at *
                generalize hWBd : WA.alloc (.cells #[.int .i64 gn, .slice Bs sl.length cs] 32) = WB at *
                go_loopw [17, 18, 86] (fun nv ov jv wx => ∃ j : Nat, j ≤ sl.length ∧ jv = .int .i64 j ∧ nv = .bool (decide (site ∈ sl.take j)) ∧ RowIs wx 1 ov ((sl.take j).filter fun s => !(s == site)).length (ints ((sl.take j).filter fun s => !(s == site))) ∧ (∀ b, ov.ownBlock = some b → WB.heap.size ≤ b) ∧ Below WB.heap.size WB wx) (fun _ _ jv _ => sl.length - (intOf jv).toNat)
                case atStart => exact ⟨0, Nat.zero_le _, rfl, rfl, RowIs.nil _ _, (fun b e => by cases e), Below.refl _ _⟩
                case round =>
                  obtain ⟨j, hj, rfl, rfl, hr, ho, hbx⟩ := hrel
                  have hbox := (hbx.block zr HBX.out.2).trans HBX.out.1
                  have c0 := cell_of hbox 0
                  have c1 := cell_of hbox 1
                  have c2 := cell_of hbox 2
                  simp at c0 c1 c2
                  by_cases hjl : j < sl.length
                  · have hx : sl[j]? = some sl[j] := List.getElem?_eq_getElem hjl
                    generalize sl[j] = x at hx
                    obtain ⟨_, _, e', _, _, _, _, h4⟩ := (HE2.out.below hbx).form
                    injection e' with e1 _ e3
                    subst e1 e3
                    obtain ⟨b, rfl, q0⟩ := h4 j (.int .i64 x) (by unfold ints; rw [List.getElem?_map, hx]; rfl)
                    have hji : (j : Int) < (sl.length : Int) := by omega
                    have htk : sl.take (j + 1) = sl.take j ++ [x] := by rw [List.take_add_one, hx]; rfl
                    have HJ := Lib.hid hjl
                    by_cases hxs : x = site
                    · have hb1 : (x == site) = true := by rw [hxs]; exact beq_self_eq_true _
                      have hb2 : (x != site) = false := by rw [hxs]; simp
                      have HF : Hid (site ∈ sl.take (j + 1) ∧ RowIs wr 1 u18 ((sl.take (j + 1)).filter fun s => !(s == site)).length (ints ((sl.take (j + 1)).filter fun s => !(s == site))) ∧ (∀ b, u18.ownBlock = some b → WB.heap.size ≤ b) ∧ Below WB.heap.size WB wr) := Lib.hid (by
                        have hf : (sl.take (j + 1)).filter (fun s => !(s == site)) = (sl.take j).filter fun s => !(s == site) := by rw [htk, List.filter_append]; simp [hxs]
                        rw [hf]
                        exact ⟨by rw [htk, hxs]; simp, hr, ho, hbx⟩)
                      by_cases hin : site ∈ sl.take j
                      · have hd : decide (site ∈ sl.take j) = true := decide_eq_true hin
                        rw [hd]
                        clear hd hin hxs htk hx hr ho hbx hj hjl hbox h4
                        go_wp2_with fail
                        go_roundw
                        case rel => exact ⟨j + 1, HJ.out, by go_num, by rw [decide_eq_true HF.out.1], HF.out.2⟩
                        case measure => have := HJ.out; simp [intOf]; omega
                      · have hd : decide (site ∈ sl.take j) = false := decide_eq_false hin
                        rw [hd]
                        clear hd hin hxs htk hx hr ho hbx hj hjl hbox h4
                        go_wp2_with fail
                        go_roundw
                        case rel => exact ⟨j + 1, HJ.out, by go_num, by rw [decide_eq_true HF.out.1], HF.out.2⟩
                        case measure => have := HJ.out; simp [intOf]; omega
                    · have hb1 : (x == site) = false := by rw [beq_eq_false_iff_ne]; exact hxs
                      have hb2 : (x != site) = true := by simp [hxs]
                      obtain ⟨ov', w', r1, r2, r3, r4⟩ := app_int x 30 hr (by have h5 : ((sl.take j).filter fun s => !(s == site)).length ≤ (sl.take j).length := List.length_filter_le _ _; rw [List.length_take] at h5; omega)
                      have HF : Hid ((site ∈ sl.take (j + 1) ↔ site ∈ sl.take j) ∧ RowIs w' 1 ov' ((sl.take (j + 1)).filter fun s => !(s == site)).length (ints ((sl.take (j + 1)).filter fun s => !(s == site))) ∧ (∀ b, ov'.ownBlock = some b → WB.heap.size ≤ b) ∧ Below WB.heap.size WB w') := Lib.hid (by
                        have hf : (sl.take (j + 1)).filter (fun s => !(s == site)) = ((sl.take j).filter fun s => !(s == site)) ++ [x] := by rw [htk, List.filter_append]; simp [hxs]
                        rw [hf]
                        refine ⟨by rw [htk, List.mem_append, List.mem_singleton]; exact ⟨fun h => h.elim id (fun e => absurd e.symm hxs), .inl⟩, r2, fun b hb => ?_, hbx.trans (r3.below (fun b e => ho b e) hbx.size)⟩
                        rcases r4 b hb with e | e
                        · exact ho b e
                        · exact Nat.le_trans hbx.size e)
                      obtain ⟨o, ho2⟩ : ∃ o, (sl.take j).filter (fun s => !(s == site)) = o := ⟨_, rfl⟩
                      by_cases hin : site ∈ sl.take j
                      · have hd : decide (site ∈ sl.take j) = true := decide_eq_true hin
                        have HI9 := Lib.hid (HF.out.1.2 hin)
                        rw [hd]
                        clear hd hin hxs htk hx hr ho hbx hj hjl hbox h4 r2 r3 r4
                        go_wp2_with (at_builtin; refine wpList_app_run rfl _ _ _ _ rfl rfl rfl r1 ?_)
                        go_roundw
                        case rel => exact ⟨j + 1, HJ.out, by go_num, by rw [decide_eq_true HI9.out], HF.out.2⟩
                        case measure => have := HJ.out; simp [intOf]; omega
                      · have hd : decide (site ∈ sl.take j) = false := decide_eq_false hin
                        have HI9 := Lib.hid (fun e => hin (HF.out.1.1 e))
                        rw [hd]
                        clear hd hin hxs htk hx hr ho hbx hj hjl hbox h4 r2 r3 r4
                        go_wp2_with (at_builtin; refine wpList_app_run rfl _ _ _ _ rfl rfl rfl r1 ?_)
                        go_roundw
                        case rel => exact ⟨j + 1, HJ.out, by go_num, by rw [decide_eq_false HI9.out], HF.out.2⟩
                        case measure => have := HJ.out; simp [intOf]; omega
                  · obtain rfl : j = sl.length := by omega
                    rw [List.take_length] at *
                    obtain ⟨Ao, co, rfl, _⟩ := id hr.form
                    have hI4 := HI3.out.below hbx
                    have HT4 := Lib.hid (HT3.out.below hbx)
                    have HUN := Lib.hid (users_any hI4.uis)
                    rw [HP.out.cut] at HUN
                    have HI4 := Lib.hid hI4
                    have HR4 := Lib.hid hr
                    have HO4 := Lib.hid ho
                    have HB4 := Lib.hid hbx.size
                    have HX4 := Lib.hid hbox
                    clear hI4 hr ho hbx hbox hj hjl c0 c1 c2
                    go_wp2_with fail
                    refine (HUN.out).mono ?_
                    rintro e w10 ⟨vx, vy, rfl, hvx, _, hb10⟩
                    obtain ⟨Aa, ca, rfl, _⟩ := id hvx
                    have HI5 := Lib.hid (HI4.out.below hb10)
                    have HT5 := Lib.hid (HT4.out.below hb10)
                    have HR5 := Lib.hid (HR4.out.below hb10)
                    have hbox := (hb10.block zr (heap_lt HX4.out)).trans HX4.out
                    have c0 := cell_of hbox 0
                    have c1 := cell_of hbox 1
                    have c2 := cell_of hbox 2
                    simp at c0 c1 c2
                    have HVX := Lib.hid hvx
                    have HX5 := Lib.hid hbox
                    have HZ5 := Lib.hid (Nat.le_trans HB4.out hb10.size)
                    have hI40 : i < 40 := by have := H40.out; omega
                    have HI40 := Lib.hid hI40
                    clear hb10 hbox hvx HUN HI4 HT4 HR4 hI40
                    cases lv with
                    | true =>
                      have hns := HI5.out.set HGN.out (x := (gn : Int)) HR5.out (fun k e => ⟨by have := HO4.out k e; have := HI3.out.bel.size; omega, by have := HO4.out k e; have := HI3.out.row.lt bn rfl; omega⟩)
                      have HNS := Lib.hid hns
                      have HTS := Lib.hid (HT5.out.set (gn := gn) (x := (gn : Int)) (lv := .slice Ao (sl.filter fun s => !(s == site)).length co) hns.2 (fun k e e' => by have := HO4.out k e; have := HT3.out.row.lt k e'; omega))
                      obtain ⟨bb, eb, m0, m1⟩ := HI5.out.at HS.out
                      injection eb with eb
                      injection eb with eb
                      subst eb
                      obtain ⟨f0, f1⟩ := HI5.out.frozen HGN.out
                      have HPL := Lib.hid (HP.out.left HN.out site)
                      have HTL := Lib.hid (HTK.out.left HN.out site)
                      have HNL : Hid ((N.set gn ((gn : Int), sl.filter fun s => !(s == site))).length = L.length) := Lib.hid (by rw [List.length_set]; exact HNK.out)
                      clear hns
                      go_wp2_with fail
                      go_roundw
                      case rel => exact ⟨i + 1, _, T, _, HLT.out, by go_num, HNL.out, HPL.out, HTL.out, HNS.out.1, HTS.out⟩
                      case measure => have := HLT.out; simp [intOf]; omega
                    | false =>
                      by_cases hin : site ∈ sl
                      · have hd : decide (site ∈ sl) = true := decide_eq_true hin
                        rw [hd]
                        have HMY := Lib.hid (May_any (g := (gn : Int)) (site := site) HVX.out (by have := HP.out.few; omega) (fun u hu => by have := HP.out.small u hu; omega))
                        have HIN := Lib.hid hin
                        clear hd hin
                        obtain ⟨bm, hbm⟩ : ∃ bm, mayP (gn : Int) site N = bm := ⟨_, rfl⟩
                        rw [hbm] at HMY
                        have HBM := Lib.hid hbm
                        clear hbm
                        go_wp2_with fail
                        refine (HMY.out).mono ?_
                        rintro e w11 ⟨rfl, hb11⟩
                        have HI6 := Lib.hid (HI5.out.below hb11)
                        have HT6 := Lib.hid (HT5.out.below hb11)
                        have hbox := (hb11.block zr (heap_lt HX5.out)).trans HX5.out
                        have c0 := cell_of hbox 0
                        have c1 := cell_of hbox 1
                        have c2 := cell_of hbox 2
                        simp at c0 c1 c2
                        clear hb11 hbox HMY HI5 HT5
                        cases bm with
                        | true =>
                          obtain ⟨tk', w12, r1, r2, r3⟩ := HT6.out.push HI6.out (by have := HTK.out.len; omega) ⟨(gn : Int), site, (i : Int)⟩
                          have HFT := Lib.hid (HTK.out.take HP.out HN.out HI40.out HIN.out HBM.out)
                          have HF2 := Lib.hid r2
                          have HF3 := Lib.hid r3
                          clear r2 r3
                          go_wp2_with (at_builtin; refine wpList_app_run rfl _ _ _ _ rfl rfl rfl r1 ?_)
                          go_roundw
                          case rel => exact ⟨i + 1, N, _, ss, HLT.out, by go_num, HNK.out, HP.out, HFT.out, HF2.out, HF3.out⟩
                          case measure => have := HLT.out; simp [intOf]; omega
                        | false =>
                          go_wp2_with fail
                          go_roundw
                          case rel => exact ⟨i + 1, N, T, ss, HLT.out, by go_num, HNK.out, HP.out, HTK.out.skip, HI6.out, HT6.out⟩
                          case measure => have := HLT.out; simp [intOf]; omega
                      · have hd : decide (site ∈ sl) = false := decide_eq_false hin
                        rw [hd]
                        clear hd hin
                        go_wp2_with fail
                        go_roundw
                        case rel => exact ⟨i + 1, N, T, ss, HLT.out, by go_num, HNK.out, HP.out, HTK.out.skip, HI5.out, HT5.out⟩
                        case measure => have := HLT.out; simp [intOf]; omega
        · obtain rfl : i = tl.length := by omega
          clear hlt hik
          obtain ⟨q1, q2⟩ := hTK.fin
          have hTl := hTK.len
          have HC := Lib.hid (Certify_any hT.row (by omega) (fun t ht => by have := hTK.g t ht; exact ⟨by omega, by omega⟩))
          have HB3 := Lib.hid (HB1.out.trans (hI.bel.mono HB1.out.size))
          have HR := Lib.hid hT.row
          have HQ := Lib.hid (And.intro q1 q2)
          have HTl : Hid (T.length ≤ 40) := Lib.hid hTl.2
          obtain ⟨Ak, ck, rfl, _⟩ := id hT.row.form
          clear q1 q2 hTl hTK hP hNk hI hT
          go_wp2_with fail
          refine (HC.out).mono ?_
          rintro e w7 ⟨v7, o, b, rfl, hc, _, hb7⟩
          obtain ⟨rfl, _⟩ := certP_rise hc HQ.out.2 HQ.out.1
          have HRS := Lib.hid (Rises_any (HR.out.below hb7) (by have := HTl.out; omega))
          have HB7 := Lib.hid (HB3.out.trans (hb7.mono HB3.out.size))
          clear hc hb7 HC
          go_wp2_with fail
          refine (HRS.out).mono ?_
          rintro e w8 ⟨b, rfl, hbq, hb8⟩
          obtain rfl : b = true := hbq.2 HQ.out
          have HB8 := Lib.hid (HB7.out.trans (hb8.mono HB7.out.size))
          have HAW := Lib.hid (awakeO_any w8)
          clear hbq hb8 HRS
          go_wp2_with fail
          refine (HAW.out).mono ?_
          rintro e w9 ⟨rfl, hb9⟩
          have HB9 := Lib.hid (HB8.out.trans (hb9.mono HB8.out.size))
          clear hb9
          go_wp2_with fail
          go_ret
          first | exact HB9.out | exact ⟨rfl, HB9.out⟩
end Go.Proofs.Ytlbhpeeggbfcpaa
