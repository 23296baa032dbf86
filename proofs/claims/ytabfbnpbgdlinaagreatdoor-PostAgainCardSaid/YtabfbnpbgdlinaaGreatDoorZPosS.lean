/- The law on what is sent again. -/
import Derived.Test.YtabfbnpbgdlinaaGreatDoorZMsgA
import Derived.Test.YtabfbnpbgdlinaaGreatDoorZCrcI
set_option linter.unusedSimpArgs false
set_option linter.unusedVariables false
set_option linter.unnecessarySimpa false
namespace Go.Proofs.YtabfbnpbgdlinaaGreatDoor
open Go.RowKit Go.Shelf

set_option maxRecDepth 100000 in
set_option maxHeartbeats 16000000 in
theorem law_again {w : World} (hG : Glob w) (every ticks : Int) {v : Value} {l : List MsgV} (hv : MsgsAt w v l) :
    Calls Tryz.prog 8 #[.int .i64 every, v, .int .i64 ticks] w fun e w' => e = .returned (.bool true) ∧ Below w.heap.size w w' := by
  have HG := Lib.hid hG
  obtain ⟨A, cap, rfl, hc1, hc2, hel⟩ := hv
  unfold maxLen at hc2
  obtain ⟨d, hd, hds⟩ := tmod_cases every 12 (by omega)
  rw [show ((12 : Nat) : Int) = 12 from rfl] at hds
  obtain ⟨n, hn⟩ : ∃ n, l.length = n := ⟨_, rfl⟩
  rw [hn] at hc1 ⊢
  have HEL := Lib.hid hel
  have HN := Lib.hid hn
  clear hG hel hn
  go_enter Tryz.func8, Tryz.ntmps8
  go_upto_if 23 with fail
  go_cut [0] (fun s0 wx => s0 = .int .i64 (d : Int) ∧ w = wx)
  case first =>
    rcases hds with hcs | ⟨hi0, hcs⟩
    · go_wp2_with fail
      go_meet
      exact ⟨by first | rfl | rw [hcs], rfl⟩
    · go_wp2_with fail
      go_meet
      exact ⟨by first | rfl | rw [hcs], rfl⟩
  case rest =>
  obtain ⟨rfl, rfl⟩ := hcut
  clear hds
  have hw : IntKind.i64.wrap ((d : Int) + 1) = (d : Int) + 1 := IntWalk.i64_in _ (by omega)
  have HNE := Lib.hid (pnew_ok (w := w) (ev := (d : Int) + 1) (by omega) (by omega))
  go_wp2_with fail
  refine (HNE.out).mono ?_
  rintro e w1 ⟨b, mp, rfl, hbox, hb, hmp, hb1⟩
  have HST : Hid (AgS w w1 b mp ((d : Int) + 1) [] 0 (fun _ => False) (.slice none 0 0) []) := Lib.hid ⟨hbox, hb, hmp, fun _ h => h.elim, hb1, RowIs.nil _ _, fun k e => (by cases e), ⟨by simp, by simp⟩, fun g h => (by cases h), fun e h => (by cases h)⟩
  have HBB := Lib.hid (And.intro (heap_lt hbox.head) hbox.map.lt)
  clear hbox hb hmp hb1 HNE hw
  go_wp2_with fail
  go_loopw [9, 37] (fun gv iv wr => ∃ (i : Nat) (L : List Rq) (c : Nat) (R : Nat → Prop) (gs : List Int), i ≤ n ∧ iv = .int .i64 i ∧ w1.heap.size ≤ wr.heap.size ∧ AgS w wr b mp ((d : Int) + 1) L c R gv gs ∧ L.length ≤ i ∧ gs.length ≤ i ∧ ∀ e ∈ L, e.sent = false) (fun _ iv _ => n - (intOf iv).toNat)
  case atStart => exact ⟨0, [], 0, _, [], Nat.zero_le _, rfl, Nat.le_refl _, HST.out, Nat.zero_le _, Nat.zero_le _, fun e h => by cases h⟩
  case round =>
    obtain ⟨i, L, c, R, gs, hi, rfl, hsz, hS, hLi, hgi, huns⟩ := hrel
    by_cases hlt : i < n
    · obtain ⟨m, hm⟩ : ∃ m, l[i]? = some m := ⟨_, List.getElem?_eq_getElem (by rw [HN.out]; exact hlt)⟩
      obtain ⟨a, tA, tc, oA, oc, rfl, q1, hM, hnm, hom⟩ := HEL.out i m hm
      have hM' := hM.below (by rw [add_block]; exact q1) hS.bel
      unfold M11 at hM'
      obtain ⟨m0, m1, m2, m3, m4, m5, m6, m7, m8, m9, m10⟩ := hM'
      obtain ⟨W2, hW2⟩ : ∃ W, W = wr.alloc (.cells #[.int .i64 m.kd, .int .i64 m.fr, .int .i64 m.tt, .int .i64 m.g, .int .i64 m.nd, .int .i64 m.tr, .int .i64 m.lw, .int .i64 m.co, .int .i64 m.ti, .slice tA m.tl.length tc, .slice oA m.os.length oc] 37) := ⟨_, rfl⟩
      have hb2 : Below wr.heap.size wr W2 := by rw [hW2]; exact below_new _
      have hB2 := hS.bel.trans (hb2.mono hS.bel.size)
      have hat2 : W2.heap[wr.heap.size]? = some (.cells #[.int .i64 m.kd, .int .i64 m.fr, .int .i64 m.tt, .int .i64 m.g, .int .i64 m.nd, .int .i64 m.tr, .int .i64 m.lw, .int .i64 m.co, .int .i64 m.ti, .slice tA m.tl.length tc, .slice oA m.os.length oc] 37 (0, 0)) := by rw [hW2]; exact alloc_at _ _
      have HCU := Lib.hid (lawcut_cells (w := W2) (m := m) (hnm.below hB2) (hom.below hB2))
      have HCN := Lib.hid (cut_nums hnm)
      have HKE := Lib.hid (keys_cut m)
      have HS := Lib.hid hS
      have HBS : Hid (w1.heap.size ≤ wr.heap.size) := Lib.hid hsz
      have HL := Lib.hid (And.intro hLi (And.intro hgi (And.intro huns hlt)))
      have hiI : (i : Int) < (n : Int) := by omega
      have hiN : (i : Int) ≤ 9223372036854775806 := by omega
      have HB2 := Lib.hid (And.intro hb2 hB2)
      have HA2 := Lib.hid hat2
      have HW2 := Lib.hid hW2
      obtain ⟨gA, gc, rfl, _⟩ := id hS.row.form
      clear hM hnm hom hm hS hsz hLi hgi huns hlt hi hb2 hB2 hW2 q1
      go_upto_region 12 with fail
      rw [← HW2.out]
      clear m0 m1 m2 m3 m4 m5 m6 m7 m8 m9 m10
      have c0 := cell_of hat2 0
      have c1 := cell_of hat2 1
      have c2 := cell_of hat2 2
      have c3 := cell_of hat2 3
      have c4 := cell_of hat2 4
      have c5 := cell_of hat2 5
      have c6 := cell_of hat2 6
      have c7 := cell_of hat2 7
      have c8 := cell_of hat2 8
      have c9 := cell_of hat2 9
      have c10 := cell_of hat2 10
      simp at c0 c1 c2 c3 c4 c5 c6 c7 c8 c9 c10
      have f0 := free0 hat2 0
      have f1 := free0 hat2 1
      have f2 := free0 hat2 2
      have f3 := free0 hat2 3
      have f4 := free0 hat2 4
      have f5 := free0 hat2 5
      have f6 := free0 hat2 6
      have f7 := free0 hat2 7
      have f8 := free0 hat2 8
      have f9 := free0 hat2 9
      have f10 := free0 hat2 10
      go_wp2_with fail
      refine (HCU.out).mono ?_
      rintro e w3 ⟨oB, od, rfl, _, hro, hb3⟩
      have hat3 := (hb3.block _ (heap_lt HA2.out)).trans HA2.out
      have hZ4 := setCells_at wr.heap.size (cellM (cutM m) tA tc oB od).toList [] (cellM m tA tc oA oc).toList w3 rfl hat3
      have hT4 := setCells_touch (S := fun k => k = wr.heap.size) (a := w3) wr.heap.size (fun _ => rfl) (cellM (cutM m) tA tc oB od).toList 0 w3 (Touch.refl _ _)
      simp only [List.length_nil, List.nil_append] at hZ4
      obtain ⟨W4, hW4⟩ : ∃ W, W = w3.setCells wr.heap.size 0 (cellM (cutM m) tA tc oB od).toList := ⟨_, rfl⟩
      rw [← hW4] at hZ4 hT4
      have hb23 : Below wr.heap.size wr w3 := HB2.out.1.trans (hb3.mono HB2.out.1.size)
      have hb4 : Below wr.heap.size wr W4 := hb23.trans (hT4.below (fun i e => by rw [e]; exact Nat.le_refl _) hb23.size)
      have hS4 := HS.out.below hb4
      have hM4 : MsgIs W4 (.agg (cellM (cutM m) tA tc oB od)) (cutM m) := ⟨tA, tc, oB, od, rfl, HCN.out.below hS4.bel, RowIs.ops (hro.1.touch hT4 (fun k hk e => by have := (hro.2.1 k hk).1; have := HB2.out.1.size; have := heap_lt HA2.out; omega)) rfl, HKE.out⟩
      have HS4 := Lib.hid hS4
      have HX4 := Lib.hid hb4.size
      have HM4 := Lib.hid hM4
      have HZ4 := Lib.hid hZ4
      have HOU := Lib.hid (ours_any hM4)
      have HW4 := Lib.hid hW4
      clear c0 c1 c2 c3 c4 c5 c6 c7 c8 c9 c10 f0 f1 f2 f3 f4 f5 f6 f7 f8 f9 f10
      have e0 := cell_of hat3 0
      have e1 := cell_of hat3 1
      have e2 := cell_of hat3 2
      have e3 := cell_of hat3 3
      have e4 := cell_of hat3 4
      have e5 := cell_of hat3 5
      have e6 := cell_of hat3 6
      have e7 := cell_of hat3 7
      have e8 := cell_of hat3 8
      have e9 := cell_of hat3 9
      have e10 := cell_of hat3 10
      simp at e0 e1 e2 e3 e4 e5 e6 e7 e8 e9 e10
      have f0 := free0 hat3 0
      have f1 := free0 hat3 1
      have f2 := free0 hat3 2
      have f3 := free0 hat3 3
      have f4 := free0 hat3 4
      have f5 := free0 hat3 5
      have f6 := free0 hat3 6
      have f7 := free0 hat3 7
      have f8 := free0 hat3 8
      have f9 := free0 hat3 9
      have f10 := free0 hat3 10
      clear hro hb3 hat3 hT4 hb23 hb4 hS4 hM4 hW4 HCU
      go_upto_region 13 with fail
      change Code.wp _ _ _ _ (World.setCells _ wr.heap.size 0 (cellM (cutM m) tA tc oB od).toList)
      rw [← HW4.out]
      clear e0 e1 e2 e3 e4 e5 e6 e7 e8 e9 e10 f0 f1 f2 f3 f4 f5 f6 f7 f8 f9 f10
      have c0 := cell_of hZ4 0
      have c1 := cell_of hZ4 1
      have c2 := cell_of hZ4 2
      have c3 := cell_of hZ4 3
      have c4 := cell_of hZ4 4
      have c5 := cell_of hZ4 5
      have c6 := cell_of hZ4 6
      have c7 := cell_of hZ4 7
      have c8 := cell_of hZ4 8
      have c9 := cell_of hZ4 9
      have c10 := cell_of hZ4 10
      simp at c0 c1 c2 c3 c4 c5 c6 c7 c8 c9 c10
      clear hZ4
      by_cases hi5 : i < 5
      · have q5 : decide ((i : Int) < 5) = true := by simp; omega
        have HI5 := Lib.hid hi5
        clear hi5
        go_wp2_with fail
        refine (HOU.out).mono ?_
        rintro e w5 ⟨rfl, hb5⟩
        have hS5 := HS4.out.below hb5
        have HM5 := Lib.hid (HM4.out.below hb5)
        have HZ5 := Lib.hid ((hb5.block _ (heap_lt HZ4.out)).trans HZ4.out)
        have HS5 := Lib.hid hS5
        have HX5 := Lib.hid (Nat.le_trans HX4.out hb5.size)
        clear c0 c1 c2 c3 c4 c5 c6 c7 c8 c9 c10 hb5 hS5
        cases hask : askM (cutM m) with
        | false =>
          have HPU := Lib.hid (put_no (HG.out.below HS5.out.bel) HS5.out.box HM5.out (now := 0) (by rw [hask]; simp))
          clear hask
          go_wp2_with fail
          refine (HPU.out).mono ?_
          rintro e w6 ⟨rfl, hb6⟩
          have HS6 := Lib.hid (HS5.out.below hb6)
          have HX6 := Lib.hid (Nat.le_trans HX5.out hb6.size)
          clear hb6
          go_wp2_with fail
          go_roundw
          case rel => exact ⟨i + 1, L, c, R, gs, HL.out.2.2.2, by go_num, Nat.le_trans HBS.out HX6.out, HS6.out, Nat.le_succ_of_le HL.out.1, Nat.le_succ_of_le HL.out.2.1, HL.out.2.2.1⟩
          case measure => have := HL.out.2.2.2; simp [intOf]; omega
        | true =>
          have HPU := Lib.hid (put_ok (HG.out.below HS5.out.bel) HS5.out.box HM5.out hask (now := 0) (by decide) (by decide))
          clear hask
          go_wp2_with fail
          refine (HPU.out).mono ?_
          intro e w6 hpp
          obtain rfl := hpp.1
          have hz6 := (hpp.2)
          obtain ⟨_, _, _, _, _, _, _, _, hT6, _⟩ := hz6
          have hat6 : w6.heap[wr.heap.size]? = some (.cells (cellM (cutM m) tA tc oB od) 37 (0, 0)) := (hT6.block _ (heap_lt HZ5.out) (fun e => by have := HBB.out.2; have := HBS.out; omega)).trans HZ5.out
          have k3 := cell_of hat6 3
          simp at k3
          have hb7 := below_new (w := w6) (.cells #[.int .i64 (cutM m).g] 3)
          have hat7 := alloc_at w6 (.cells #[.int .i64 (cutM m).g] 3)
          have hrow6 : RowIs w6 1 (.slice gA gs.length gc) gs.length (intsC gs) := HS5.out.row.touch hT6 (fun k hk e => (HS5.out.own k hk).2.2.1 e)
          obtain ⟨v8, w8, hr8, hrow8, hg8, hblk8⟩ := run_append_row (w6.alloc (.cells #[.int .i64 (cutM m).g] 3)) 64 3 64 64 Tryz.underlying64 infoZ rfl (by omega) (by omega) (.slice gA gs.length gc) gs.length 1 (intsC gs) [.int .i64 (cutM m).g] (.slice (some ⟨w6.heap.size, 0, none⟩) 1 1) (hrow6.below hb7)
            (Src.ofSlice _ Tryz.underlying64 ⟨w6.heap.size, 0, none⟩ 1 1 [.int .i64 (cutM m).g] rfl (fun k u hu => by
              rw [add0, cell_of hat7 k]
              simpa using hu) (by simp [Value.oneCell'])) (by have := HL.out.2.1; have := HI5.out; omega)
          have hput := HS5.out.put (W2 := w8) (gv' := v8) (gs' := gs ++ [(cutM m).g]) ⟨by have := HL.out.1; have := HI5.out; omega, by have := HL.out.2.1; have := HI5.out; omega⟩ hpp (((Touch.refl _ _).after hb7).grown hg8 (fun k e _ => e)) (by
              rw [List.length_append, List.length_singleton]
              show RowIs _ _ _ _ (List.map _ _)
              rw [List.map_append]
              exact hrow8) (hblk8.imp id (fun e k hk => by
                rw [hk] at e
                injection e with e
                rw [asz] at e
                omega)) rfl
          obtain ⟨L', c', R', hS', hLL, hU'⟩ := hput
          have HS' := Lib.hid hS'
          have HX8 : Hid (w1.heap.size ≤ w8.heap.size) := Lib.hid (Nat.le_trans HBS.out (Nat.le_trans HX5.out (Nat.le_trans hT6.size (Nat.le_trans hb7.size hg8.size))))
          have HU' := Lib.hid hU'
          obtain ⟨A8, c8, rfl, _⟩ := id hrow8.form
          have HLN : Hid (L'.length ≤ i + 1) := Lib.hid (by have := HL.out.1; omega)
          clear hpp hT6 hat6 hb7 hat7 hrow6 hrow8 hg8 hblk8 hS' hU' hLL
          go_wp2_with (at_builtin; refine wpList_app_run rfl _ _ _ _ rfl rfl rfl hr8 ?_)
          go_roundw
          case rel =>
            refine ⟨i + 1, L', c', R', gs ++ [(cutM m).g], HL.out.2.2.2, by go_num, HX8.out, by simpa using HS'.out, HLN.out, by have := HL.out.2.1; simp; omega, fun e he => ?_⟩
            rcases HU'.out e he with h | h
            · exact HL.out.2.2.1 e h
            · exact h
          case measure => have := HL.out.2.2.2; simp [intOf]; omega
      · have q5 : decide ((i : Int) < 5) = false := by simp; omega
        clear hi5 HOU c0 c1 c2 c3 c4 c5 c6 c7 c8 c9 c10
        go_wp2_with fail
        go_roundw
        case rel => exact ⟨i + 1, L, c, R, gs, HL.out.2.2.2, by go_num, Nat.le_trans HBS.out HX4.out, HS4.out, Nat.le_succ_of_le HL.out.1, Nat.le_succ_of_le HL.out.2.1, HL.out.2.2.1⟩
        case measure => have := HL.out.2.2.2; simp [intOf]; omega
    · obtain rfl : i = n := by omega
      obtain ⟨T, hT⟩ : ∃ T, ticks.tmod 40 = T := ⟨_, rfl⟩
      have hTb : -40 < T ∧ T < 40 := by
        obtain ⟨mm, hm, hcs⟩ := tmod_cases ticks 40 (by omega)
        rw [show ((40 : Nat) : Int) = 40 from rfl, hT] at hcs
        omega
      obtain ⟨gA, gc, rfl, _⟩ := id hS.row.form
      obtain ⟨w2, hmk, hmr, hmb⟩ := make_nums wr gs.length (by have := hS.few.2; omega)
      have HT2 := Lib.hid (AgT.made hS hmb hmr)
      have hev : (1 : Int) ≤ (d : Int) + 1 := by omega
      have HOK : Hid (TickOk ((d : Int) + 1) 0 L gs (List.replicate gs.length 0)) := Lib.hid ⟨fun e he => ⟨fun _ => huns e he, fun h => by omega⟩, fun k g e hk he hg => by
        rw [List.getElem?_replicate, if_pos (List.getElem?_eq_some_iff.1 hk).1, if_pos rfl]⟩
      have hg5 := hS.few.2
      have hL5 := hS.few.1
      obtain ⟨lb, hlb⟩ : ∃ k, wr.heap.size = k := ⟨_, rfl⟩
      obtain ⟨N, hN⟩ : ∃ k, gs.length = k := ⟨_, rfl⟩
      rw [hlb] at HT2 hmk
      rw [hN] at hmk hg5 ⊢
      have HNN := Lib.hid hN
      have HTM := Lib.hid hT
      clear hS hsz hLi hgi huns hmr hmb hlb hN hi hlt
      go_upto_region 17 with fail
      go_wp2_with (at_make; refine wpList_make_run _ rfl _ _ _ rfl rfl rfl hmk ?_)
      go_loopw [13] (fun tv W => ∃ (t : Nat) (L : List Rq) (c : Nat) (R : Nat → Prop) (ls : List Int), t ≤ 40 ∧ tv = .int .i64 t ∧ L.length ≤ 5 ∧ AgT w W b mp ((d : Int) + 1) L c R (.slice gA N gc) gs lb ls ∧ TickOk ((d : Int) + 1) t L gs ls) (fun tv _ => 40 - (intOf tv).toNat)
      case atStart => exact ⟨0, L, c, R, _, by omega, rfl, hL5, by rw [HNN.out] at HT2; exact HT2.out, by rw [← HNN.out]; exact HOK.out⟩
      case round =>
        obtain ⟨t, L2, c2, R2, ls, ht40, rfl, hL2, hA, hok⟩ := hrel
        by_cases htT : (t : Int) < T
        · have hla : ∀ e ∈ L2, e.sent = true → 0 ≤ e.last ∧ e.last ≤ 1099511627776 := fun e he hs => by
            obtain ⟨q1, q2⟩ := hok.1 e he
            rcases Nat.eq_zero_or_pos t with h0 | h0
            · rw [q1 h0] at hs; cases hs
            · have := q2 h0; omega
          have HDU := Lib.hid (due_any (now := (t : Int)) (low := 1) hA.ag.box (by omega) (by omega) (by omega) (by decide) (by decide) hla)
          have HA := Lib.hid hA
          have HO := Lib.hid hok
          have HTT := Lib.hid htT
          have qT : decide ((t : Int) < T) = true := by simpa using htT
          have htI : (t : Int) ≤ 40 := by omega
          have hinj : ∀ (i k : Nat) (a b : Rq), L2[i]? = some a → L2[k]? = some b → a.m.g = b.m.g → i = k := fun i k a b ha hb hab => hA.ag.box.inj ha hb hab
          have HIJ := Lib.hid hinj
          clear hla hA hok htT hinj
          go_wp2_with fail
          refine (HDU.out).mono ?_
          rintro e w3 ⟨dv, outs, rfl, hbx, hrow, hown, hlw, ⟨ns, hp, hm⟩, htc⟩
          have hA3 := HA.out.due (fireT_m ((d : Int) + 1) t) hbx htc
          have hmem : ∀ g, (∃ o ∈ outs, o.m.g = g) ↔ ∃ e ∈ L2, e.m.g = g ∧ dueB ((d : Int) + 1) t e = true := fun g => by
            have h1 : (∃ o ∈ outs, o.m.g = g) ↔ g ∈ outs.map (·.m.g) := by simp
            rw [h1, hm, List.mem_filter, hp.mem_iff]
            constructor
            · rintro ⟨_, h2⟩
              obtain ⟨e, he, h3⟩ := List.any_eq_true.1 h2
              simp at h3
              exact ⟨e, he, h3.1, h3.2⟩
            · rintro ⟨e, he, h2, h3⟩
              exact ⟨List.mem_map.2 ⟨e, he, h2⟩, List.any_eq_true.2 ⟨e, he, by simp [h2, h3]⟩⟩
          have hol : outs.length ≤ 5 := by
            have h1 := congrArg List.length hm
            rw [List.length_map] at h1
            have h2 := List.length_filter_le (fun g => L2.any fun e => decide (e.m.g = g) && dueB ((d : Int) + 1) t e) ns
            have h3 := hp.length_eq
            rw [List.length_map] at h3
            omega
          obtain ⟨dA, dc, rfl, hd1, _⟩ := id hrow.form
          obtain ⟨M, hM⟩ : ∃ k, outs.length = k := ⟨_, rfl⟩
          rw [hM] at hrow hown hol hd1 ⊢
          have HA3 := Lib.hid hA3
          have HMEM := Lib.hid hmem
          have HRW := Lib.hid hrow
          have HOW : Hid (∀ g, (Value.slice dA M dc).ownBlock = some g → g ≠ lb) := Lib.hid (fun g hg => by have := hown g hg; have := HA.out.lt; omega)
          have HMM := Lib.hid hM
          have HCD : Hid (∀ (j : Nat) (g : Int) (e : Rq), gs[j]? = some g → e ∈ L2 → e.m.g = g → ls[j]? = some (if j < 0 then (fireT ((d : Int) + 1) t e).last else (if t = 0 then 0 else e.last))) := Lib.hid (fun j g e hj he hg => by rw [if_neg (by omega)]; exact HO.out.2 j g e hj he hg)
          clear hbx hown hlw hp hm htc hA3 hmem hrow hM HDU
          go_wp2_with fail
          go_loopw [74] (fun kv W => ∃ (k : Nat) (ls' : List Int), k ≤ N ∧ kv = .int .i64 k ∧ AgT w W b mp ((d : Int) + 1) (L2.map (fireT ((d : Int) + 1) t)) c2 R2 (.slice gA N gc) gs lb ls' ∧ RowIs W 11 (.slice dA M dc) M (outs.flatMap Ot.c) ∧ ∀ (j : Nat) (g : Int) (e : Rq), gs[j]? = some g → e ∈ L2 → e.m.g = g → ls'[j]? = some (if j < k then (fireT ((d : Int) + 1) t e).last else (if t = 0 then 0 else e.last))) (fun kv _ => N - (intOf kv).toNat)
          case atStart => exact ⟨0, ls, Nat.zero_le _, rfl, HA3.out, HRW.out, HCD.out⟩
          case round =>
            obtain ⟨k, ls', hk, rfl, hA4, hrw4, hcd⟩ := hrel
            by_cases hkN : k < N
            · obtain ⟨g, hg⟩ : ∃ g, gs[k]? = some g := ⟨_, List.getElem?_eq_getElem (by rw [HNN.out]; exact hkN)⟩
              obtain ⟨e1, he1, hm1⟩ := hA4.ag.all g (List.mem_of_getElem? hg)
              obtain ⟨e, he, rfl⟩ := List.mem_map.1 he1
              rw [(fireT_m _ t e).1] at hm1
              obtain ⟨f1, f2, f3, f4, f5, f6⟩ := fireT_ok HO.out hev he
              obtain ⟨A', c', e0, _, _, _, _, h5⟩ := hA4.ag.row.form
              obtain ⟨gg, hgA, kg⟩ := h5 k (.int .i64 g) (by show (List.map _ _)[k]? = _; rw [List.getElem?_map, hg]; rfl)
              injection e0 with e0 e2 e3
              clear e2 e3
              obtain rfl := e0.trans hgA
              have hdue : (outs.any fun o => decide (o.m.g = g)) = dueB ((d : Int) + 1) t e := by
                have h1 := HMEM.out g
                cases hd : dueB ((d : Int) + 1) t e with
                | true =>
                  obtain ⟨o, ho, h2⟩ := h1.2 ⟨e, he, hm1, hd⟩
                  exact List.any_eq_true.2 ⟨o, ho, by simp [h2]⟩
                | false =>
                  rw [List.any_eq_false]
                  intro o ho h2
                  obtain ⟨e', he', h3, h4⟩ := h1.1 ⟨o, ho, by simpa using h2⟩
                  obtain ⟨i1, hi1⟩ := List.getElem?_of_mem he
                  obtain ⟨i2, hi2⟩ := List.getElem?_of_mem he'
                  have := HIJ.out i1 i2 e e' hi1 hi2 (by rw [hm1, h3])
                  subst this
                  rw [hi1] at hi2
                  cases hi2
                  rw [hd] at h4
                  cases h4
              have hnew : ∀ (ls2 : List Int), ls2[k]? = some (fireT ((d : Int) + 1) t e).last → (∀ j, j ≠ k → ls2[j]? = ls'[j]?) → ∀ (j : Nat) (g' : Int) (e' : Rq), gs[j]? = some g' → e' ∈ L2 → e'.m.g = g' → ls2[j]? = some (if j < k + 1 then (fireT ((d : Int) + 1) t e').last else (if t = 0 then 0 else e'.last)) := by
                intro ls2 q1 q2 j g' e' hj he' hg'
                by_cases hjk : j = k
                · subst hjk
                  rw [hg] at hj
                  cases hj
                  obtain ⟨i1, hi1⟩ := List.getElem?_of_mem he
                  obtain ⟨i2, hi2⟩ := List.getElem?_of_mem he'
                  have := HIJ.out i1 i2 e e' hi1 hi2 (by rw [hm1, hg'])
                  subst this
                  rw [hi1] at hi2
                  cases hi2
                  rw [q1, if_pos (by omega)]
                · rw [q2 j hjk, hcd j g' e' hj he' hg']
                  by_cases hlt : j < k
                  · rw [if_pos hlt, if_pos (by omega)]
                  · rw [if_neg hlt, if_neg (show ¬ j < k + 1 by omega)]
              have hlk := hcd k g e hg he hm1
              rw [if_neg (by omega)] at hlk
              have hkB : (k : Int) ≤ 5 := by omega
              have hkI : (k : Int) < (N : Int) := by omega
              obtain ⟨db, hdb⟩ : ∃ x, dueB ((d : Int) + 1) t e = x := ⟨_, rfl⟩
              rw [hdb] at f5 f6 hdue
              have HDUE := Lib.hid hdue
              have HNEW := Lib.hid hnew
              have HLK := Lib.hid hlk
              have HF := Lib.hid (And.intro f2 (And.intro f3 (And.intro f4 (And.intro f5 f6))))
              have HA4 := Lib.hid hA4
              have HR4 := Lib.hid hrw4
              have HKN := Lib.hid hkN
              obtain ⟨wo, hwo⟩ : ∃ wo, wo = wr := ⟨_, rfl⟩
              rw [← hwo] at HA4 HR4 kg ⊢
              clear hwo hg he1 he hm1 f1 f2 f3 f4 f5 f6 h5 hgA e0 hdue hnew hlk hdb hA4 hrw4 hcd hk hkN
              go_wp2_with fail
              go_loopw [17, 81] (fun sv jv W => ∃ j : Nat, j ≤ M ∧ jv = .int .i64 j ∧ sv = .bool ((outs.take j).any fun o => decide (o.m.g = g)) ∧ Below wo.heap.size wo W) (fun _ jv _ => M - (intOf jv).toNat)
              case atStart => exact ⟨0, Nat.zero_le _, rfl, by simp, Below.refl _ _⟩
              case round =>
                obtain ⟨j, hj, rfl, rfl, hbw⟩ := hrel
                by_cases hjM : j < M
                · obtain ⟨o, ho⟩ : ∃ o, outs[j]? = some o := ⟨_, List.getElem?_eq_getElem (by rw [HMM.out]; exact hjM)⟩
                  obtain ⟨A', c', e0, _, _, _, _, h5⟩ := (HR4.out.below hbw).form
                  obtain ⟨gd, hgD, k0⟩ := h5 (j * 11 + 0) (.int .i64 o.m.kd) ((ots_get ho (by decide)).trans rfl)
                  injection e0 with e0 e2 e3
                  clear e2 e3
                  obtain rfl := e0.trans hgD
                  have kk : ∀ i u, o.c[i]? = some u → i < 11 → wr.cell? ⟨gd, j * 11 + i, none⟩ = some u := fun i u hu hi => by
                    obtain ⟨g', h1, h2⟩ := h5 (j * 11 + i) u ((ots_get ho hi).trans hu)
                    have e4 : (⟨gd, 0, none⟩ : Addr) = ⟨g', 0, none⟩ := Option.some.inj (hgD.symm.trans h1)
                    have e5 : gd = g' := congrArg Addr.block e4
                    rw [e5]
                    exact h2
                  replace k0 : wr.cell? ⟨gd, j * 11, none⟩ = some (.int .i64 o.m.kd) := kk 0 _ rfl (by decide)
                  have k1 := kk 1 (.int .i64 o.m.fr) rfl (by decide)
                  have k2 := kk 2 (.int .i64 o.m.tt) rfl (by decide)
                  have k3 := kk 3 (.int .i64 o.m.g) rfl (by decide)
                  have k4 := kk 4 (.int .i64 o.m.nd) rfl (by decide)
                  have k5 := kk 5 (.int .i64 o.m.tr) rfl (by decide)
                  have k6 := kk 6 (.int .i64 o.m.lw) rfl (by decide)
                  have k7 := kk 7 (.int .i64 o.m.co) rfl (by decide)
                  have k8 := kk 8 (.int .i64 o.m.ti) rfl (by decide)
                  have k9 := kk 9 (.slice o.tA o.m.tl.length o.tc) rfl (by decide)
                  have k10 := kk 10 (.slice o.oA o.m.os.length o.oc) rfl (by decide)
                  have hany := any_take ho (fun o => decide (o.m.g = g))
                  have HANY := Lib.hid hany
                  have HJM := Lib.hid hjM
                  have hjI : (j : Int) < (M : Int) := by omega
                  have hjB : (j : Int) ≤ 5 := by omega
                  have HBW := Lib.hid (hbw.trans ((below_new (w := wr) (.cells #[.int .i64 o.m.kd, .int .i64 o.m.fr, .int .i64 o.m.tt, .int .i64 o.m.g, .int .i64 o.m.nd, .int .i64 o.m.tr, .int .i64 o.m.lw, .int .i64 o.m.co, .int .i64 o.m.ti, .slice o.tA o.m.tl.length o.tc, .slice o.oA o.m.os.length o.oc] 50)).mono hbw.size))
                  obtain ⟨sb, hsb⟩ : ∃ x, ((outs.take j).any fun o => decide (o.m.g = g)) = x := ⟨_, rfl⟩
                  rw [hsb] at HANY ⊢
                  clear ho h5 e0 hgD kk hany hsb hj hjM hbw
                  cases sb with
                  | true =>
                    go_wp2_with fail
                    go_roundw
                    case rel => exact ⟨j + 1, HJM.out, by go_num, by rw [HANY.out]; rfl, HBW.out⟩
                    case measure => have := HJM.out; simp [intOf]; omega
                  | false =>
                    by_cases hog : o.m.g = g
                    · have q1 : (o.m.g == g) = true := by simp [hog]
                      have HOG := Lib.hid hog
                      clear hog
                      go_wp2_with fail
                      go_roundw
                      case rel => exact ⟨j + 1, HJM.out, by go_num, by rw [HANY.out]; simp [HOG.out], HBW.out⟩
                      case measure => have := HJM.out; simp [intOf]; omega
                    · have q1 : (o.m.g == g) = false := by simp [hog]
                      have HOG := Lib.hid hog
                      clear hog
                      go_wp2_with fail
                      go_roundw
                      case rel => exact ⟨j + 1, HJM.out, by go_num, by rw [HANY.out]; simp [HOG.out], HBW.out⟩
                      case measure => have := HJM.out; simp [intOf]; omega
                · obtain rfl : j = M := by omega
                  rw [List.take_of_length_le (by rw [HMM.out]; omega), HDUE.out]
                  have hA5 := HA4.out.below hbw
                  have HA5 := Lib.hid hA5
                  have HR5 := Lib.hid (HR4.out.below hbw)
                  have hrow5 := hA5.row
                  rw [HNN.out] at hrow5
                  obtain ⟨A', c', e0, _, _, _, _, h5⟩ := hrow5.form
                  have hlb : lb < wr.heap.size := hA5.lt
                  cases db with
                  | true =>
                    have hev2 := HF.out.2.2.2.2 (by first | trivial | rfl)
                    rw [hev2] at HNEW
                    have HLS : Hid (ls'.length = N) := Lib.hid (by rw [hA5.len, HNN.out])
                    have HA6 := Lib.hid (hA5.set (k := k) (by rw [HNN.out]; exact HKN.out) (t : Int))
                    have hfz : wr.frozen? ⟨lb, k, none⟩ = false ∧ (wr.cell? ⟨lb, k, none⟩).isSome = true := by
                      rcases hrow5 with ⟨e, _⟩ | ⟨g', cap', e, h1, h2, h3⟩
                      · cases e
                      · cases e
                        have := h3.there k (by have := HKN.out; omega)
                        exact ⟨this.2, this.1⟩
                    obtain ⟨hfz1, hfz2⟩ := hfz
                    obtain ⟨u, hu⟩ := Option.isSome_iff_exists.1 hfz2
                    have qw : IntKind.i64.wrap ((t : Int) - t) = 0 := by rw [Int.sub_self]; first | done | rfl
                    have qg : decide ((0 : Int) ≥ (d : Int) + 1) = false := decide_eq_false (by omega)
                    have HR6 : Hid (RowIs (wr.setCell ⟨lb, k, none⟩ (.int .i64 t)) 11 (.slice dA j dc) j (outs.flatMap Ot.c)) := Lib.hid (HR5.out.touch ((Touch.refl (fun k => k = lb) wr).setCell ⟨lb, k, none⟩ (fun _ => rfl) _) (fun g hg e => HOW.out g hg e))
                    have HREL : Hid (∀ (j : Nat) (g' : Int) (e' : Rq), gs[j]? = some g' → e' ∈ L2 → e'.m.g = g' → (ls'.set k t)[j]? = some (if j < k + 1 then (fireT ((d : Int) + 1) t e').last else (if t = 0 then 0 else e'.last))) := Lib.hid (HNEW.out _ (by rw [List.getElem?_set, if_pos rfl, if_pos (by rw [HLS.out]; exact HKN.out)]) (fun j hj => by rw [List.getElem?_set, if_neg (fun e => hj e.symm)]))
                    clear hA5 hrow5 h5 e0 hbw hev2 hfz2
                    by_cases ht0 : t = 0
                    · subst ht0
                      go_wp2_with fail
                      go_roundw
                      case rel => exact ⟨k + 1, ls'.set k ((0 : Nat) : Int), HKN.out, by go_num, HA6.out, HR6.out, HREL.out⟩
                      case measure => have := HKN.out; simp [intOf]; omega
                    · have qz : ((t : Int) == 0) = false := by simp; omega
                      clear ht0
                      go_wp2_with fail
                      go_roundw
                      case rel => exact ⟨k + 1, ls'.set k (t : Int), HKN.out, by go_num, HA6.out, HR6.out, HREL.out⟩
                      case measure => have := HKN.out; simp [intOf]; omega
                  | false =>
                    obtain ⟨ht0, hfe⟩ := HF.out.2.2.2.1 (by first | trivial | rfl)
                    have hlk := HLK.out
                    rw [if_neg ht0] at hlk
                    obtain ⟨g', hg', kl⟩ := h5 k (.int .i64 e.last) (by show (List.map _ _)[k]? = _; rw [List.getElem?_map, hlk]; rfl)
                    injection e0 with e0 e2 e3
                    clear e2 e3
                    have e4 : (⟨lb, 0, none⟩ : Addr) = ⟨g', 0, none⟩ := Option.some.inj (e0.trans hg')
                    have e5 : lb = g' := congrArg Addr.block e4
                    subst e5
                    have hb1 := HF.out.1
                    have hb2 := HF.out.2.1
                    have hb3 := HF.out.2.2.1
                    rw [hfe] at hb1 hb2 hb3
                    obtain ⟨la, hla⟩ : ∃ x, e.last = x := ⟨_, rfl⟩
                    rw [hla] at kl hb1 hb2 hb3
                    have qw : IntKind.i64.wrap ((t : Int) - la) = (t : Int) - la := IntWalk.i64_in _ (by omega)
                    have qg : decide ((t : Int) - la ≥ (d : Int) + 1) = false := by simp; omega
                    have qz : ((t : Int) == 0) = false := by simp; omega
                    have HREL : Hid (∀ (j : Nat) (g' : Int) (e' : Rq), gs[j]? = some g' → e' ∈ L2 → e'.m.g = g' → ls'[j]? = some (if j < k + 1 then (fireT ((d : Int) + 1) t e').last else (if t = 0 then 0 else e'.last))) := Lib.hid (HNEW.out ls' (by rw [hfe]; exact hlk) (fun _ _ => rfl))
                    clear hA5 hrow5 h5 e0 e4 hg' hbw hb1 hb2 hb3 hla hlk hfe ht0
                    go_wp2_with fail
                    go_roundw
                    case rel => exact ⟨k + 1, ls', HKN.out, by go_num, HA5.out, HR5.out, HREL.out⟩
                    case measure => have := HKN.out; simp [intOf]; omega
            · obtain rfl : k = N := by omega
              have HA4 := Lib.hid hA4
              have HCD4 := Lib.hid hcd
              clear hA4 hrw4 hcd hk
              go_wp2_with fail
              go_roundw
              case rel =>
                refine ⟨t + 1, _, c2, R2, ls', by have := HTT.out; omega, by go_num, by rw [List.length_map]; exact hL2, HA4.out, fun e1 he1 => ?_, fun j g e1 hj he1 hg => ?_⟩
                · obtain ⟨e, he, rfl⟩ := List.mem_map.1 he1
                  obtain ⟨q1, q2, q3, q4, _⟩ := fireT_ok HO.out hev he
                  exact ⟨fun h => by omega, fun _ => ⟨q1, q2, q3, q4⟩⟩
                · obtain ⟨e, he, rfl⟩ := List.mem_map.1 he1
                  rw [(fireT_m _ t e).1] at hg
                  have := HCD4.out j g e hj he hg
                  rw [if_pos (by have := (List.getElem?_eq_some_iff.1 hj).1; have := HNN.out; omega)] at this
                  rw [this, if_neg (by omega)]
              case measure => have := HTT.out; simp [intOf]; omega
        · have qT : decide ((t : Int) < T) = false := by simpa using htT
          have HAW := Lib.hid (pawake (HG.out.below hA.ag.bel))
          have HBE := Lib.hid hA.ag.bel
          clear hA hok htT
          go_wp2_with fail
          refine (HAW.out).mono ?_
          rintro e w3 ⟨rfl, hb3⟩
          have HB3 := Lib.hid (HBE.out.trans (hb3.mono HBE.out.size))
          clear hb3
          go_wp2_with fail
          go_ret
          exact ⟨rfl, HB3.out⟩
end Go.Proofs.YtabfbnpbgdlinaaGreatDoor
