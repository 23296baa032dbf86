/- NetOrder's walk. (gennetq.py wrote it.) -/
import Derived.Test.YtabfbnpbgdlinaaGreatDoorZNetL
import Derived.Test.YtabfbnpbgdlinaaGreatDoorZMefD
set_option linter.unusedSimpArgs false
set_option linter.unusedVariables false
set_option linter.unnecessarySimpa false
namespace Go.Proofs.YtabfbnpbgdlinaaGreatDoor
open Go.RowKit Go.Shelf
theorem infoRM : (Tryz.prog.info? 37).map (fun i => (i.zero, i.size, i.bytes)) = some (some zeroM, 11, 120) := by kernel_rfl
theorem row_cell {w : World} {z gs n m c : Nat} {l : List Value} (h : RowIs w z (.slice (some ⟨gs, 0, none⟩) n c) m l) {j : Nat} {u : Value} (hj : l[j]? = some u) : w.cell? ⟨gs, j, none⟩ = some u := by
  obtain ⟨A, cp, e, _, _, _, _, h5⟩ := h.form
  obtain ⟨g, h1, h2⟩ := h5 j u hj
  cases e
  cases h1
  exact h2
theorem nmsg_cut {m : MsgV} (h : MsgIn m) : MsgIn (cutM m) := by
  refine ⟨fun x hx => h.told x (List.mem_of_mem_take hx), fun o ho => ?_⟩
  obtain ⟨x, hx, rfl⟩ := List.mem_map.1 ho
  have := h.ops x (List.mem_of_mem_take hx)
  have e : (cutK x).k = x.k ∧ (cutK x).n = x.n ∧ (cutK x).lo = x.lo := by unfold cutK; split <;> exact ⟨rfl, rfl, rfl⟩
  exact ⟨by rw [e.1]; exact this.k, by rw [e.2.1]; exact this.n, by rw [e.2.2]; exact this.lo⟩
/-- A message that was cut stays readable while the net, and the row of what was sent, change. -/
theorem cut_stays {w0 W2 w3 W6 : World} {m : MsgV} {tA oB : Option Addr} {tc od : Nat} {F : Nat → Prop} {sv : Value} (hn : NumsAt w0 (.slice tA (cutM m).tl.length tc) (cutM m).tl) (hro : RowN w3 W2.heap.size 4 (.slice oB (cutM m).os.length od) (cutM m).os.length (opC (cutM m).os))
    (h02 : Below w0.heap.size w0 W6) (h36 : ∀ k, W2.heap.size ≤ k → k < w3.heap.size → W6.heap[k]? = w3.heap[k]?) (hs36 : w3.heap.size ≤ W6.heap.size) (hF : ∀ k, W2.heap.size ≤ k → k < w3.heap.size → F k) (hsv : ∀ k, sv.ownBlock = some k → w0.heap.size ≤ k ∧ k < W2.heap.size) :
    ∀ W', Touch (OrdT w0 F sv) W6 W' → MsgIs W' (.agg (cellM (cutM m) tA tc oB od)) (cutM m) := fun W' hW => by
  have hb : Below w0.heap.size w0 W' := h02.trans (hW.below (fun i e => by
    rcases e with e | e
    · exact e.1
    · exact (hsv i e).1) h02.size)
  have hlt : ∀ k, (Value.slice oB (cutM m).os.length od).ownBlock = some k → k < w3.heap.size := fun k hk => by
    rcases hro.1 with ⟨e, _⟩ | ⟨g, cap, e, _, _, hr⟩
    · rw [e] at hk; cases hk
    · rw [e] at hk; cases hk; exact hr.lt
  have h37 : ∀ k, W2.heap.size ≤ k → k < w3.heap.size → W'.heap[k]? = w3.heap[k]? := fun k h1 h2 => (hW.block k (Nat.lt_of_lt_of_le h2 hs36) (fun e => by
    rcases e with e | e
    · exact e.2 (hF k h1 h2)
    · have := (hsv k e).2; omega)).trans (h36 k h1 h2)
  refine ⟨tA, tc, oB, od, rfl, hn.below hb, RowIs.ops (w := W') ?_ rfl, nkeys_cut m⟩
  rcases hro.1 with ⟨e, h1, h2⟩ | ⟨g, cap, e, h1, h2, hr⟩
  · exact .inl ⟨e, h1, h2⟩
  · have hg := hro.2.1 g (by rw [e]; rfl)
    exact .inr ⟨g, cap, e, h1, h2, hr.keep (Nat.le_trans hs36 hW.size) (h37 g hg.1 hr.lt)⟩
set_option maxRecDepth 100000 in
set_option maxHeartbeats 16000000 in
theorem law_order {w : World} (hG : Glob w) (hM : Mov w) {v : Value} {l : List MsgV} (hv : MsgsAt w v l) (hin : ∀ m ∈ l, MsgIn m) {y : Value} {ks : List Int} (hy : NumsAt w y ks) :
    Calls Tryz.prog 6 #[v, y] w fun e w' => e = .returned (.bool true) ∧ Below w.heap.size w w' := by
  have HG := Lib.hid (And.intro hG hM)
  obtain ⟨A, cap, rfl, hc1, hc2, hel⟩ := hv
  unfold maxLen at hc2
  obtain ⟨n, hn⟩ : ∃ n, l.length = n := ⟨_, rfl⟩
  rw [hn] at hc1 ⊢
  have HEL := Lib.hid hel
  have HN := Lib.hid hn
  have HIN := Lib.hid hin
  have HY := Lib.hid hy
  obtain ⟨yA, yc, rfl, hy1, hy2, _⟩ := id hy
  unfold maxLen at hy2
  have HNE := Lib.hid (nr_new (w := w) (most := 1024) (by decide) (by decide))
  clear hG hM hel hn hin hy
  go_enter Tryz.func6, Tryz.ntmps6
  go_wp2_with fail
  refine (HNE.out).mono ?_
  rintro e w1 ⟨b, rfl, hn1⟩
  have HST : Hid (OrdM w w1 [] (fun _ => False) (.slice none 0 0) ∧ NR w w1 b 1024 (sentP (([] : List Ot).map (·.m)) 0) (fun _ => False)) := Lib.hid ⟨OrdM.none hn1.bel, hn1⟩
  clear hn1 HNE
  go_wp2_with fail
  go_loopw [7, 8, 21] (fun sv gv iv wr => ∃ (i : Nat) (S : List Ot) (got : Nat) (F : Nat → Prop), i ≤ n ∧ i ≤ 40 ∧ iv = .int .i64 i ∧ gv = .int .i64 got ∧ OrdM w wr S F sv ∧ NR w wr b 1024 (sentP (S.map (·.m)) got) F ∧ S.length ≤ i ∧ got ≤ S.length) (fun _ _ iv _ => n - (intOf iv).toNat)
  case atStart => exact ⟨0, [], 0, _, Nat.zero_le _, Nat.zero_le _, rfl, rfl, HST.out.1, HST.out.2, Nat.zero_le _, Nat.zero_le _⟩
  case round =>
    obtain ⟨i, S, got, F, hi, hi40, rfl, rfl, hS, hN, hSi, hgS⟩ := hrel
    by_cases hlt : i < n
    · obtain ⟨m, hm⟩ : ∃ m, l[i]? = some m := ⟨_, List.getElem?_eq_getElem (by rw [HN.out]; exact hlt)⟩
      have HMI := Lib.hid (nmsg_cut (HIN.out m (List.mem_of_getElem? hm)))
      obtain ⟨a, tA, tc, oA, oc, rfl, q1, hM, hnm, hom⟩ := HEL.out i m hm
      have hM' := hM.below (by rw [add_block]; exact q1) hS.bel
      unfold M11 at hM'
      obtain ⟨m0, m1, m2, m3, m4, m5, m6, m7, m8, m9, m10⟩ := hM'
      obtain ⟨W2, hW2⟩ : ∃ W, W = wr.alloc (.cells (cellM m tA tc oA oc) 37) := ⟨_, rfl⟩
      have hb2 : Below wr.heap.size wr W2 := by rw [hW2]; exact below_new _
      have hB2 := hS.bel.trans (hb2.mono hS.bel.size)
      have hat2 : W2.heap[wr.heap.size]? = some (.cells (cellM m tA tc oA oc) 37 (0, 0)) := by rw [hW2]; exact alloc_at _ _
      have HCU := Lib.hid (lawcut_cells (w := W2) (m := m) (hnm.below hB2) (hom.below hB2))
      have HCN := Lib.hid (cut_nums hnm)
      have HS := Lib.hid (And.intro hS hN)
      have HL := Lib.hid (And.intro hSi (And.intro hgS (And.intro hlt hi40)))
      have HB2 := Lib.hid (And.intro hb2 hB2)
      have HA2 := Lib.hid hat2
      have HW2 := Lib.hid hW2
      obtain ⟨sA, sc, rfl, _⟩ := id hS.row.form
      have hiI : (i : Int) < (n : Int) := by omega
      by_cases h40 : i < 40
      · have hq40 : decide ((i : Int) ≥ 40) = false := by simp; omega
        have H40 := Lib.hid h40
        clear hM hnm hom hm hS hN hSi hgS hlt hi40 h40 hb2 hB2 hW2 q1
        go_upto_region 10 with fail
        rw [← HW2.out]
        clear m0 m1 m2 m3 m4 m5 m6 m7 m8 m9 m10
        have c0 := cell_of hat2 0
        have c1 := cell_of hat2 1
        have c2 := cell_of hat2 2
        have c3 := cell_of hat2 3
        have c4 := cell_of hat2 4
        have c5 := cell_of hat2 5
        have c6 := cell_of hat2 6
        have c7 := cell_of hat2 7
        have c8 := cell_of hat2 8
        have c9 := cell_of hat2 9
        have c10 := cell_of hat2 10
        simp at c0 c1 c2 c3 c4 c5 c6 c7 c8 c9 c10
        have f0 := free0 hat2 0
        have f1 := free0 hat2 1
        have f2 := free0 hat2 2
        have f3 := free0 hat2 3
        have f4 := free0 hat2 4
        have f5 := free0 hat2 5
        have f6 := free0 hat2 6
        have f7 := free0 hat2 7
        have f8 := free0 hat2 8
        have f9 := free0 hat2 9
        have f10 := free0 hat2 10
        clear hat2
        go_wp2_with fail
        refine (HCU.out).mono ?_
        rintro e w3 ⟨oB, od, rfl, _, hro, hb3⟩
        have hat3 := (hb3.block _ (heap_lt HA2.out)).trans HA2.out
        have hZ4 := setCells_at wr.heap.size (cellM (cutM m) tA tc oB od).toList [] (cellM m tA tc oA oc).toList w3 rfl hat3
        have hT4 := setCells_touch (S := fun k => k = wr.heap.size) (a := w3) wr.heap.size (fun _ => rfl) (cellM (cutM m) tA tc oB od).toList 0 w3 (Touch.refl _ _)
        simp only [List.length_nil, List.nil_append] at hZ4
        obtain ⟨W4, hW4⟩ : ∃ W, W = w3.setCells wr.heap.size 0 (cellM (cutM m) tA tc oB od).toList := ⟨_, rfl⟩
        rw [← hW4] at hZ4 hT4
        have hb23 : Below wr.heap.size wr w3 := HB2.out.1.trans (hb3.mono HB2.out.1.size)
        have hb4 : Below wr.heap.size wr W4 := hb23.trans (hT4.below (fun i e => by rw [e]; exact Nat.le_refl _) hb23.size)
        have HB4 := Lib.hid hb4
        have HT4 := Lib.hid hT4
        have HRO := Lib.hid hro
        have HS23 := Lib.hid (And.intro hb3.size (heap_lt HA2.out))
        have hM4 : MsgIs W4 (.agg (cellM (cutM m) tA tc oB od)) (cutM m) := ⟨tA, tc, oB, od, rfl, HCN.out.below (HS.out.1.bel.trans (hb4.mono HS.out.1.bel.size)), RowIs.ops (hro.1.touch hT4 (fun k hk e => by have := (hro.2.1 k hk).1; have := heap_lt HA2.out; omega)) rfl, nkeys_cut m⟩
        have HZ4 := Lib.hid hZ4
        have HOU := Lib.hid (ours_any hM4)
        have HW4 := Lib.hid hW4
        clear c0 c1 c2 c3 c4 c5 c6 c7 c8 c9 c10 f0 f1 f2 f3 f4 f5 f6 f7 f8 f9 f10
        have e0 := cell_of hat3 0
        have e1 := cell_of hat3 1
        have e2 := cell_of hat3 2
        have e3 := cell_of hat3 3
        have e4 := cell_of hat3 4
        have e5 := cell_of hat3 5
        have e6 := cell_of hat3 6
        have e7 := cell_of hat3 7
        have e8 := cell_of hat3 8
        have e9 := cell_of hat3 9
        have e10 := cell_of hat3 10
        simp at e0 e1 e2 e3 e4 e5 e6 e7 e8 e9 e10
        have f0 := free0 hat3 0
        have f1 := free0 hat3 1
        have f2 := free0 hat3 2
        have f3 := free0 hat3 3
        have f4 := free0 hat3 4
        have f5 := free0 hat3 5
        have f6 := free0 hat3 6
        have f7 := free0 hat3 7
        have f8 := free0 hat3 8
        have f9 := free0 hat3 9
        have f10 := free0 hat3 10
        clear hro hb3 hat3 hT4 hb23 hb4 hM4 hW4 HCU
        go_upto_region 11 with fail
        change Code.wp _ _ _ _ (World.setCells _ wr.heap.size 0 (cellM (cutM m) tA tc oB od).toList)
        rw [← HW4.out]
        clear e0 e1 e2 e3 e4 e5 e6 e7 e8 e9 e10 f0 f1 f2 f3 f4 f5 f6 f7 f8 f9 f10
        have c0 := cell_of hZ4 0
        have c1 := cell_of hZ4 1
        have c2 := cell_of hZ4 2
        have c3 := cell_of hZ4 3
        have c4 := cell_of hZ4 4
        have c5 := cell_of hZ4 5
        have c6 := cell_of hZ4 6
        have c7 := cell_of hZ4 7
        have c8 := cell_of hZ4 8
        have c9 := cell_of hZ4 9
        have c10 := cell_of hZ4 10
        simp at c0 c1 c2 c3 c4 c5 c6 c7 c8 c9 c10
        clear hZ4
        go_wp2_with fail
        refine (HOU.out).mono ?_
        rintro e w5 ⟨rfl, hb5⟩
        clear c0 c1 c2 c3 c4 c5 c6 c7 c8 c9 c10
        have hb6 := below_new (w := w5) (.cells (cellM (cutM m) tA tc oB od) 50)
        have hat6 := alloc_at w5 (.cells (cellM (cutM m) tA tc oB od) 50)
        obtain ⟨W6, hW6⟩ : ∃ W, W = w5.alloc (.cells (cellM (cutM m) tA tc oB od) 50) := ⟨_, rfl⟩
        rw [← hW6] at hb6 hat6
        have hb46 : Below W4.heap.size W4 W6 := hb5.trans (hb6.mono hb5.size)
        have hbr6 : Below wr.heap.size wr W6 := HB4.out.trans (hb46.mono HB4.out.size)
        have hS6 := HS.out.1.more hbr6
        have hN6 := HS.out.2.add hbr6
        have hst : ∀ W', Touch (OrdT w (fun k => F k ∨ (wr.heap.size ≤ k ∧ k < W6.heap.size)) (.slice sA S.length sc)) W6 W' → MsgIs W' (.agg (cellM (cutM m) tA tc oB od)) (cutM m) := cut_stays HCN.out HRO.out (HS.out.1.bel.trans (hbr6.mono HS.out.1.bel.size)) (fun k h1 h2 => (hb46.block k (Nat.lt_of_lt_of_le h2 HT4.out.size)).trans (HT4.out.block k h2 (fun e => by have := HS23.out.2; omega))) (Nat.le_trans HT4.out.size hb46.size) (fun k h1 h2 => .inr ⟨Nat.le_trans HB2.out.1.size h1, Nat.lt_of_lt_of_le h2 (Nat.le_trans HT4.out.size hb46.size)⟩) (fun k hk => ⟨(HS.out.1.own k hk).2, by
          rcases HS.out.1.row with ⟨e, _⟩ | ⟨g, cp, e, _, _, hr⟩
          · rw [e] at hk; cases hk
          · rw [e] at hk; cases hk; exact Nat.lt_of_lt_of_le hr.lt HB2.out.1.size⟩)
        have HST6 := Lib.hid hst
        have hsend := nr_send HG.out.1 HG.out.2 hN6 (by decide) (g := w5.heap.size) (cap := 1) (ms := [cutM m]) (by simp) (by simp) (fun i' m' hi' => by
          match i', hi' with
          | 0, hi' =>
            cases hi'
            refine ⟨fun hmay => ⟨HMI.out, site_in hmay, fun e he => by cases he⟩, tA, tc, oB, od, fun W hW => ⟨?_, hst W (hW.mono (fun k _ e => .inl e))⟩⟩
            have hk := (hW.block _ (heap_lt hat6) (fun e => e.2 (.inr ⟨Nat.le_trans HB4.out.size hb5.size, heap_lt hat6⟩))).trans hat6
            exact ⟨cell_of hk 0, cell_of hk 1, cell_of hk 2, cell_of hk 3, cell_of hk 4, cell_of hk 5, cell_of hk 6, cell_of hk 7, cell_of hk 8, cell_of hk 9, cell_of hk 10⟩)
        have hsend2 : Calls Tryz.prog 17 #[.pointer (some ⟨b, 0, none⟩), .slice (some ⟨w5.heap.size, 0, none⟩) 1 1] W6 fun e w' => e = .returned (.int .i64 (if mayM (cutM m) = true then 1 else 0)) ∧ NRP w W6 b 1024 (sentP (S.map (·.m) ++ (if mayM (cutM m) = true then [cutM m] else [])) got) (fun k => F k ∨ (wr.heap.size ≤ k ∧ k < W6.heap.size)) w' := by
          refine hsend.mono ?_
          rintro e w' ⟨rfl, hq⟩
          rw [List.foldl_cons, List.foldl_nil] at hq
          have hgl : got ≤ (S.map (·.m)).length := by rw [List.length_map]; exact HL.out.2.1
          cases hmay : mayM (cutM m) with
          | true =>
            rw [if_pos rfl, if_pos rfl, List.foldl_cons, List.foldl_nil, sentP_send hmay hgl (by rw [List.length_map]; have := HL.out; omega)]
            rw [sentP_send hmay hgl (by rw [List.length_map]; have := HL.out; omega)] at hq
            refine ⟨?_, hq⟩
            rw [sentP_len, sentP_len, List.length_append, List.length_singleton]
            congr 2
            omega
          | false =>
            rw [if_neg (by decide), if_neg (by decide), List.append_nil, List.foldl_cons, List.foldl_nil, sentP_not hmay]
            rw [sentP_not hmay] at hq
            exact ⟨by rw [Int.sub_self], hq⟩
        have HSE := Lib.hid hsend2
        have HS6 := Lib.hid hS6
        have HZ6 := Lib.hid ((hb46.block _ (heap_lt HZ4.out)).trans HZ4.out)
        have HBR6 := Lib.hid hbr6
        have HW6 := Lib.hid hW6
        clear hb5 hb6 hat6 hW6 hb46 hbr6 hS6 hN6 hst hsend hsend2
        go_wp2_with fail
        rw [← HW6.out]
        refine (HSE.out).mono ?_
        rintro e w7 ⟨rfl, hn7, ht7⟩
        have hS7 := HS6.out.call ht7
        have HS7 := Lib.hid hS7
        have HN7 := Lib.hid hn7
        have HT7 := Lib.hid ht7
        have HZ7 := Lib.hid ((ht7.block _ (heap_lt HZ6.out) (fun e => e.2 (.inr ⟨Nat.le_refl _, heap_lt HZ6.out⟩))).trans HZ6.out)
        clear ht7 hn7 hS7
        have hz7 := HZ7.out
        have c0 := cell_of hz7 0
        have c1 := cell_of hz7 1
        have c2 := cell_of hz7 2
        have c3 := cell_of hz7 3
        have c4 := cell_of hz7 4
        have c5 := cell_of hz7 5
        have c6 := cell_of hz7 6
        have c7 := cell_of hz7 7
        have c8 := cell_of hz7 8
        have c9 := cell_of hz7 9
        have c10 := cell_of hz7 10
        simp at c0 c1 c2 c3 c4 c5 c6 c7 c8 c9 c10
        clear hz7
        go_upto_if 35 with fail
        go_cut [7] (fun sv wx => ∃ (S' : List Ot) (F' : Nat → Prop), OrdM w wx S' F' sv ∧ NR w wx b 1024 (sentP (S'.map (·.m)) got) F' ∧ S'.length ≤ i + 1 ∧ got ≤ S'.length)
        case first =>
          cases hmay : mayM (cutM m) with
          | false =>
            have hn := HN7.out
            simp only [hmay] at hn
            have HNN : Hid (NR w w7 b 1024 (sentP (S.map (·.m)) got) (fun k => F k ∨ (wr.heap.size ≤ k ∧ k < W6.heap.size))) := Lib.hid (by simpa using hn)
            clear hn
            go_wp2_with fail
            go_meet
            exact ⟨S, _, HS7.out, HNN.out, Nat.le_succ_of_le HL.out.1, HL.out.2.1⟩
          | true =>
            have hn := HN7.out
            simp only [hmay] at hn
            have hb8 := below_new (w := w7) (.cells (cellM (cutM m) tA tc oB od) 37)
            have hat8 := alloc_at w7 (.cells (cellM (cutM m) tA tc oB od) 37)
            have hS8 := HS7.out.more hb8
            have hN8 : NR w (w7.alloc (.cells (cellM (cutM m) tA tc oB od) 37)) b 1024 (sentP ((S ++ [Ot.mk (cutM m) tA tc oB od]).map (fun o : Ot => o.m)) got) _ := NR.add (by simpa using hn) hb8
            have h11 : (S.flatMap Ot.c).length = S.length * 11 := ots_len S
            obtain ⟨v9, w9, hr9, hrow9, hg9, hblk9⟩ := run_append_row (w7.alloc (.cells (cellM (cutM m) tA tc oB od) 37)) 42 37 42 42 Tryz.underlying42 infoRM rfl (by omega) (by omega) (.slice sA S.length sc) S.length 1 (S.flatMap Ot.c) (cellM (cutM m) tA tc oB od).toList (.slice (some ⟨w7.heap.size, 0, none⟩) 1 1) hS8.row
              (Src.ofSlice _ Tryz.underlying42 ⟨w7.heap.size, 0, none⟩ 1 1 (cellM (cutM m) tA tc oB od).toList rfl (fun k u hu => by
                rw [add0, cell_of hat8 k]
                simpa using hu) (by simp [Value.oneCell'])) (by have := HL.out; omega)
            have hpush := hS8.push (W1 := w9) (sv' := v9) (o := Ot.mk (cutM m) tA tc oB od) (by
              rw [List.length_append, List.length_singleton, List.flatMap_append]
              simpa [Ot.c] using hrow9) hg9 hblk9 (fun W' hW => HST6.out W' (((HT7.out.mono (fun k _ e => Or.inl e)).trans ((Touch.of_below hb8 : Touch (OrdT w (fun k => F k ∨ (wr.heap.size ≤ k ∧ k < W6.heap.size)) (.slice sA S.length sc)) _ _)) (fun _ _ e => e)).trans hW (fun k _ e => by
                rcases e with e | e
                · exact .inl ⟨e.1, fun q => e.2 (.inl q)⟩
                · exact .inr e))) ⟨hmay, HMI.out⟩
            have HFIN := Lib.hid (And.intro hpush (NR.grown hN8 hS8.own hg9))
            clear hn hb8 hat8 hS8 hN8 hrow9 hg9 hblk9 hpush h11
            go_wp2_with (at_builtin; refine wpList_app_run rfl _ _ _ _ rfl rfl rfl hr9 ?_)
            go_meet
            exact ⟨_, _, HFIN.out.1, HFIN.out.2, by rw [List.length_append, List.length_singleton]; have := HL.out; omega, by rw [List.length_append]; have := HL.out; omega⟩
        case rest =>
        obtain ⟨S', F', hS', hN', hSi', hgS'⟩ := hcut
        have HS' := Lib.hid (And.intro hS' (And.intro hN' (And.intro hSi' hgS')))
        obtain ⟨zA, zc, rfl, _⟩ := id hS'.row.form
        have hwk : IntKind.i64.wrap ((i : Int) + 1) = (i : Int) + 1 := IntWalk.i64_in _ (by have := H40.out; omega)
        have hY := HY.out.below hS'.bel
        clear hS' hN' hSi' hgS'
        by_cases hik : i < ks.length
        · have hq1 : decide ((i : Int) < (ks.length : Int)) = true := by simp; omega
          obtain ⟨y0, hy0⟩ : ∃ y0, ks[i]? = some y0 := ⟨_, List.getElem?_eq_getElem hik⟩
          obtain ⟨_, _, e0, _, _, hyc⟩ := hY
          cases e0
          obtain ⟨ya, hya, hyb, yk⟩ := hyc i y0 hy0
          subst hya
          clear hy0 hyc hyb
          obtain ⟨ev, hev⟩ : ∃ ev, (y0.tmod 2 == 0) = ev := ⟨_, rfl⟩
          cases ev with
          | true =>
            go_wp2_with fail
            go_roundw
            case rel => exact ⟨i + 1, S', got, F', HL.out.2.2.1, H40.out, by go_num, rfl, HS'.out.1, HS'.out.2.1, HS'.out.2.2.1, HS'.out.2.2.2⟩
            case measure => have := HL.out.2.2.1; simp [intOf]; omega
          | false =>
            by_cases hd : got < S'.length
            · have hx : S'[got]? = some S'[got] := List.getElem?_eq_getElem hd
              generalize S'[got] = o at hx
              have ho := List.mem_of_getElem? hx
              have hmy := HS'.out.1.may o ho
              have hp : (sentP (S'.map (·.m)) got)[0]? = some (encM o.m, siteM o.m, 0) := sentP_first (by rw [List.getElem?_map, hx]; rfl)
              have HDE := Lib.hid (nr_deliver HG.out.1 HG.out.2 HS'.out.2.1 hp rfl (site_in hmy.1))
              have HMY := Lib.hid hmy
              have HX := Lib.hid (And.intro hx (And.intro ho hd))
              have hqd : ¬ ((S'.length : Int) ≤ (got : Int)) := by omega
              have hqn : ¬ (S'.length ≤ got) := by omega
              clear hx ho hmy hp hd
              go_wp2_with fail
              refine (HDE.out).mono ?_
              try clear hev yk
              rintro e w8 ⟨⟨hn8, ht8⟩, hcs⟩
              rcases hcs with ⟨hdn, _⟩ | ⟨m2, v2, hdn, rfl, hm2⟩
              · rw [decM_back HMY.out.1 HMY.out.2] at hdn; cases hdn
              obtain rfl : o.m = m2 := Option.some.inj ((decM_back HMY.out.1 HMY.out.2).symm.trans hdn)
              have HM2 := Lib.hid hm2
              obtain ⟨xA, xc, yB, yd, rfl, _⟩ := hm2
              have hS8 := HS'.out.1.call ht8
              have hb9 := below_new (w := w8) (.cells (cellM o.m xA xc yB yd) 50)
              have hat9 := alloc_at w8 (.cells (cellM o.m xA xc yB yd) 50)
              obtain ⟨W9, hW9⟩ : ∃ W, W = w8.alloc (.cells (cellM o.m xA xc yB yd) 50) := ⟨_, rfl⟩
              rw [← hW9] at hb9 hat9
              have hS9 := hS8.more hb9
              have hN9 := hn8.add hb9
              rw [sentP_next] at hN9
              have HN9 := Lib.hid (And.intro hS9 hN9)
              have HW9 := Lib.hid hW9
              have hr9 := hS9.row
              obtain ⟨A9, cp9, he9, _, _, _, _, h59⟩ := hr9.form
              obtain ⟨gs, hgs, _⟩ := h59 (got * 11 + 0) (.int .i64 o.m.kd) ((nots_get HX.out.1 (by decide : 0 < 11)).trans rfl)
              cases he9
              subst hgs
              have HSC : Hid (∀ W, Below W9.heap.size W9 W → W.cell? ⟨w8.heap.size, 0, none⟩ = some (.int .i64 o.m.kd) ∧ W.cell? ⟨w8.heap.size, 1, none⟩ = some (.int .i64 o.m.fr) ∧ W.cell? ⟨w8.heap.size, 2, none⟩ = some (.int .i64 o.m.tt) ∧ W.cell? ⟨w8.heap.size, 3, none⟩ = some (.int .i64 o.m.g) ∧ W.cell? ⟨w8.heap.size, 4, none⟩ = some (.int .i64 o.m.nd) ∧ W.cell? ⟨w8.heap.size, 5, none⟩ = some (.int .i64 o.m.tr) ∧ W.cell? ⟨w8.heap.size, 6, none⟩ = some (.int .i64 o.m.lw) ∧ W.cell? ⟨w8.heap.size, 7, none⟩ = some (.int .i64 o.m.co) ∧ W.cell? ⟨w8.heap.size, 8, none⟩ = some (.int .i64 o.m.ti) ∧ W.cell? ⟨w8.heap.size, 9, none⟩ = some (.slice xA o.m.tl.length xc) ∧ W.cell? ⟨w8.heap.size, 10, none⟩ = some (.slice yB o.m.os.length yd) ∧ W.cell? ⟨gs, got * 11, none⟩ = some (.int .i64 o.m.kd) ∧ W.cell? ⟨gs, got * 11 + 1, none⟩ = some (.int .i64 o.m.fr) ∧ W.cell? ⟨gs, got * 11 + 2, none⟩ = some (.int .i64 o.m.tt) ∧ W.cell? ⟨gs, got * 11 + 3, none⟩ = some (.int .i64 o.m.g) ∧ W.cell? ⟨gs, got * 11 + 4, none⟩ = some (.int .i64 o.m.nd) ∧ W.cell? ⟨gs, got * 11 + 5, none⟩ = some (.int .i64 o.m.tr) ∧ W.cell? ⟨gs, got * 11 + 6, none⟩ = some (.int .i64 o.m.lw) ∧ W.cell? ⟨gs, got * 11 + 7, none⟩ = some (.int .i64 o.m.co) ∧ W.cell? ⟨gs, got * 11 + 8, none⟩ = some (.int .i64 o.m.ti) ∧ W.cell? ⟨gs, got * 11 + 9, none⟩ = some (.slice o.tA o.m.tl.length o.tc) ∧ W.cell? ⟨gs, got * 11 + 10, none⟩ = some (.slice o.oA o.m.os.length o.oc)) := Lib.hid (fun W hW => by
                have e := (hW.block _ (heap_lt hat9)).trans hat9
                have hr := hS9.row.below hW
                have hg := fun (i : Nat) (hi : i < 11) (u : Value) (hu : o.c[i]? = some u) => row_cell hr ((nots_get HX.out.1 hi).trans hu)
                exact ⟨cell_of e 0, cell_of e 1, cell_of e 2, cell_of e 3, cell_of e 4, cell_of e 5, cell_of e 6, cell_of e 7, cell_of e 8, cell_of e 9, cell_of e 10, hg 0 (by decide) _ rfl, hg 1 (by decide) _ rfl, hg 2 (by decide) _ rfl, hg 3 (by decide) _ rfl, hg 4 (by decide) _ rfl, hg 5 (by decide) _ rfl, hg 6 (by decide) _ rfl, hg 7 (by decide) _ rfl, hg 8 (by decide) _ rfl, hg 9 (by decide) _ rfl, hg 10 (by decide) _ rfl⟩)
              have HMM : Hid (∀ W, Below W9.heap.size W9 W → MsgIs W (.agg (cellM o.m xA xc yB yd)) o.m ∧ MsgIs W (.agg (cellM o.m o.tA o.tc o.oA o.oc)) o.m) := Lib.hid (fun W hW => ⟨HM2.out.below (hb9.trans (hW.mono hb9.size)), hS9.msgs o HX.out.2.1 W (.of_below hW)⟩)
              have hgI : (got : Int) < (S'.length : Int) := by have := HX.out.2.2; omega
              have hgN : got < S'.length := HX.out.2.2
              have hwg : IntKind.i64.wrap ((got : Int) + 1) = (got : Int) + 1 := IntWalk.i64_in _ (by have := HX.out.2.2; have := HS'.out.2.2.1; have := HL.out; omega)
              clear hn8 ht8 hdn hS8 hb9 hat9 hS9 hN9 hW9 hr9 h59
              go_upto_region 18 with fail
              rw [← HW9.out]
              refine wp_only ?_
              refine wp_region_held_drew (S := fun W => W.cell? ⟨w8.heap.size, 0, none⟩ = some (.int .i64 o.m.kd) ∧ W.cell? ⟨w8.heap.size, 1, none⟩ = some (.int .i64 o.m.fr) ∧ W.cell? ⟨w8.heap.size, 2, none⟩ = some (.int .i64 o.m.tt) ∧ W.cell? ⟨w8.heap.size, 3, none⟩ = some (.int .i64 o.m.g) ∧ W.cell? ⟨w8.heap.size, 4, none⟩ = some (.int .i64 o.m.nd) ∧ W.cell? ⟨w8.heap.size, 5, none⟩ = some (.int .i64 o.m.tr) ∧ W.cell? ⟨w8.heap.size, 6, none⟩ = some (.int .i64 o.m.lw) ∧ W.cell? ⟨w8.heap.size, 7, none⟩ = some (.int .i64 o.m.co) ∧ W.cell? ⟨w8.heap.size, 8, none⟩ = some (.int .i64 o.m.ti) ∧ W.cell? ⟨w8.heap.size, 9, none⟩ = some (.slice xA o.m.tl.length xc) ∧ W.cell? ⟨w8.heap.size, 10, none⟩ = some (.slice yB o.m.os.length yd) ∧ W.cell? ⟨gs, got * 11, none⟩ = some (.int .i64 o.m.kd) ∧ W.cell? ⟨gs, got * 11 + 1, none⟩ = some (.int .i64 o.m.fr) ∧ W.cell? ⟨gs, got * 11 + 2, none⟩ = some (.int .i64 o.m.tt) ∧ W.cell? ⟨gs, got * 11 + 3, none⟩ = some (.int .i64 o.m.g) ∧ W.cell? ⟨gs, got * 11 + 4, none⟩ = some (.int .i64 o.m.nd) ∧ W.cell? ⟨gs, got * 11 + 5, none⟩ = some (.int .i64 o.m.tr) ∧ W.cell? ⟨gs, got * 11 + 6, none⟩ = some (.int .i64 o.m.lw) ∧ W.cell? ⟨gs, got * 11 + 7, none⟩ = some (.int .i64 o.m.co) ∧ W.cell? ⟨gs, got * 11 + 8, none⟩ = some (.int .i64 o.m.ti) ∧ W.cell? ⟨gs, got * 11 + 9, none⟩ = some (.slice o.tA o.m.tl.length o.tc) ∧ W.cell? ⟨gs, got * 11 + 10, none⟩ = some (.slice o.oA o.m.os.length o.oc)) (by kernel_rfl) (HSC.out _ (below_drew (Below.refl _ _))) (fun hHeld => ?_)
              refine wpAnyH_take (i := 0) (oi := { dst := some 63, op := Op.move (Operand.tmp 12), type := 24, pos := "law.go:225", after := #[], guard := none }) (v := ?vv1) rfl (by kernel_rfl) (by kernel_rfl) (by kernel_rfl) (fun _ _ _ h => h) ?hy1 (by assumption) ?rest1
              case hy1 => (refine Or.inl ⟨by rfl, ?_⟩; intro W hSw; (try dsimp only at hSw); go_simp; (try with_reducible rfl))
              try simp only [Act.put, List.setIfInBounds_toArray, List.set_cons_zero, List.set_cons_succ]
              refine wpAnyH_take (i := 1) (oi := { dst := some 64, op := Op.binOp BinOp.neq 24 (Operand.tmp 63) (Operand.const (Value.int IntKind.i64 0)) 24, type := 4, pos := "law.go:225", after := #[{ on := 0, ground := Ground.data }], guard := none }) (v := ?vv2) rfl (by kernel_rfl) (by kernel_rfl) (by kernel_rfl) (fun _ _ _ h => h) ?hy2 (by assumption) ?rest2
              case hy2 => (refine Or.inl ⟨by rfl, ?_⟩; intro W hSw; (try dsimp only at hSw); go_simp; (try with_reducible rfl))
              try simp only [Act.put, List.setIfInBounds_toArray, List.set_cons_zero, List.set_cons_succ]
              refine wpAnyH_take (i := 2) (oi := { dst := some 65, op := Op.move (Operand.tmp 64), type := 4, pos := "law.go:225", after := #[{ on := 1, ground := Ground.data }], guard := none }) (v := ?vv3) rfl (by kernel_rfl) (by kernel_rfl) (by kernel_rfl) (fun _ _ _ h => h) ?hy3 (by assumption) ?rest3
              case hy3 => (refine Or.inl ⟨by rfl, ?_⟩; intro W hSw; (try dsimp only at hSw); go_simp; (try with_reducible rfl))
              try simp only [Act.put, List.setIfInBounds_toArray, List.set_cons_zero, List.set_cons_succ]
              refine wpAnyH_take (i := 3) (oi := { dst := some 66, op := Op.load 50 (Operand.tmp 11), type := 50, pos := "law.go:225", after := #[{ on := 2, ground := Ground.guard }], guard := some (2, false) }) (v := ?vv4) rfl (by kernel_rfl) (by kernel_rfl) (by kernel_rfl) (fun _ _ _ h => h) ?hy4 (by assumption) ?rest4
              case hy4 => (refine Or.inl ⟨by rfl, ?_⟩; intro W hSw; (try dsimp only at hSw); go_simp; (try with_reducible rfl))
              try simp only [Act.put, List.setIfInBounds_toArray, List.set_cons_zero, List.set_cons_succ]
              refine wpAnyH_take (i := 5) (oi := { dst := some 68, op := Op.move (Operand.tmp 7), type := 42, pos := "law.go:225", after := #[{ on := 2, ground := Ground.guard }], guard := some (2, false) }) (v := ?vv5) rfl (by kernel_rfl) (by kernel_rfl) (by kernel_rfl) (fun _ _ _ h => h) ?hy5 (by assumption) ?rest5
              case hy5 => (refine Or.inl ⟨by rfl, ?_⟩; intro W hSw; (try dsimp only at hSw); go_simp; (try with_reducible rfl))
              try simp only [Act.put, List.setIfInBounds_toArray, List.set_cons_zero, List.set_cons_succ]
              refine wpAnyH_take (i := 6) (oi := { dst := some 69, op := Op.move (Operand.tmp 8), type := 3, pos := "law.go:225", after := #[{ on := 2, ground := Ground.guard }], guard := some (2, false) }) (v := ?vv6) rfl (by kernel_rfl) (by kernel_rfl) (by kernel_rfl) (fun _ _ _ h => h) ?hy6 (by assumption) ?rest6
              case hy6 => (refine Or.inl ⟨by rfl, ?_⟩; intro W hSw; (try dsimp only at hSw); go_simp; (try with_reducible rfl))
              try simp only [Act.put, List.setIfInBounds_toArray, List.set_cons_zero, List.set_cons_succ]
              refine wpAnyH_take (i := 7) (oi := { dst := some 70, op := Op.indexAddr 42 (Operand.tmp 68) (Operand.tmp 69), type := 0, pos := "law.go:225", after := #[{ on := 5, ground := Ground.data }, { on := 6, ground := Ground.data }, { on := 2, ground := Ground.guard }], guard := some (2, false) }) (v := ?vv7) rfl (by kernel_rfl) (by kernel_rfl) (by kernel_rfl) (fun _ _ _ h => h) ?hy7 (by assumption) ?rest7
              case hy7 => (refine Or.inl ⟨by rfl, ?_⟩; intro W hSw; (try dsimp only at hSw); go_simp; (try with_reducible rfl))
              try simp only [Act.put, List.setIfInBounds_toArray, List.set_cons_zero, List.set_cons_succ]
              refine wpAnyH_take (i := 8) (oi := { dst := some 71, op := Op.load 37 (Operand.tmp 70), type := 37, pos := "law.go:225", after := #[{ on := 7, ground := Ground.data }, { on := 2, ground := Ground.guard }], guard := some (2, false) }) (v := ?vv8) rfl (by kernel_rfl) (by kernel_rfl) (by kernel_rfl) (fun _ _ _ h => h) ?hy8 (by assumption) ?rest8
              case hy8 => (refine Or.inl ⟨by rfl, ?_⟩; intro W hSw; (try dsimp only at hSw); go_simp; (try with_reducible rfl))
              try simp only [Act.put, List.setIfInBounds_toArray, List.set_cons_zero, List.set_cons_succ]
              refine wpAnyH_ready (rs := [4]) (by kernel_rfl) (by simp) ?_
              refine AllReadyH.cons (o := { dst := some 67, op := Op.call { callee := Callee.value (Operand.func 23), args := #[Operand.tmp 66], argTypes := #[50] }, type := 37, pos := "law.go:225", after := #[{ on := 3, ground := Ground.data }, { on := 2, ground := Ground.chain }, { on := 2, ground := Ground.guard }], guard := some (2, false) }) rfl (fun K hK => ?step9) ?more9
              case more9 => exact AllReadyH.nil
              ((go_simp; go_at_call 23; refine (plain_m (HMM.out _ (below_drew (Below.refl _ W9))).1).mono ?_; rintro e x1 ⟨rfl, hbn⟩; have X1 := Lib.hid (below_of_drew hbn); clear hbn; go_wp2_with fail))
              refine hK.out _ _ ?hS9 (fun hHeld => ?rr9)
              case hS9 => (exact HSC.out _ X1.out)
              clear hK K
              try simp only [Act.put, List.setIfInBounds_toArray, List.set_cons_zero, List.set_cons_succ]
              have HQ1 := Lib.hid (rsame_any (HMM.out _ X1.out).1 (HMM.out _ X1.out).2)
              rw [decide_eq_true (rfl : o.m = o.m)] at HQ1
              refine wpAnyH_ready (rs := [9]) (by kernel_rfl) (by simp) ?_
              refine AllReadyH.cons (o := { dst := some 72, op := Op.call { callee := Callee.value (Operand.func 22), args := #[Operand.tmp 67, Operand.tmp 71], argTypes := #[37, 37] }, type := 4, pos := "law.go:225", after := #[{ on := 4, ground := Ground.data }, { on := 8, ground := Ground.data }, { on := 4, ground := Ground.chain }, { on := 2, ground := Ground.guard }], guard := some (2, false) }) rfl (fun K hK => ?step10) ?more10
              case more10 => exact AllReadyH.nil
              ((go_simp; go_at_call 22; refine (HQ1.out).mono ?_; rintro e x2 ⟨rfl, hbn⟩; have X2 := Lib.hid (X1.out.trans (hbn.mono X1.out.size)); clear hbn; go_wp2_with fail))
              refine hK.out _ _ ?hS10 (fun hHeld => ?rr10)
              case hS10 => (exact HSC.out _ X2.out)
              clear hK K
              try simp only [Act.put, List.setIfInBounds_toArray, List.set_cons_zero, List.set_cons_succ]
              refine wpAnyH_take (i := 10) (oi := { dst := some 73, op := Op.unOp UnOp.not 4 (Operand.tmp 72), type := 4, pos := "law.go:225", after := #[{ on := 9, ground := Ground.data }, { on := 2, ground := Ground.guard }], guard := some (2, false) }) (v := ?vv11) rfl (by kernel_rfl) (by kernel_rfl) (by kernel_rfl) (fun _ _ _ h => h) ?hy11 (by assumption) ?rest11
              case hy11 => (refine Or.inl ⟨by rfl, ?_⟩; intro W hSw; (try dsimp only at hSw); go_simp; (try with_reducible rfl))
              try simp only [Act.put, List.setIfInBounds_toArray, List.set_cons_zero, List.set_cons_succ]
              refine wpAnyH_take (i := 11) (oi := { dst := some 74, op := Op.pick (Operand.tmp 65) (Operand.const (Value.bool true)) (Operand.tmp 73), type := 4, pos := "law.go:225", after := #[{ on := 2, ground := Ground.data }, { on := 10, ground := Ground.data }], guard := none }) (v := ?vv12) rfl (by kernel_rfl) (by kernel_rfl) (by kernel_rfl) (fun _ _ _ h => h) ?hy12 (by assumption) ?rest12
              case hy12 => (refine Or.inl ⟨by rfl, ?_⟩; intro W hSw; (try dsimp only at hSw); go_simp; (try with_reducible rfl))
              try simp only [Act.put, List.setIfInBounds_toArray, List.set_cons_zero, List.set_cons_succ]
              refine wpAnyH_done (by kernel_rfl) ?_ _
              clear hHeld
              dsimp only [onlyN]
              have HF9 := Lib.hid (And.intro (HN9.out.1.more X2.out) (HN9.out.2.add X2.out))
              go_wp2_with fail
              go_roundw
              case rel => exact ⟨i + 1, S', got + 1, _, HL.out.2.2.1, H40.out, by go_num, by go_num, HF9.out.1, HF9.out.2, HS'.out.2.2.1, HX.out.2.2⟩
              case measure => have := HL.out.2.2.1; simp [intOf]; omega
            · have hP : sentP (S'.map (·.m)) got = [] := by rw [sentP, List.drop_of_length_le (by rw [List.length_map]; omega)]; rfl
              have HDE := Lib.hid (nr_none (i := 0) HG.out.1 HS'.out.2.1 (by rw [hP]; simp))
              have hqd : (S'.length : Int) ≤ (got : Int) := by omega
              have hqn : S'.length ≤ got := by omega
              have HGE := Lib.hid hd
              clear hd hP
              go_wp2_with fail
              refine (HDE.out).mono ?_
              try clear hev yk
              rintro e w8 ⟨rfl, hn8, ht8⟩
              have hS8 := HS'.out.1.call ht8
              have hb9 := below_new (w := w8) (.cells zeroC 50)
              have HN9 := Lib.hid (And.intro (hS8.more hb9) (hn8.add hb9))
              clear hn8 ht8 hS8 hb9
              go_wp2_with fail
              go_roundw
              case rel => exact ⟨i + 1, S', got, _, HL.out.2.2.1, H40.out, by go_num, rfl, HN9.out.1, HN9.out.2, HS'.out.2.2.1, HS'.out.2.2.2⟩
              case measure => have := HL.out.2.2.1; simp [intOf]; omega
        · have hq1 : decide ((i : Int) < (ks.length : Int)) = false := by simp; omega
          clear hY
          by_cases hd : got < S'.length
          · have hx : S'[got]? = some S'[got] := List.getElem?_eq_getElem hd
            generalize S'[got] = o at hx
            have ho := List.mem_of_getElem? hx
            have hmy := HS'.out.1.may o ho
            have hp : (sentP (S'.map (·.m)) got)[0]? = some (encM o.m, siteM o.m, 0) := sentP_first (by rw [List.getElem?_map, hx]; rfl)
            have HDE := Lib.hid (nr_deliver HG.out.1 HG.out.2 HS'.out.2.1 hp rfl (site_in hmy.1))
            have HMY := Lib.hid hmy
            have HX := Lib.hid (And.intro hx (And.intro ho hd))
            have hqd : ¬ ((S'.length : Int) ≤ (got : Int)) := by omega
            have hqn : ¬ (S'.length ≤ got) := by omega
            clear hx ho hmy hp hd
            go_wp2_with fail
            refine (HDE.out).mono ?_
            try clear hev yk
            rintro e w8 ⟨⟨hn8, ht8⟩, hcs⟩
            rcases hcs with ⟨hdn, _⟩ | ⟨m2, v2, hdn, rfl, hm2⟩
            · rw [decM_back HMY.out.1 HMY.out.2] at hdn; cases hdn
            obtain rfl : o.m = m2 := Option.some.inj ((decM_back HMY.out.1 HMY.out.2).symm.trans hdn)
            have HM2 := Lib.hid hm2
            obtain ⟨xA, xc, yB, yd, rfl, _⟩ := hm2
            have hS8 := HS'.out.1.call ht8
            have hb9 := below_new (w := w8) (.cells (cellM o.m xA xc yB yd) 50)
            have hat9 := alloc_at w8 (.cells (cellM o.m xA xc yB yd) 50)
            obtain ⟨W9, hW9⟩ : ∃ W, W = w8.alloc (.cells (cellM o.m xA xc yB yd) 50) := ⟨_, rfl⟩
            rw [← hW9] at hb9 hat9
            have hS9 := hS8.more hb9
            have hN9 := hn8.add hb9
            rw [sentP_next] at hN9
            have HN9 := Lib.hid (And.intro hS9 hN9)
            have HW9 := Lib.hid hW9
            have hr9 := hS9.row
            obtain ⟨A9, cp9, he9, _, _, _, _, h59⟩ := hr9.form
            obtain ⟨gs, hgs, _⟩ := h59 (got * 11 + 0) (.int .i64 o.m.kd) ((nots_get HX.out.1 (by decide : 0 < 11)).trans rfl)
            cases he9
            subst hgs
            have HSC : Hid (∀ W, Below W9.heap.size W9 W → W.cell? ⟨w8.heap.size, 0, none⟩ = some (.int .i64 o.m.kd) ∧ W.cell? ⟨w8.heap.size, 1, none⟩ = some (.int .i64 o.m.fr) ∧ W.cell? ⟨w8.heap.size, 2, none⟩ = some (.int .i64 o.m.tt) ∧ W.cell? ⟨w8.heap.size, 3, none⟩ = some (.int .i64 o.m.g) ∧ W.cell? ⟨w8.heap.size, 4, none⟩ = some (.int .i64 o.m.nd) ∧ W.cell? ⟨w8.heap.size, 5, none⟩ = some (.int .i64 o.m.tr) ∧ W.cell? ⟨w8.heap.size, 6, none⟩ = some (.int .i64 o.m.lw) ∧ W.cell? ⟨w8.heap.size, 7, none⟩ = some (.int .i64 o.m.co) ∧ W.cell? ⟨w8.heap.size, 8, none⟩ = some (.int .i64 o.m.ti) ∧ W.cell? ⟨w8.heap.size, 9, none⟩ = some (.slice xA o.m.tl.length xc) ∧ W.cell? ⟨w8.heap.size, 10, none⟩ = some (.slice yB o.m.os.length yd) ∧ W.cell? ⟨gs, got * 11, none⟩ = some (.int .i64 o.m.kd) ∧ W.cell? ⟨gs, got * 11 + 1, none⟩ = some (.int .i64 o.m.fr) ∧ W.cell? ⟨gs, got * 11 + 2, none⟩ = some (.int .i64 o.m.tt) ∧ W.cell? ⟨gs, got * 11 + 3, none⟩ = some (.int .i64 o.m.g) ∧ W.cell? ⟨gs, got * 11 + 4, none⟩ = some (.int .i64 o.m.nd) ∧ W.cell? ⟨gs, got * 11 + 5, none⟩ = some (.int .i64 o.m.tr) ∧ W.cell? ⟨gs, got * 11 + 6, none⟩ = some (.int .i64 o.m.lw) ∧ W.cell? ⟨gs, got * 11 + 7, none⟩ = some (.int .i64 o.m.co) ∧ W.cell? ⟨gs, got * 11 + 8, none⟩ = some (.int .i64 o.m.ti) ∧ W.cell? ⟨gs, got * 11 + 9, none⟩ = some (.slice o.tA o.m.tl.length o.tc) ∧ W.cell? ⟨gs, got * 11 + 10, none⟩ = some (.slice o.oA o.m.os.length o.oc)) := Lib.hid (fun W hW => by
              have e := (hW.block _ (heap_lt hat9)).trans hat9
              have hr := hS9.row.below hW
              have hg := fun (i : Nat) (hi : i < 11) (u : Value) (hu : o.c[i]? = some u) => row_cell hr ((nots_get HX.out.1 hi).trans hu)
              exact ⟨cell_of e 0, cell_of e 1, cell_of e 2, cell_of e 3, cell_of e 4, cell_of e 5, cell_of e 6, cell_of e 7, cell_of e 8, cell_of e 9, cell_of e 10, hg 0 (by decide) _ rfl, hg 1 (by decide) _ rfl, hg 2 (by decide) _ rfl, hg 3 (by decide) _ rfl, hg 4 (by decide) _ rfl, hg 5 (by decide) _ rfl, hg 6 (by decide) _ rfl, hg 7 (by decide) _ rfl, hg 8 (by decide) _ rfl, hg 9 (by decide) _ rfl, hg 10 (by decide) _ rfl⟩)
            have HMM : Hid (∀ W, Below W9.heap.size W9 W → MsgIs W (.agg (cellM o.m xA xc yB yd)) o.m ∧ MsgIs W (.agg (cellM o.m o.tA o.tc o.oA o.oc)) o.m) := Lib.hid (fun W hW => ⟨HM2.out.below (hb9.trans (hW.mono hb9.size)), hS9.msgs o HX.out.2.1 W (.of_below hW)⟩)
            have hgI : (got : Int) < (S'.length : Int) := by have := HX.out.2.2; omega
            have hgN : got < S'.length := HX.out.2.2
            have hwg : IntKind.i64.wrap ((got : Int) + 1) = (got : Int) + 1 := IntWalk.i64_in _ (by have := HX.out.2.2; have := HS'.out.2.2.1; have := HL.out; omega)
            clear hn8 ht8 hdn hS8 hb9 hat9 hS9 hN9 hW9 hr9 h59
            go_upto_region 18 with fail
            rw [← HW9.out]
            refine wp_only ?_
            refine wp_region_held_drew (S := fun W => W.cell? ⟨w8.heap.size, 0, none⟩ = some (.int .i64 o.m.kd) ∧ W.cell? ⟨w8.heap.size, 1, none⟩ = some (.int .i64 o.m.fr) ∧ W.cell? ⟨w8.heap.size, 2, none⟩ = some (.int .i64 o.m.tt) ∧ W.cell? ⟨w8.heap.size, 3, none⟩ = some (.int .i64 o.m.g) ∧ W.cell? ⟨w8.heap.size, 4, none⟩ = some (.int .i64 o.m.nd) ∧ W.cell? ⟨w8.heap.size, 5, none⟩ = some (.int .i64 o.m.tr) ∧ W.cell? ⟨w8.heap.size, 6, none⟩ = some (.int .i64 o.m.lw) ∧ W.cell? ⟨w8.heap.size, 7, none⟩ = some (.int .i64 o.m.co) ∧ W.cell? ⟨w8.heap.size, 8, none⟩ = some (.int .i64 o.m.ti) ∧ W.cell? ⟨w8.heap.size, 9, none⟩ = some (.slice xA o.m.tl.length xc) ∧ W.cell? ⟨w8.heap.size, 10, none⟩ = some (.slice yB o.m.os.length yd) ∧ W.cell? ⟨gs, got * 11, none⟩ = some (.int .i64 o.m.kd) ∧ W.cell? ⟨gs, got * 11 + 1, none⟩ = some (.int .i64 o.m.fr) ∧ W.cell? ⟨gs, got * 11 + 2, none⟩ = some (.int .i64 o.m.tt) ∧ W.cell? ⟨gs, got * 11 + 3, none⟩ = some (.int .i64 o.m.g) ∧ W.cell? ⟨gs, got * 11 + 4, none⟩ = some (.int .i64 o.m.nd) ∧ W.cell? ⟨gs, got * 11 + 5, none⟩ = some (.int .i64 o.m.tr) ∧ W.cell? ⟨gs, got * 11 + 6, none⟩ = some (.int .i64 o.m.lw) ∧ W.cell? ⟨gs, got * 11 + 7, none⟩ = some (.int .i64 o.m.co) ∧ W.cell? ⟨gs, got * 11 + 8, none⟩ = some (.int .i64 o.m.ti) ∧ W.cell? ⟨gs, got * 11 + 9, none⟩ = some (.slice o.tA o.m.tl.length o.tc) ∧ W.cell? ⟨gs, got * 11 + 10, none⟩ = some (.slice o.oA o.m.os.length o.oc)) (by kernel_rfl) (HSC.out _ (below_drew (Below.refl _ _))) (fun hHeld => ?_)
            refine wpAnyH_take (i := 0) (oi := { dst := some 63, op := Op.move (Operand.tmp 12), type := 24, pos := "law.go:225", after := #[], guard := none }) (v := ?vv13) rfl (by kernel_rfl) (by kernel_rfl) (by kernel_rfl) (fun _ _ _ h => h) ?hy13 (by assumption) ?rest13
            case hy13 => (refine Or.inl ⟨by rfl, ?_⟩; intro W hSw; (try dsimp only at hSw); go_simp; (try with_reducible rfl))
            try simp only [Act.put, List.setIfInBounds_toArray, List.set_cons_zero, List.set_cons_succ]
            refine wpAnyH_take (i := 1) (oi := { dst := some 64, op := Op.binOp BinOp.neq 24 (Operand.tmp 63) (Operand.const (Value.int IntKind.i64 0)) 24, type := 4, pos := "law.go:225", after := #[{ on := 0, ground := Ground.data }], guard := none }) (v := ?vv14) rfl (by kernel_rfl) (by kernel_rfl) (by kernel_rfl) (fun _ _ _ h => h) ?hy14 (by assumption) ?rest14
            case hy14 => (refine Or.inl ⟨by rfl, ?_⟩; intro W hSw; (try dsimp only at hSw); go_simp; (try with_reducible rfl))
            try simp only [Act.put, List.setIfInBounds_toArray, List.set_cons_zero, List.set_cons_succ]
            refine wpAnyH_take (i := 2) (oi := { dst := some 65, op := Op.move (Operand.tmp 64), type := 4, pos := "law.go:225", after := #[{ on := 1, ground := Ground.data }], guard := none }) (v := ?vv15) rfl (by kernel_rfl) (by kernel_rfl) (by kernel_rfl) (fun _ _ _ h => h) ?hy15 (by assumption) ?rest15
            case hy15 => (refine Or.inl ⟨by rfl, ?_⟩; intro W hSw; (try dsimp only at hSw); go_simp; (try with_reducible rfl))
            try simp only [Act.put, List.setIfInBounds_toArray, List.set_cons_zero, List.set_cons_succ]
            refine wpAnyH_take (i := 3) (oi := { dst := some 66, op := Op.load 50 (Operand.tmp 11), type := 50, pos := "law.go:225", after := #[{ on := 2, ground := Ground.guard }], guard := some (2, false) }) (v := ?vv16) rfl (by kernel_rfl) (by kernel_rfl) (by kernel_rfl) (fun _ _ _ h => h) ?hy16 (by assumption) ?rest16
            case hy16 => (refine Or.inl ⟨by rfl, ?_⟩; intro W hSw; (try dsimp only at hSw); go_simp; (try with_reducible rfl))
            try simp only [Act.put, List.setIfInBounds_toArray, List.set_cons_zero, List.set_cons_succ]
            refine wpAnyH_take (i := 5) (oi := { dst := some 68, op := Op.move (Operand.tmp 7), type := 42, pos := "law.go:225", after := #[{ on := 2, ground := Ground.guard }], guard := some (2, false) }) (v := ?vv17) rfl (by kernel_rfl) (by kernel_rfl) (by kernel_rfl) (fun _ _ _ h => h) ?hy17 (by assumption) ?rest17
            case hy17 => (refine Or.inl ⟨by rfl, ?_⟩; intro W hSw; (try dsimp only at hSw); go_simp; (try with_reducible rfl))
            try simp only [Act.put, List.setIfInBounds_toArray, List.set_cons_zero, List.set_cons_succ]
            refine wpAnyH_take (i := 6) (oi := { dst := some 69, op := Op.move (Operand.tmp 8), type := 3, pos := "law.go:225", after := #[{ on := 2, ground := Ground.guard }], guard := some (2, false) }) (v := ?vv18) rfl (by kernel_rfl) (by kernel_rfl) (by kernel_rfl) (fun _ _ _ h => h) ?hy18 (by assumption) ?rest18
            case hy18 => (refine Or.inl ⟨by rfl, ?_⟩; intro W hSw; (try dsimp only at hSw); go_simp; (try with_reducible rfl))
            try simp only [Act.put, List.setIfInBounds_toArray, List.set_cons_zero, List.set_cons_succ]
            refine wpAnyH_take (i := 7) (oi := { dst := some 70, op := Op.indexAddr 42 (Operand.tmp 68) (Operand.tmp 69), type := 0, pos := "law.go:225", after := #[{ on := 5, ground := Ground.data }, { on := 6, ground := Ground.data }, { on := 2, ground := Ground.guard }], guard := some (2, false) }) (v := ?vv19) rfl (by kernel_rfl) (by kernel_rfl) (by kernel_rfl) (fun _ _ _ h => h) ?hy19 (by assumption) ?rest19
            case hy19 => (refine Or.inl ⟨by rfl, ?_⟩; intro W hSw; (try dsimp only at hSw); go_simp; (try with_reducible rfl))
            try simp only [Act.put, List.setIfInBounds_toArray, List.set_cons_zero, List.set_cons_succ]
            refine wpAnyH_take (i := 8) (oi := { dst := some 71, op := Op.load 37 (Operand.tmp 70), type := 37, pos := "law.go:225", after := #[{ on := 7, ground := Ground.data }, { on := 2, ground := Ground.guard }], guard := some (2, false) }) (v := ?vv20) rfl (by kernel_rfl) (by kernel_rfl) (by kernel_rfl) (fun _ _ _ h => h) ?hy20 (by assumption) ?rest20
            case hy20 => (refine Or.inl ⟨by rfl, ?_⟩; intro W hSw; (try dsimp only at hSw); go_simp; (try with_reducible rfl))
            try simp only [Act.put, List.setIfInBounds_toArray, List.set_cons_zero, List.set_cons_succ]
            refine wpAnyH_ready (rs := [4]) (by kernel_rfl) (by simp) ?_
            refine AllReadyH.cons (o := { dst := some 67, op := Op.call { callee := Callee.value (Operand.func 23), args := #[Operand.tmp 66], argTypes := #[50] }, type := 37, pos := "law.go:225", after := #[{ on := 3, ground := Ground.data }, { on := 2, ground := Ground.chain }, { on := 2, ground := Ground.guard }], guard := some (2, false) }) rfl (fun K hK => ?step21) ?more21
            case more21 => exact AllReadyH.nil
            ((go_simp; go_at_call 23; refine (plain_m (HMM.out _ (below_drew (Below.refl _ W9))).1).mono ?_; rintro e x1 ⟨rfl, hbn⟩; have X1 := Lib.hid (below_of_drew hbn); clear hbn; go_wp2_with fail))
            refine hK.out _ _ ?hS21 (fun hHeld => ?rr21)
            case hS21 => (exact HSC.out _ X1.out)
            clear hK K
            try simp only [Act.put, List.setIfInBounds_toArray, List.set_cons_zero, List.set_cons_succ]
            have HQ1 := Lib.hid (rsame_any (HMM.out _ X1.out).1 (HMM.out _ X1.out).2)
            rw [decide_eq_true (rfl : o.m = o.m)] at HQ1
            refine wpAnyH_ready (rs := [9]) (by kernel_rfl) (by simp) ?_
            refine AllReadyH.cons (o := { dst := some 72, op := Op.call { callee := Callee.value (Operand.func 22), args := #[Operand.tmp 67, Operand.tmp 71], argTypes := #[37, 37] }, type := 4, pos := "law.go:225", after := #[{ on := 4, ground := Ground.data }, { on := 8, ground := Ground.data }, { on := 4, ground := Ground.chain }, { on := 2, ground := Ground.guard }], guard := some (2, false) }) rfl (fun K hK => ?step22) ?more22
            case more22 => exact AllReadyH.nil
            ((go_simp; go_at_call 22; refine (HQ1.out).mono ?_; rintro e x2 ⟨rfl, hbn⟩; have X2 := Lib.hid (X1.out.trans (hbn.mono X1.out.size)); clear hbn; go_wp2_with fail))
            refine hK.out _ _ ?hS22 (fun hHeld => ?rr22)
            case hS22 => (exact HSC.out _ X2.out)
            clear hK K
            try simp only [Act.put, List.setIfInBounds_toArray, List.set_cons_zero, List.set_cons_succ]
            refine wpAnyH_take (i := 10) (oi := { dst := some 73, op := Op.unOp UnOp.not 4 (Operand.tmp 72), type := 4, pos := "law.go:225", after := #[{ on := 9, ground := Ground.data }, { on := 2, ground := Ground.guard }], guard := some (2, false) }) (v := ?vv23) rfl (by kernel_rfl) (by kernel_rfl) (by kernel_rfl) (fun _ _ _ h => h) ?hy23 (by assumption) ?rest23
            case hy23 => (refine Or.inl ⟨by rfl, ?_⟩; intro W hSw; (try dsimp only at hSw); go_simp; (try with_reducible rfl))
            try simp only [Act.put, List.setIfInBounds_toArray, List.set_cons_zero, List.set_cons_succ]
            refine wpAnyH_take (i := 11) (oi := { dst := some 74, op := Op.pick (Operand.tmp 65) (Operand.const (Value.bool true)) (Operand.tmp 73), type := 4, pos := "law.go:225", after := #[{ on := 2, ground := Ground.data }, { on := 10, ground := Ground.data }], guard := none }) (v := ?vv24) rfl (by kernel_rfl) (by kernel_rfl) (by kernel_rfl) (fun _ _ _ h => h) ?hy24 (by assumption) ?rest24
            case hy24 => (refine Or.inl ⟨by rfl, ?_⟩; intro W hSw; (try dsimp only at hSw); go_simp; (try with_reducible rfl))
            try simp only [Act.put, List.setIfInBounds_toArray, List.set_cons_zero, List.set_cons_succ]
            refine wpAnyH_done (by kernel_rfl) ?_ _
            clear hHeld
            dsimp only [onlyN]
            have HF9 := Lib.hid (And.intro (HN9.out.1.more X2.out) (HN9.out.2.add X2.out))
            go_wp2_with fail
            go_roundw
            case rel => exact ⟨i + 1, S', got + 1, _, HL.out.2.2.1, H40.out, by go_num, by go_num, HF9.out.1, HF9.out.2, HS'.out.2.2.1, HX.out.2.2⟩
            case measure => have := HL.out.2.2.1; simp [intOf]; omega
          · have hP : sentP (S'.map (·.m)) got = [] := by rw [sentP, List.drop_of_length_le (by rw [List.length_map]; omega)]; rfl
            have HDE := Lib.hid (nr_none (i := 0) HG.out.1 HS'.out.2.1 (by rw [hP]; simp))
            have hqd : (S'.length : Int) ≤ (got : Int) := by omega
            have hqn : S'.length ≤ got := by omega
            have HGE := Lib.hid hd
            clear hd hP
            go_wp2_with fail
            refine (HDE.out).mono ?_
            try clear hev yk
            rintro e w8 ⟨rfl, hn8, ht8⟩
            have hS8 := HS'.out.1.call ht8
            have hb9 := below_new (w := w8) (.cells zeroC 50)
            have HN9 := Lib.hid (And.intro (hS8.more hb9) (hn8.add hb9))
            clear hn8 ht8 hS8 hb9
            go_wp2_with fail
            go_roundw
            case rel => exact ⟨i + 1, S', got, _, HL.out.2.2.1, H40.out, by go_num, rfl, HN9.out.1, HN9.out.2, HS'.out.2.2.1, HS'.out.2.2.2⟩
            case measure => have := HL.out.2.2.1; simp [intOf]; omega
      · have hq40 : decide ((i : Int) ≥ 40) = true := by simp; omega
        have hS2 := hS.more hb2
        have hN2 := hN.add hb2
        have HSN := Lib.hid (And.intro hS2 hN2)
        have HLE := Lib.hid (nr_len hN2)
        have HAW := Lib.hid (nawake (HG.out.1.below hS2.bel) (HG.out.2.below hS2.bel))
        rw [sentP_len, List.length_map] at HLE
        have hwd : IntKind.i64.wrap ((S.length : Int) - (got : Int)) = (S.length : Int) - (got : Int) := IntWalk.i64_in _ (by omega)
        have hqe : (((S.length - got : Nat) : Int) == (S.length : Int) - (got : Int)) = true := by simp; omega
        clear hM hnm hom hm hS hN hSi hgS hlt hi40 h40 hb2 hB2 hW2 q1 hS2 hN2 hat2
        go_upto_region 22 with fail
        rw [← HW2.out]
        clear m0 m1 m2 m3 m4 m5 m6 m7 m8 m9 m10
        go_wp2_with fail
        refine (HLE.out).mono ?_
        rintro e w2 ⟨rfl, rfl⟩
        go_wp2_with fail
        refine (HAW.out).mono ?_
        rintro e w3 ⟨rfl, hb3⟩
        have HB3 := Lib.hid (HSN.out.1.bel.trans (hb3.mono HSN.out.1.bel.size))
        clear hb3
        go_wp2_with fail
        go_ret
        exact ⟨rfl, HB3.out⟩
    · obtain rfl : i = n := by omega
      have HSN := Lib.hid (And.intro hS hN)
      have HGL := Lib.hid (And.intro hgS (show S.length ≤ 40 by omega))
      have HLE := Lib.hid (nr_len hN)
      have HAW := Lib.hid (nawake (HG.out.1.below hS.bel) (HG.out.2.below hS.bel))
      rw [sentP_len, List.length_map] at HLE
      have hwd : IntKind.i64.wrap ((S.length : Int) - (got : Int)) = (S.length : Int) - (got : Int) := IntWalk.i64_in _ (by omega)
      have hqe : (((S.length - got : Nat) : Int) == (S.length : Int) - (got : Int)) = true := by simp; omega
      obtain ⟨sA, sc, rfl, _⟩ := id hS.row.form
      clear hS hN hSi hgS
      go_wp2_with fail
      refine (HLE.out).mono ?_
      rintro e w2 ⟨rfl, rfl⟩
      go_wp2_with fail
      refine (HAW.out).mono ?_
      rintro e w3 ⟨rfl, hb3⟩
      have HB3 := Lib.hid (HSN.out.1.bel.trans (hb3.mono HSN.out.1.bel.size))
      clear hb3
      go_wp2_with fail
      go_ret
      exact ⟨rfl, HB3.out⟩
end Go.Proofs.YtabfbnpbgdlinaaGreatDoor
