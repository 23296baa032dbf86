/- Circles, walked: all that stand in a circle, rising. -/
import Derived.Test.YtlbhpeeggbfcpaaZWib
import Derived.Test.YtlbhpeeggbfcpaaZWaiI
set_option linter.unusedSimpArgs false
set_option linter.unusedVariables false
set_option linter.unnecessarySimpa false
namespace Go.Proofs.Ytlbhpeeggbfcpaa
open Go.RowKit Go.Shelf
open Go.Maps (Keyed)
attribute [local go_sem] Oper.semAt_some

/-- Where a region ends in no other way. -/
def onlyN (R : Act → World → Prop) : Exit → Act → World → Prop
  | .normal, a, w => R a w
  | _, _, _ => False
theorem wp_only {P : Program} {c : Code} {Q : Exit → Act → World → Prop} {a : Act} {w : World} (h : c.wp P (onlyN fun a w => Q .normal a w) a w) : c.wp P Q a w :=
  Code.wp_mono (fun e a w h => by
    cases e
    case normal => exact h
    all_goals exact h.elim) h
set_option maxRecDepth 100000 in
set_option maxHeartbeats 4000000 in
theorem circles_any {w : World} {v : Value} {l : List (Int × Int)} (h : EIs w v l) (hr : ∀ e ∈ l, InR64 e.1 ∧ InR64 e.2) (hl5 : l.length ≤ 500) :
    Calls Try.prog 12 #[v] w fun e w' => ∃ v' c, e = .returned v' ∧ CircP l c ∧ RowIs w' 1 v' c.length (ints c) ∧ (∀ k, v'.ownBlock = some k → w.heap.size ≤ k) ∧ Below w.heap.size w w' := by
  have hl : l.length ≤ 1000 := by omega
  have HG := Lib.hid (graph_any h hr hl)
  have HE := Lib.hid h
  clear h
  refine (callsIn_wide (n := 9)).1 ?_
  refine callsIn_of_wp_marks Try.func12 rfl trivial ?_ rfl
  simp only [Try.ntmps12, List.size_toArray, List.length_cons, List.length_nil, Nat.reduceAdd, Nat.reduceSub, Array.replicate_succ, Array.replicate_zero, List.push_toArray, List.append_toArray, List.nil_append, List.cons_append]
  refine wpIn_wide.2 ?_
  go_wp2_with fail
  refine (HG.out).mono ?_
  rintro e w1 ⟨g, L, clock, rfl, hg, hb⟩
  have HT := Lib.hid (turn_any (HE.out.below hb) hl)
  have HG1 := Lib.hid hg
  have HB1 := Lib.hid hb
  clear hg hb HG
  go_wp2_with fail
  refine (HT.out).mono ?_
  rintro e w2 ⟨v2, rfl, hv2, hb2⟩
  have hsw : ∀ e ∈ swapE l, InR64 e.1 ∧ InR64 e.2 := fun e he => by
    unfold swapE at he
    obtain ⟨e0, h0, rfl⟩ := List.mem_map.1 he
    exact ⟨(hr e0 h0).2, (hr e0 h0).1⟩
  have HG2 := Lib.hid (graph_any hv2 hsw (by unfold swapE; rw [List.length_map]; exact hl))
  have HB2 := Lib.hid hb2
  clear hv2 hb2 HT hsw
  go_wp2_with fail
  refine (HG2.out).mono ?_
  rintro e w3 ⟨g2, L2, clock2, rfl, hg2, hb3⟩
  have HG3 := Lib.hid hg2
  have HB3 := Lib.hid hb3
  clear hg2 hb3 HG2
  go_wp2_with fail
  obtain ⟨w4, hw4⟩ : ∃ w4, w4 = w3.alloc (.cells #[.map (some g)] 66) := ⟨_, rfl⟩
  have hb4 : Below w3.heap.size w3 w4 := by rw [hw4]; exact below_new _
  have hc4 : w4.cell? ⟨w3.heap.size, 0, none⟩ = some (.map (some g)) := by rw [hw4]; exact cell_of (alloc_at w3 _) 0
  have hs4 : w4.heap.size = w3.heap.size + 1 := by rw [hw4, asz]
  rw [← hw4]
  clear hw4
  have hbw : Below w.heap.size w w4 := ((HB1.out.trans (HB2.out.mono HB1.out.size)).trans (HB3.out.mono (Nat.le_trans HB1.out.size HB2.out.size))).trans (hb4.mono (Nat.le_trans HB1.out.size (Nat.le_trans HB2.out.size HB3.out.size)))
  have HBW := Lib.hid hbw
  have hnd := HG1.out.nodup
  rw [keys_graphR] at hnd
  have hnd2 := HG3.out.nodup
  rw [keys_graphR] at hnd2
  have HGA := Lib.hid (((HG1.out.below HB2.out).below HB3.out).below hb4)
  have HGB := Lib.hid (HG3.out.below hb4)
  have hown1 : ∀ e ∈ L, ∀ k, e.val.ownBlock = some k → k < w4.heap.size := fun e he k hk => by
    obtain ⟨j, hj⟩ := List.getElem?_of_mem he
    have h1 : j < (graphR l).length := by rw [← HGA.out.len]; exact (List.getElem?_eq_some_iff.1 hj).1
    exact (HGA.out.each j e _ hj (List.getElem?_eq_getElem h1)).2.lt k hk
  have hown2 : ∀ e ∈ L2, ∀ k, e.val.ownBlock = some k → k < w4.heap.size := fun e he k hk => by
    obtain ⟨j, hj⟩ := List.getElem?_of_mem he
    have h1 : j < (graphR (swapE l)).length := by rw [← HGB.out.len]; exact (List.getElem?_eq_some_iff.1 hj).1
    exact (HGB.out.each j e _ hj (List.getElem?_eq_getElem h1)).2.lt k hk
  have HO1 := Lib.hid hown1
  have HO2 := Lib.hid hown2
  have hlw : (swapE l).length ≤ 1000 := by unfold swapE; rw [List.length_map]; exact hl
  have HS1 : Hid (((graphR l).map fun e => e.2.length).sum ≤ 1000) := Lib.hid (Nat.le_trans (sum_graphR hnd) hl)
  have HS2 : Hid (((graphR (swapE l)).map fun e => e.2.length).sum ≤ 1000) := Lib.hid (Nat.le_trans (sum_graphR hnd2) hlw)
  have HN1 := Lib.hid (num_graphR hnd hr)
  have HN2 := Lib.hid (num_graphR (l := swapE l) hnd2 (fun e he => by
    unfold swapE at he
    obtain ⟨e0, h0, rfl⟩ := List.mem_map.1 he
    exact ⟨(hr e0 h0).2, (hr e0 h0).1⟩))
  have HND := Lib.hid hnd
  have hlen1 := graphR_len hnd
  have HL1 := Lib.hid hlen1
  have HS4 := Lib.hid hs4
  have HC4 := Lib.hid hc4
  have HGLT := Lib.hid HGA.out.map.lt
  have HGLT2 := Lib.hid HGB.out.map.lt
  clear hb4 hbw hnd hnd2 hown1 hown2 hlw hlen1 HG1 HG3 HB1 HB2 HB3
  have HO := Lib.hid (over_any w4.drew g)
  refine wp_only ?_
  refine wp_region_held_drew (S := fun W => W.cell? ⟨w3.heap.size, 0, none⟩ = some (.map (some g))) (by kernel_rfl) hc4 (fun hHeld => ?_)
  clear hc4 hs4
  refine wpAnyH_take (i := 0) (oi := { dst := some 16, op := Op.load 66 (Operand.tmp 3), type := 66, pos := "wait.go:13", after := #[], guard := none }) (v := ?vv1) rfl (by kernel_rfl) (by kernel_rfl) (by kernel_rfl) (fun _ _ _ h => h) ?hy1 (by assumption) ?rest1
  case hy1 => (refine Or.inl ⟨by rfl, ?_⟩; intro W hSw; (try dsimp only at hSw); go_simp; (try with_reducible rfl))
  try simp only [Act.put, List.setIfInBounds_toArray, List.set_cons_zero, List.set_cons_succ]
  refine wpAnyH_take (i := 2) (oi := { dst := some 18, op := Op.load 66 (Operand.tmp 3), type := 66, pos := "wait.go:13", after := #[], guard := none }) (v := ?vv2) rfl (by kernel_rfl) (by kernel_rfl) (by kernel_rfl) (fun _ _ _ h => h) ?hy2 (by assumption) ?rest2
  case hy2 => (refine Or.inl ⟨by rfl, ?_⟩; intro W hSw; (try dsimp only at hSw); go_simp; (try with_reducible rfl))
  try simp only [Act.put, List.setIfInBounds_toArray, List.set_cons_zero, List.set_cons_succ]
  refine wpAnyH_ready (rs := [1]) (by kernel_rfl) (by simp) ?_
  refine AllReadyH.cons (o := { dst := some 17, op := Op.call { callee := Callee.value (Operand.func 28), args := #[Operand.tmp 16], argTypes := #[66] }, type := 71, pos := "wait.go:13", after := #[{ on := 0, ground := Ground.data }], guard := none }) rfl (fun K hK => ?step3) ?more3
  case more3 => exact AllReadyH.nil
  ((go_simp; go_at_call 28; refine (HO.out).mono ?_; rintro e w5 ⟨m1, rfl, hm1, hn5, hb5⟩; go_wp2_with fail))
  refine hK.out _ _ ?hS3 (fun hHeld => ?rr3)
  case hS3 => (exact (World.cell?_of_block (a := ⟨w3.heap.size, 0, none⟩) (hb5.block w3.heap.size (by have e : w4.drew.heap.size = w4.heap.size := rfl; have := HS4.out; omega))).trans HC4.out)
  clear hK K
  try simp only [Act.put, List.setIfInBounds_toArray, List.set_cons_zero, List.set_cons_succ]
  have hb5' : Below w4.heap.size w4 w5 := (below_drew (Below.refl _ w4)).trans hb5
  have hm1' : w4.heap.size ≤ m1 := hm1
  have HAL := Lib.hid (all_any (HGA.out.below hb5') (key_num hr) (by have := HL1.out; omega))
  have HM1 := Lib.hid hm1'
  have HN5 := Lib.hid hn5
  have HB5 := Lib.hid hb5'
  clear hb5' hm1' hm1 hn5 hb5
  refine wpAnyH_ready (rs := [3]) (by kernel_rfl) (by simp) ?_
  refine AllReadyH.cons (o := { dst := some 19, op := Op.call { callee := Callee.value (Operand.func 30), args := #[Operand.tmp 18], argTypes := #[66] }, type := 30, pos := "wait.go:13", after := #[{ on := 2, ground := Ground.data }, { on := 1, ground := Ground.chain }], guard := none }) rfl (fun K hK => ?step4) ?more4
  case more4 => exact AllReadyH.nil
  ((go_simp; go_at_call 30; refine (HAL.out).mono ?_; rintro e w6 ⟨kv, ns, rfl, hkv, hp, hrise, hko, hb6⟩; go_wp2_with fail))
  refine hK.out _ _ ?hS4 (fun hHeld => ?rr4)
  case hS4 => (exact (World.cell?_of_block (a := ⟨w3.heap.size, 0, none⟩) ((hb6.block w3.heap.size (by have := HS4.out; have := HB5.out.size; omega)).trans (HB5.out.block w3.heap.size (by have := HS4.out; omega)))).trans HC4.out)
  clear hK K
  try simp only [Act.put, List.setIfInBounds_toArray, List.set_cons_zero, List.set_cons_succ]
  have hks := keys_of HND.out hp hrise
  have hb46 : Below w4.heap.size w4 w6 := HB5.out.trans (hb6.mono HB5.out.size)
  have HF := Lib.hid (from_any (HGA.out.below hb46) (HN5.out.keep (hb6.block m1 HN5.out.map.lt)) (fun e => by have := HGLT.out; have := HM1.out; omega) (fun e he k hk => by have := HO1.out e he k hk; have := HM1.out; omega) (inv_nil _) (hkv.xis (fun e => by have := hko m1 e; have := HN5.out.map.lt; omega)) (hks.num hr) HN1.out HS1.out (by have := hks.few; omega))
  have HKS := Lib.hid hks
  have HB46 := Lib.hid hb46
  clear hks hb46 hkv hp hrise hko hb6 HAL HO
  refine wpAnyH_ready (rs := [4]) (by kernel_rfl) (by simp) ?_
  refine AllReadyH.cons (o := { dst := some 20, op := Op.call { callee := Callee.value (Operand.func 29), args := #[Operand.tmp 17, Operand.tmp 19], argTypes := #[71, 30] }, type := 30, pos := "wait.go:13", after := #[{ on := 1, ground := Ground.data }, { on := 3, ground := Ground.data }, { on := 3, ground := Ground.chain }], guard := none }) rfl (fun K hK => ?step5) ?more5
  case more5 => exact AllReadyH.nil
  ((go_simp; go_at_call 29; refine (HF.out).mono ?_; rintro e w7 ⟨v7, N7, left, L7, c7, rfl, hn7, hv7, hf7, hi7, ho7, ht7, hl7, hu7⟩; go_wp2_with fail))
  refine hK.out _ _ ?hS5 (fun hHeld => ?rr5)
  case hS5 => (exact (World.cell?_of_block (a := ⟨w3.heap.size, 0, none⟩) ((ht7.block w3.heap.size (by have := HS4.out; have := HB46.out.size; omega) (fun e => by have e : w3.heap.size = m1 := e; have := HM1.out; have := HS4.out; omega)).trans (HB46.out.block w3.heap.size (by have := HS4.out; omega)))).trans HC4.out)
  clear hK K
  try simp only [Act.put, List.setIfInBounds_toArray, List.set_cons_zero, List.set_cons_succ]
  refine wpAnyH_take (i := 5) (oi := { dst := some 5, op := Op.assign (Operand.tmp 20), type := 30, pos := "wait.go:13", after := #[{ on := 4, ground := Ground.data }, { on := 4, ground := Ground.chain }, { on := 0, ground := Ground.phase }, { on := 1, ground := Ground.phase }, { on := 2, ground := Ground.phase }, { on := 3, ground := Ground.phase }, { on := 4, ground := Ground.phase }], guard := none }) (v := ?vv6) rfl (by kernel_rfl) (by kernel_rfl) (by kernel_rfl) (fun _ _ _ h => h) ?hy6 (by assumption) ?rest6
  case hy6 => (refine Or.inl ⟨by rfl, ?_⟩; intro W hSw; (try dsimp only at hSw); go_simp; (try with_reducible rfl))
  try simp only [Act.put, List.setIfInBounds_toArray, List.set_cons_zero, List.set_cons_succ]
  refine wpAnyH_done (by kernel_rfl) ?_ _
  obtain ⟨hLI, hll, hlsub⟩ := left_of HKS.out hf7
  have hb47 : Below w4.heap.size w4 w7 := HB46.out.trans (ht7.below (fun k e => by have e : k = m1 := e; have := HM1.out; omega) HB46.out.size)
  obtain ⟨A7, c7', e7, hc71, hc72, _⟩ := hv7.form
  subst e7
  have HLI := Lib.hid hLI
  have HLL : Hid (left.length ≤ 1000) := Lib.hid (by omega)
  have HLS : Hid (∀ y ∈ left, InR64 y) := Lib.hid hu7
  have HB47 := Lib.hid hb47
  have HV7 := Lib.hid hv7
  have HO7 : Hid (∀ k, (Value.slice A7 left.length c7').ownBlock = some k → w4.heap.size ≤ k) := Lib.hid (fun k hk => by have := ho7 k hk; have := HB46.out.size; omega)
  have HC7 : Hid (w7.cell? ⟨w3.heap.size, 0, none⟩ = some (.map (some g))) := Lib.hid ((World.cell?_of_block (a := ⟨w3.heap.size, 0, none⟩) (hb47.block w3.heap.size (by have := HS4.out; omega))).trans HC4.out)
  have HGA7 := Lib.hid (HGA.out.below hb47)
  have HGB7 := Lib.hid (HGB.out.below hb47)
  clear hLI hll hlsub hb47 hn7 hv7 hf7 hi7 ho7 ht7 hl7 hu7 HF HN5 HKS HND HGA HGB HB5 HB46 HC4 HM1
  have HB := Lib.hid (over_any w7 g2)
  dsimp only [onlyN]
  go_wp2_with fail
  refine (HB.out).mono ?_
  rintro e w8 ⟨m, rfl, hm, hn8, hb8⟩
  have HM := Lib.hid hm
  have HN8 := Lib.hid hn8
  have HB8 := Lib.hid hb8
  clear hm hn8 hb8 HB
  go_wp2_with fail
  refine (back_any _ A7 left.length c7').mono ?_
  rintro e w9 ⟨rfl, hw9⟩
  have hs9 : w9.heap.size = w8.heap.size + 3 := by rw [hw9, asz, asz, asz]
  have hb79 : Below w7.heap.size w7 w9 := by
    rw [hw9]
    have := HB8.out.size
    exact (((HB8.out.trans ((below_new _).mono this)).trans ((below_new _).mono (by rw [asz]; omega))).trans ((below_new _).mono (by rw [asz, asz]; omega)))
  have hk6 : w9.heap[w8.heap.size]? = some (.cells #[.map (some g2), .map (some m)] 71 (0, 0)) := by
    rw [hw9, Below.heap_alloc _ _ _ (by rw [asz, asz]; omega), Below.heap_alloc _ _ _ (by rw [asz]; omega)]
    exact alloc_at w8 _
  have hk7 : w9.heap[w8.heap.size + 1]? = some (.cells #[.slice none 0 0] 30 (0, 0)) := by
    rw [hw9, Below.heap_alloc _ _ _ (by rw [asz, asz]; omega)]
    have := alloc_at (w8.alloc (.cells #[.map (some g2), .map (some m)] 71)) (.cells #[.slice none 0 0] 30)
    rw [asz] at this
    exact this
  have hk8 : w9.cell? ⟨w8.heap.size + 2, 0, none⟩ = some (.slice A7 left.length c7') := by
    have := cell_of (alloc_at ((w8.alloc (.cells #[.map (some g2), .map (some m)] 71)).alloc (.cells #[.slice none 0 0] 30)) (.cells #[.slice A7 left.length c7'] 30)) 0
    rw [asz, asz, ← hw9] at this
    exact this
  have hn9 : NAt Try.prog 3 w9 m [] [] 0 := by
    refine HN8.out.keep ?_
    have hlt := HN8.out.map.lt
    rw [hw9, Below.heap_alloc _ _ _ (by rw [asz, asz]; omega), Below.heap_alloc _ _ _ (by rw [asz]; omega), Below.heap_alloc _ _ _ hlt]
  have hm8 := HN8.out.map.lt
  rw [asz, asz]
  clear hw9
  have HM0 : Hid (CirM w9 w9 m (w8.heap.size + 1) [] (.slice none 0 0) []) := Lib.hid ⟨Touch.refl _ _, ⟨[], 0, hn9⟩, hk7, RowIs.nil _ _, ⟨by omega, by omega, by omega⟩, (fun k e => by cases e), fun _ => rfl⟩
  have HC7' : Hid (w9.cell? ⟨w3.heap.size, 0, none⟩ = some (.map (some g))) := Lib.hid ((World.cell?_of_block (a := ⟨w3.heap.size, 0, none⟩) (hb79.block w3.heap.size (by have := HS4.out; have := HB47.out.size; omega))).trans HC7.out)
  have HS9 := Lib.hid hs9
  have HM8 := Lib.hid hm8
  have HK6 := Lib.hid hk6
  have HK8 := Lib.hid hk8
  have HV9 := Lib.hid (HV7.out.below hb79)
  have HGA9 := Lib.hid (HGA7.out.below hb79)
  have HGB9 := Lib.hid (HGB7.out.below hb79)
  have HB79 := Lib.hid hb79
  have HBM : Hid (w4.heap.size ≤ m) := Lib.hid (by have := HM.out; have := HB47.out.size; omega)
  have hx := HLL.out
  clear hs9 hb79 hk6 hk7 hk8 hn9 hm8 HN8 HC7 HGA7 HGB7
  go_wp2_with fail
  refine (wpIn_wide (n := 8)).1 ?_
  refine wpIn_rangeFunc_ownG (n := 8) rfl (by omega) (gf := 46) (lb := #[.pointer (some ⟨w8.heap.size + 2, 0, none⟩)]) rfl trivial (enters_of Try.func46 (by kernel_rfl) rfl)
    (back_stops 7 (by omega) (w8.heap.size + 2) A7 c7' left (by omega) w9 (by have := HS9.out; omega) HK8.out HV9.out) KpB.trans ?hKb (Below.refl _ _) (fun _ => rfl)
    (fun pre W => ∃ N av all, CirM w9 W m (w8.heap.size + 1) N av all ∧ InvP (graphR (swapE l)) N ∧ all.length ≤ 2001 * pre.length ∧ LogI (graphR l) (graphR (swapE l)) left pre N all)
    (fun _ _ _ => False)
    (fun s W W' row hs hg hr => by
      obtain ⟨N, av, all, h1, h2, h3, h4⟩ := hs
      exact ⟨N, av, all, h1.grown hg hr, h2, h3, h4⟩)
    (fun _ _ _ _ _ hs _ _ => hs)
    ⟨[], _, [], HM0.out, inv_nil _, by simp, LogI.nil _ _ _⟩
    (fun x => { tmps := #[v, undef, .slice none 0 0, .pointer (some ⟨w3.heap.size, 0, none⟩), .map (some g2), .slice A7 left.length c7', .pointer (some ⟨w8.heap.size, 0, none⟩), .pointer (some ⟨w8.heap.size + 1, 0, none⟩), undef, .int .i64 ((left[left.length - 1 - x.1]?).getD 0), undef, v, .map (some g), v, v2, .map (some g2), .map (some g), .agg #[.map (some g), .map (some m1)], .map (some g), kv, .slice A7 left.length c7', .map (some g2), .agg #[.map (some g2), .map (some m)], .slice A7 left.length c7', .func (.func 46) #[] #[.pointer (some ⟨w8.heap.size + 2, 0, none⟩)], .int .i64 ((left.length - 1 - x.1 : Nat) : Int), .int .i64 ((left[left.length - 1 - x.1]?).getD 0), undef, undef, undef, undef, undef, undef, undef, undef, undef, undef, undef, undef, undef, undef, undef, undef, undef, undef, undef, undef], defers := [] }) ?assign ?body ?done ?stop
  case hKb =>
    intro W l' o o' hl' _ _ _
    have h1 := HS9.out
    exact ⟨World.putObj_heap_other (fun e => by omega), fun k hk => World.putObj_heap_other (fun e => by have := HV9.out.lt k hk; omega)⟩
  case assign =>
    intro l' x W K hK
    dsimp only [rndE]
    gi_wp2
    exact hK
  case body =>
    rintro l' pre x W ⟨N, av, all, hM, hInv, hlen, hLog⟩ hlt
    have hx2 := x.2
    have hwho : left[left.length - 1 - x.1]? = some (left[left.length - 1 - x.1]'(by omega)) := List.getElem?_eq_getElem _
    have hwr := HLS.out _ (List.getElem_mem (show left.length - 1 - x.1 < left.length by omega))
    generalize left[left.length - 1 - x.1]'(by omega) = who at hwho hwr
    have HW := Lib.hid hwho
    simp only [hwho, Option.getD_some]
    clear hwho
    have HM9 := Lib.hid hM
    have HIV := Lib.hid hInv
    have HLE := Lib.hid hlen
    have HLG := Lib.hid hLog
    have HLT := Lib.hid hlt
    have hs9 := HS9.out
    have hm8 := HM8.out
    have hsn := hM.since
    have h6 : W.heap[w8.heap.size]? = some (.cells #[.map (some g2), .map (some m)] 71 (0, 0)) := (hsn.block w8.heap.size (by omega) (fun e => by rcases e with e | e <;> omega)).trans HK6.out
    have c60 := cell_of h6 0
    have c61 := cell_of h6 1
    have hbn := below_new (w := W) (.cells #[.int .i64 who] 3)
    have hgb : GAt Try.prog 3 W w2.heap.size g2 (graphR (swapE l)) L2 clock2 := HGB9.out.touch hsn (fun e => by have := HGLT2.out; have := HBM.out; rcases e with e | e <;> omega) (fun e he k hk e2 => by have := HO2.out e he k hk; have := HBM.out; rcases e2 with e2 | e2 <;> omega)
    obtain ⟨Ln, cn, hnn⟩ := hM.met
    have hxi : XIs (W.alloc (.cells #[.int .i64 who] 3)) (.slice (some ⟨W.heap.size, 0, none⟩) 1 1) [who] m := ⟨_, 1, rfl, Nat.le_refl _, by unfold maxLen; omega, fun i y hy => by
      have hi : i = 0 := by
        have := (List.getElem?_eq_some_iff.1 hy).1
        simp at this
        omega
      subst hi
      have hy : some who = some y := hy
      injection hy with hy
      subst hy
      exact ⟨_, rfl, by rw [asz]; exact Nat.lt_succ_self _, fun e => by have e : W.heap.size = m := e; have := hnn.map.lt; omega, cell_of (alloc_at W _) 0⟩⟩
    have HF := Lib.hid (from_any (hgb.below hbn) (hnn.keep (hbn.block m hnn.map.lt)) (fun e => by have := HGLT2.out; have := HBM.out; omega) (fun e he k hk e2 => by have := HO2.out e he k hk; have := HBM.out; omega) hInv hxi (fun y hy => by rw [List.mem_singleton] at hy; rw [hy]; exact hwr) HN2.out HS2.out (by simp))
    have HHN := Lib.hid hnn
    have hn1 : 1 ≤ 8 - 1 - 1 := by omega
    clear hM hInv hlen hLog hlt hx2 h6 hgb hnn hxi hsn
    have HBN := Lib.hid hbn
    clear hbn
    gi_wp2
    refine ⟨trivial, ?_⟩
    refine (CallsIn.inRound l' (callsIn_wide.2 HF.out)).mono ?_
    rintro e W2 ⟨v3, N3, met, L3, c3, rfl, hn3, hv3, hf3, hi3, ho3, ht3, hl3, hu3⟩
    have hM2 := (HM9.out.after HBN.out).turned ⟨L3, c3, hn3⟩ ht3
    have hT2 : Touch (fun k => k = m ∨ k = w8.heap.size + 1 ∨ av.ownBlock = some k) W W2 := (Touch.of_below (S := fun k => k = m ∨ k = w8.heap.size + 1 ∨ av.ownBlock = some k) HBN.out).trans ht3 (fun k _ e => .inl e)
    have hlog := LogI.snoc (G := graphR l) (B := graphR (swapE l)) (fun x y => mem_swap l y x) HLI.out HW.out HLG.out hf3
    obtain ⟨A3, c3', e3, hc31, hc32, _⟩ := hv3.form
    subst e3
    unfold maxLen at hc32
    have hml : met.length ≤ 2001 := by simpa using hl3
    have hmI : (met.length : Int) ≤ 2001 := by omega
    have hca := cell_of hM2.box 0
    have hfa := free0 hM2.box 0
    have hc3g : W2.cell? ⟨w3.heap.size, 0, none⟩ = some (.map (some g)) := (World.cell?_of_block (a := ⟨w3.heap.size, 0, none⟩) (hM2.since.block w3.heap.size (by have := HS4.out; have := HB47.out.size; have := HB79.out.size; omega) (fun e => by have := HBM.out; have := HS4.out; have := HB8.out.size; have := HB47.out.size; rcases e with e | e <;> omega))).trans HC7'.out
    have hga2 := HGA9.out.touch hM2.since (fun e => by have := HGLT.out; have := HBM.out; have := HB8.out.size; have := HB47.out.size; rcases e with e | e <;> omega) (fun e he k hk e2 => by have := HO1.out e he k hk; have := HBM.out; have := HB8.out.size; have := HB47.out.size; rcases e2 with e2 | e2 <;> omega)
    obtain ⟨v0, hv0, hlk, _⟩ := hga2.look keyedI Try.underlying66 zeroI (keyI hwr)
    have lk0 := hlk W2 rfl
    have HCO := Lib.hid (contains_any (x := who) hv0 (by have := at_sum (graphR l) who; have := HS1.out; omega))
    have hpl := HLT.out
    have hal : all.length ≤ 2001 * 1000 := Nat.le_trans HLE.out (Nat.mul_le_mul_left _ (by have := HLL.out; omega))
    obtain ⟨av4, W4, hr4, hv4, ht4, ho4, hz4⟩ := app_row 30 hM2.row hv3 (by omega)
    obtain ⟨A4, nl, c4', rfl⟩ : ∃ A4 nl c4', av4 = .slice A4 nl c4' := by
      obtain ⟨A4, c4', e4, _⟩ := hv4.form
      exact ⟨_, _, _, e4⟩
    have HM4 := Lib.hid (hM2.app hv4 ho4 ht4 (fun e => by
      obtain ⟨e1, e2⟩ := List.append_eq_nil_iff.1 e
      rw [(hz4 e2).1]
      exact hM2.full e1))
    have hca4 : W4.cell? ⟨w8.heap.size + 1, 0, none⟩ = some av := by
      rw [World.cell?_of_block (a := ⟨w8.heap.size + 1, 0, none⟩) (ht4.block (w8.heap.size + 1) (by have := hM2.since.size; have := HS9.out; omega) (fun e => by have := hM2.own _ e; have := HS9.out; omega))]
      exact hca
    have hfa4 : W4.frozen? ⟨w8.heap.size + 1, 0, none⟩ = false := by
      rw [World.frozen?_of_block (a := ⟨w8.heap.size + 1, 0, none⟩) (ht4.block (w8.heap.size + 1) (by have := hM2.since.size; have := HS9.out; omega) (fun e => by have := hM2.own _ e; have := HS9.out; omega))]
      exact hfa
    have HT4 : Hid (Touch (fun k => k = m ∨ k = w8.heap.size + 1 ∨ av.ownBlock = some k) W (W4.setCell ⟨w8.heap.size + 1, 0, none⟩ (.slice A4 nl c4'))) := Lib.hid ((hT2.trans ht4 (fun k _ e => .inr (.inr e))).setCell ⟨w8.heap.size + 1, 0, none⟩ (fun _ => .inr (.inl rfl)) _)
    have HT2 := Lib.hid hT2
    have HM2 := Lib.hid hM2
    have HLOG := Lib.hid hlog
    have HI3 := Lib.hid hi3
    have HAL : Hid ((all ++ met).length ≤ 2001 * (pre ++ [x]).length) := Lib.hid (by have := HLE.out; rw [List.length_append, List.length_append, List.length_singleton]; omega)
    have HAL2 : Hid (all.length ≤ 2001 * (pre ++ [x]).length) := Lib.hid (by have := HLE.out; rw [List.length_append, List.length_singleton]; omega)
    have HKP : Hid (∀ Wf, Touch (fun k => k = m ∨ k = w8.heap.size + 1 ∨ av.ownBlock = some k) W Wf → KeepsFrom w9.heap.size W Wf ∧ KpB (w8.heap.size + 2) (.slice A7 left.length c7') W Wf) := Lib.hid (fun Wf ht => by
      refine ⟨HM9.out.keeps ht, ht.block _ (by have := HM9.out.since.size; have := HS9.out; omega) (fun e => ?_), fun k hk => ht.block k (by have := HM9.out.since.size; have := HV9.out.lt k hk; omega) (fun e => ?_)⟩
      · have := HM8.out
        have := HS9.out
        rcases e with e | e | e
        · omega
        · omega
        · have := HM9.out.own _ e; omega
      · have := HV7.out.lt k hk
        have := HM.out
        have := HS9.out
        have := HM8.out
        rcases e with e | e | e
        · omega
        · omega
        · have := HM9.out.own _ e; omega)
    clear hM2 hT2 hlog hn3 hv3 hf3 hi3 ho3 ht3 hl3 hu3 hga2 hv0 hlk hv4 ht4 ho4 hz4 hpl hal hml HF
    by_cases h1 : 1 < met.length
    · have q1 : (1 : Int) < (met.length : Int) := by omega
      have HF1 := Lib.hid h1
      clear h1
      gi_wp2
      refine ⟨trivial, ?_⟩
      gi_wp2_with (gi_at_builtin; refine wpListIn_app_run rfl _ _ _ _ rfl rfl rfl hr4 ?_)
      exact ⟨(HKP.out _ HT4.out).1, (HKP.out _ HT4.out).2, N3, _, all ++ met, HM4.out, HI3.out, HAL.out, HLOG.out.1 (.inl HF1.out)⟩
    · have q1 : ((1 : Int) < (met.length : Int)) = False := eq_false (by omega)
      have HF1 := Lib.hid h1
      clear h1
      by_cases h2 : who ∈ at_ (graphR l) who
      · have d : decide (who ∈ at_ (graphR l) who) = true := decide_eq_true h2
        rw [d] at HCO
        have HF2 := Lib.hid h2
        clear h2 d
        gi_wp2
        refine ⟨trivial, ?_⟩
        refine (CallsIn.inRound l' (callsIn_wide.2 HCO.out)).mono ?_
        rintro e Wc ⟨rfl, hWc⟩
        subst Wc
        gi_wp2_with (gi_at_builtin; refine wpListIn_app_run rfl _ _ _ _ rfl rfl rfl hr4 ?_)
        exact ⟨(HKP.out _ HT4.out).1, (HKP.out _ HT4.out).2, N3, _, all ++ met, HM4.out, HI3.out, HAL.out, HLOG.out.1 (.inr HF2.out)⟩
      · have d : decide (who ∈ at_ (graphR l) who) = false := decide_eq_false h2
        rw [d] at HCO
        have HF2 := Lib.hid h2
        clear h2 d
        gi_wp2
        refine ⟨trivial, ?_⟩
        refine (CallsIn.inRound l' (callsIn_wide.2 HCO.out)).mono ?_
        rintro e Wc ⟨rfl, hWc⟩
        subst Wc
        gi_wp2
        exact ⟨(HKP.out _ HT2.out).1, (HKP.out _ HT2.out).2, N3, _, all, HM2.out, HI3.out, HAL2.out, HLOG.out.2 (fun e => e.elim HF1.out HF2.out)⟩
  case done =>
    rintro D ys W hD hys ⟨N, av, all, hM, hInv, hlen, hLog⟩ hK
    have hyl : ys.length = left.length := by
      have := congrArg List.length hys
      rwa [List.length_map, List.length_range] at this
    have hca := cell_of hM.box 0
    have HSO := Lib.hid (sort_row hM.row (by omega))
    have HC := Lib.hid (circ_done HLI.out hys hLog)
    have HM9 := Lib.hid hM
    have HK := Lib.hid hK
    have HD := Lib.hid hD
    have HYL := Lib.hid hyl
    clear hM hInv hlen hLog hK hyl hys hD
    go_wp2_with fail
    refine (HSO.out).mono ?_
    rintro e Wz ⟨rfl, hvz, htz⟩
    have hs9 := HS9.out
    have hca2 := cell_of ((htz.block (w8.heap.size + 1) (by have := HM9.out.since.size; omega) (fun e => by have := HM9.out.own _ e; omega)).trans HM9.out.box) 0
    have hKz : Wz.heap[D]? = some (.deferred (some [])) := (htz.block D (Array.getElem?_eq_some_iff.1 HK.out).1 (fun e => by have := HM9.out.cells e HK.out; cases this)).trans HK.out
    have HVZ := Lib.hid hvz
    have HTZ := Lib.hid htz
    have HKZ := Lib.hid hKz
    clear hvz htz hKz hca hs9
    go_wp2_with fail
    refine ⟨by simp, .inl ⟨_, _, rfl, run_takeDeferred HKZ.out, ?_⟩⟩
    refine ⟨_, results_tmp rfl _ _ _, ?_⟩
    have hbz : Below w.heap.size w Wz := by
      have h1 := HBW.out
      have h2 := HB47.out
      have h3 := HB79.out
      have h9 : Below w.heap.size w w9 := (h1.trans (h2.mono h1.size)).trans (h3.mono (Nat.le_trans h1.size h2.size))
      refine (h9.trans (HM9.out.since.below (fun k e => ?_) h9.size)).trans (HTZ.out.below (fun k e => ?_) (Nat.le_trans h9.size HM9.out.since.size))
      · have := HBM.out
        have := h1.size
        have := HB8.out.size
        have := h2.size
        rcases e with e | e <;> omega
      · have := HM9.out.own k e
        have := h9.size
        omega
    refine ⟨av, sorted all, rfl, HC.out, ?_, fun k hk => ?_, ?_⟩
    · rw [sorted_len]
      exact HVZ.out.cells_kept (grownBy_putObj' _ D _) (fun r e => by cases e; exact ⟨_, HKZ.out, rfl⟩)
    · have := HM9.out.own k hk
      have := HBW.out.size
      have := HB47.out.size
      have := HB79.out.size
      omega
    · refine hbz.grown (grownBy_putObj' _ D _) hbz.size (fun k e => ?_)
      cases e
      have := HD.out
      have := HBW.out.size
      have := HB47.out.size
      have := HB79.out.size
      omega
  case stop =>
    rintro D c pre W _ _ h _
    exact h.elim
end Go.Proofs.Ytlbhpeeggbfcpaa
