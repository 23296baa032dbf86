/- Reach. -/
import Derived.Test.YtmpjimoefjcmhaaZWaiF
set_option linter.unusedSimpArgs false
set_option linter.unusedVariables false
set_option linter.unnecessarySimpa false
namespace Go.Proofs.Ytmpjimoefjcmhaa
open Go.RowKit
open Go.Maps (Keyed)

theorem mem_rises {l : List Int} {y : Int} (h : y ∈ rises l) : y ∈ l := by
  unfold rises Lib.compact Lib.compactUpTo at h
  obtain ⟨j, hj, rfl⟩ := List.mem_map.1 h
  have hj' : j < (sorted l).length := List.mem_range.1 (List.mem_filter.1 hj).1
  have : (sorted l).toArray[j]! = (sorted l)[j] := by simp [hj']
  rw [this]
  have hm := List.getElem_mem hj'
  generalize (sorted l)[j] = z at hm
  unfold sorted at hm
  exact (List.mergeSort_perm l _).mem_iff.1 hm
theorem rises_len (l : List Int) : (rises l).length ≤ l.length := by
  unfold rises
  exact Nat.le_trans (Lib.compact_length_le _) (by rw [sorted_len]; exact Nat.le_refl _)
theorem keys_graphR (l : List (Int × Int)) : (graphR l).map (·.1) = (graph0 l).map (·.1) := by
  unfold graphR
  rw [List.map_map]
  rfl
theorem count_sum (l : List (Int × Int)) : ∀ {xs : List Int}, xs.Nodup → (xs.map fun x => (l.filter fun e => e.1 == x).length).sum ≤ l.length := by
  induction l with
  | nil =>
    intro xs _
    have : ∀ ys : List Int, (ys.map fun x => (([] : List (Int × Int)).filter fun e => e.1 == x).length).sum = 0 := fun ys => by
      induction ys with
      | nil => rfl
      | cons y ys ih =>
        simp only [List.map_cons, List.sum_cons, List.filter_nil, List.length_nil] at ih ⊢
        omega
    rw [this]
    exact Nat.zero_le _
  | cons e l ih =>
    intro xs hn
    have h1 := ih hn
    have h2 : ∀ {xs : List Int}, xs.Nodup → (xs.map fun x => ((e :: l).filter fun e => e.1 == x).length).sum ≤ (xs.map fun x => (l.filter fun e => e.1 == x).length).sum + (if e.1 ∈ xs then 1 else 0) := by
      intro xs hn
      induction xs with
      | nil => simp
      | cons x xs ih =>
        rw [List.nodup_cons] at hn
        have h3 := ih hn.2
        simp only [List.map_cons, List.sum_cons]
        by_cases hx : e.1 = x
        · have h4 : ¬ e.1 ∈ xs := by rw [hx]; exact hn.1
          rw [if_neg h4] at h3
          rw [if_pos (by rw [hx]; exact List.mem_cons_self), List.filter_cons_of_pos (by simpa using hx), List.length_cons]
          omega
        · rw [List.filter_cons_of_neg (by simpa using hx)]
          by_cases h4 : e.1 ∈ xs
          · rw [if_pos h4] at h3
            rw [if_pos (List.mem_cons_of_mem _ h4)]
            omega
          · rw [if_neg h4] at h3
            omega
    have h3 := h2 hn
    rw [List.length_cons]
    split at h3 <;> omega
theorem at_of_nodup {G : Gr} (hn : (G.map (·.1)).Nodup) {e : Int × List Int} (he : e ∈ G) : at_ G e.1 = e.2 := by
  obtain ⟨j, hj⟩ := List.getElem?_of_mem he
  exact (at_hit (x := e.1) (l := e.2) hn hj).1
theorem sum_graphR {l : List (Int × Int)} (hn : ((graph0 l).map (·.1)).Nodup) : ((graphR l).map fun e => e.2.length).sum ≤ l.length := by
  have h1 := count_sum l hn
  refine Nat.le_trans ?_ h1
  have h2 : ∀ e ∈ graph0 l, e.2.length = (l.filter fun z => z.1 == e.1).length := fun e he => by
    rw [← at_of_nodup hn he, at_graph0, List.length_map]
  unfold graphR
  rw [List.map_map, List.map_map]
  generalize graph0 l = G at h2
  clear hn h1
  induction G with
  | nil => simp
  | cons e G ih =>
    simp only [List.map_cons, List.sum_cons]
    have h3 := ih (fun e' he' => h2 e' (List.mem_cons_of_mem _ he'))
    have h4 := h2 e List.mem_cons_self
    have h5 := rises_len e.2
    show (rises e.2).length + _ ≤ (l.filter fun z => z.1 == e.1).length + _
    omega
theorem num_graphR {l : List (Int × Int)} (hn : ((graph0 l).map (·.1)).Nodup) (hr : ∀ e ∈ l, InR64 e.1 ∧ InR64 e.2) : ∀ e ∈ graphR l, ∀ y ∈ e.2, InR64 y := by
  intro e he y hy
  unfold graphR at he
  obtain ⟨e0, h0, rfl⟩ := List.mem_map.1 he
  have h1 := mem_rises hy
  rw [← at_of_nodup hn h0, at_graph0] at h1
  obtain ⟨z, hz, rfl⟩ := List.mem_map.1 h1
  exact (hr z (List.mem_filter.1 hz).1).2
theorem at_num {G : Gr} (h : ∀ e ∈ G, ∀ y ∈ e.2, InR64 y) (x : Int) : ∀ y ∈ at_ G x, InR64 y := by
  intro y hy
  unfold at_ at hy
  cases hf : G.find? (fun e => e.1 == x) with
  | none => rw [hf] at hy; cases hy
  | some e =>
    rw [hf] at hy
    exact h e (List.mem_of_find?_eq_some hf) y hy
theorem at_sum (G : Gr) (x : Int) : (at_ G x).length ≤ (G.map fun e => e.2.length).sum := by
  unfold at_
  induction G with
  | nil => simp
  | cons e G ih =>
    rw [find_hd]
    simp only [List.map_cons, List.sum_cons]
    split
    · show e.2.length ≤ _
      omega
    · omega
theorem inv_nil (G : Gr) : InvP G [] := fun x => by
  have : getN [] x = 0 := rfl
  rw [this]
  omega
set_option maxRecDepth 100000 in
set_option maxHeartbeats 1000000 in
theorem over_any (w : World) (g : Nat) : Calls Try.prog 29 #[.map (some g)] w fun e w' => ∃ m, e = .returned (.agg #[.map (some g), .map (some m)]) ∧ w.heap.size ≤ m ∧ NAt Try.prog 3 w' m [] [] 0 ∧ Below w.heap.size w w' := by
  have hmm := @run_makeMap Try.prog
  go_enter Try.func29, Try.ntmps29
  go_wp2_with fail
  have hat : ((w.alloc (.cells #[.map (some g), .map (some (w.heap.size + 1))] 58)).alloc (.map #[] 0)).heap[w.heap.size]? = some (.cells #[.map (some g), .map (some (w.heap.size + 1))] 58) := by
    rw [Below.heap_alloc _ _ _ (by rw [asz]; omega)]
    exact alloc_at w _
  have c0 := cell_of hat 0
  have c1 := cell_of hat 1
  refine bodyPost_ret (v := .agg #[.map (some g), .map (some (w.heap.size + 1))]) (by simp [results, Try.results29, go_sem, c0, c1]) rfl ⟨w.heap.size + 1, rfl, by omega, ?_, ?_⟩
  · have h := NAt.made Try.prog 3 (w.alloc (.cells #[.map (some g), .map (some (w.heap.size + 1))] 58))
    rw [asz] at h
    exact h
  · exact (below_new _).trans ((below_new _).mono (by rw [asz]; omega))
set_option maxRecDepth 100000 in
set_option maxHeartbeats 1000000 in
theorem reach_any {w : World} {v : Value} {l : List (Int × Int)} {x : Int} (h : EIs w v l) (hr : ∀ e ∈ l, InR64 e.1 ∧ InR64 e.2) (hl : l.length ≤ 1000) (hx : InR64 x) :
    Calls Try.prog 16 #[.int .i64 x, v] w fun e w' => ∃ v' N left, e = .returned v' ∧ FromR (graphR l) [] (at_ (graphR l) x) N left ∧ RowIs w' 1 v' left.length (ints (sorted left)) ∧ (∀ b, v'.ownBlock = some b → w.heap.size ≤ b) ∧ Below w.heap.size w w' := by
  have HG := Lib.hid (graph_any h hr hl)
  go_enter Try.func16, Try.ntmps16
  go_wp2_with fail
  refine (HG.out).mono ?_
  rintro e w1 ⟨g, L, clock, rfl, hg, hb⟩
  have hnd := hg.nodup
  rw [keys_graphR] at hnd
  obtain ⟨v0, hv0, hlk, hown0⟩ := hg.look keyedI Try.underlying48 zeroI (keyI hx)
  have HGA := Lib.hid hg
  have HB := Lib.hid hb
  have HV0 := Lib.hid hv0
  have HOW := Lib.hid hown0
  have HND := Lib.hid hnd
  have lk0 := hlk w1 rfl
  have HLK := Lib.hid hlk
  clear hg hb hv0 hown0 hnd h hlk
  go_wp2_with (at_lookup; refine wpList_look_run rfl _ _ _ _ rfl rfl rfl lk0 ?_)
  have HO := Lib.hid (over_any w1.drew g)
  refine wp_region_held_drew (S := fun W => (Instr.lookup 48 (.map (some g)) (.int .i64 x) false).run Try.prog W = .ok v0 W) (by kernel_rfl) (HLK.out _ rfl) (fun hHeld => ?_)
  refine wpAnyH_take (i := 0) (oi := { dst := some 9, op := Op.move (Operand.tmp 5), type := 48, pos := "wait.go:38", after := #[], guard := none }) (v := ?vv1) rfl (by kernel_rfl) (by kernel_rfl) (by kernel_rfl) (fun _ _ _ h => h) ?hy1 (by assumption) ?rest1
  case hy1 => (refine Or.inl ⟨by rfl, ?_⟩; intro W hSw; (try dsimp only at hSw); go_simp; (try with_reducible rfl))
  try simp only [Act.put, List.setIfInBounds_toArray, List.set_cons_zero, List.set_cons_succ]
  refine wpAnyH_take (i := 2) (oi := { dst := some 11, op := Op.move (Operand.tmp 5), type := 48, pos := "wait.go:38", after := #[], guard := none }) (v := ?vv2) rfl (by kernel_rfl) (by kernel_rfl) (by kernel_rfl) (fun _ _ _ h => h) ?hy2 (by assumption) ?rest2
  case hy2 => (refine Or.inl ⟨by rfl, ?_⟩; intro W hSw; (try dsimp only at hSw); go_simp; (try with_reducible rfl))
  try simp only [Act.put, List.setIfInBounds_toArray, List.set_cons_zero, List.set_cons_succ]
  refine wpAnyH_take (i := 3) (oi := { dst := some 12, op := Op.move (Operand.tmp 0), type := 3, pos := "wait.go:38", after := #[], guard := none }) (v := ?vv3) rfl (by kernel_rfl) (by kernel_rfl) (by kernel_rfl) (fun _ _ _ h => h) ?hy3 (by assumption) ?rest3
  case hy3 => (refine Or.inl ⟨by rfl, ?_⟩; intro W hSw; (try dsimp only at hSw); go_simp; (try with_reducible rfl))
  try simp only [Act.put, List.setIfInBounds_toArray, List.set_cons_zero, List.set_cons_succ]
  refine wpAnyH_take (i := 4) (oi := { dst := some 13, op := Op.lookup 48 (Operand.tmp 11) (Operand.tmp 12) false, type := 26, pos := "wait.go:38", after := #[{ on := 2, ground := Ground.data }, { on := 3, ground := Ground.data }], guard := none }) (v := v0) rfl (by kernel_rfl) (by kernel_rfl) (by kernel_rfl) (fun _ _ _ h => h) ?hy4 (by assumption) ?rest4
  case hy4 => (exact yieldsIf_look (m := .map (some g)) (x := .int .i64 x) rfl _ _ rfl rfl rfl (fun W h => h))
  try simp only [Act.put, List.setIfInBounds_toArray, List.set_cons_zero, List.set_cons_succ]
  refine wpAnyH_ready (rs := [1]) (by kernel_rfl) (by simp) ?_
  refine AllReadyH.cons (o := { dst := some 10, op := Op.call { callee := Callee.value (Operand.func 29), args := #[Operand.tmp 9], argTypes := #[48] }, type := 58, pos := "wait.go:38", after := #[{ on := 0, ground := Ground.data }], guard := none }) rfl (fun K hK => ?step5) ?more5
  case more5 => exact AllReadyH.nil
  ((go_simp; go_at_call 29; refine (HO.out).mono ?_; rintro e w2 ⟨m, rfl, hm, hn2, hb2⟩; go_wp2_with fail))
  refine hK.out _ _ ?hS5 (fun hHeld => ?rr5)
  case hS5 => (exact HLK.out _ (hb2.block g HGA.out.map.lt))
  clear hK K
  try simp only [Act.put, List.setIfInBounds_toArray, List.set_cons_zero, List.set_cons_succ]
  have hm' : w1.heap.size ≤ m := hm
  have hb2' : Below w1.heap.size w1 w2 := (below_drew (Below.refl _ w1)).trans hb2
  have hown : ∀ e ∈ L, ∀ k, e.val.ownBlock = some k → k < w1.heap.size := fun e he k hk => by
    obtain ⟨j, hj⟩ := List.getElem?_of_mem he
    have h1 : j < (graphR l).length := by rw [← HGA.out.len]; exact (List.getElem?_eq_some_iff.1 hj).1
    exact (HGA.out.each j e _ hj (List.getElem?_eq_getElem h1)).2.lt k hk
  have hnum := num_graphR HND.out hr
  have hsum := Nat.le_trans (sum_graphR HND.out) hl
  have hat := Nat.le_trans (at_sum (graphR l) x) hsum
  have HF := Lib.hid (from_any (HGA.out.below hb2') hn2 (fun e => by have := HGA.out.map.lt; omega) (fun e he k hk => by have := hown e he k hk; omega) (inv_nil _) ((HV0.out.below hb2').xis (fun e => by have := HV0.out.lt m e; omega)) (at_num hnum x) hnum hsum hat)
  have HB2 := Lib.hid hb2'
  have HM := Lib.hid hm'
  have HAT := Lib.hid hat
  clear hm hm' hb2 hb2' hown hnum hsum hn2 hat
  refine wpAnyH_ready (rs := [5]) (by kernel_rfl) (by simp) ?_
  refine AllReadyH.cons (o := { dst := some 14, op := Op.call { callee := Callee.value (Operand.func 30), args := #[Operand.tmp 10, Operand.tmp 13], argTypes := #[58, 26] }, type := 26, pos := "wait.go:38", after := #[{ on := 1, ground := Ground.data }, { on := 4, ground := Ground.data }, { on := 1, ground := Ground.chain }], guard := none }) rfl (fun K hK => ?step6) ?more6
  case more6 => exact AllReadyH.nil
  ((go_simp; go_at_call 30; refine (HF.out).mono ?_; rintro e w3 ⟨v3, N, left, L3, c3, rfl, hn3, hv3, hf3, hi3, ho3, ht3, hl3, hu3⟩; go_wp2_with fail))
  refine hK.out _ _ ?hS6 (fun hHeld => ?rr6)
  case hS6 => (exact HLK.out _ ((ht3.block g (Nat.lt_of_lt_of_le HGA.out.map.lt HB2.out.size) (fun e => by have e : g = m := e; have := HGA.out.map.lt; have := HM.out; omega)).trans (HB2.out.block g HGA.out.map.lt)))
  clear hK K
  try simp only [Act.put, List.setIfInBounds_toArray, List.set_cons_zero, List.set_cons_succ]
  refine wpAnyH_take (i := 6) (oi := { dst := some 6, op := Op.assign (Operand.tmp 14), type := 26, pos := "wait.go:38", after := #[{ on := 5, ground := Ground.data }, { on := 5, ground := Ground.chain }, { on := 0, ground := Ground.phase }, { on := 1, ground := Ground.phase }, { on := 2, ground := Ground.phase }, { on := 3, ground := Ground.phase }, { on := 4, ground := Ground.phase }, { on := 5, ground := Ground.phase }], guard := none }) (v := ?vv7) rfl (by kernel_rfl) (by kernel_rfl) (by kernel_rfl) (fun _ _ _ h => h) ?hy7 (by assumption) ?rest7
  case hy7 => (refine Or.inl ⟨by rfl, ?_⟩; intro W hSw; (try dsimp only at hSw); go_simp; (try with_reducible rfl))
  try simp only [Act.put, List.setIfInBounds_toArray, List.set_cons_zero, List.set_cons_succ]
  refine wpAnyH_done (by kernel_rfl) ?_ _
  have HB3 : Hid (Below w1.heap.size w1 w3) := Lib.hid (HB2.out.trans (ht3.below (fun k e => by have e : k = m := e; have := HM.out; omega) HB2.out.size))
  have HS := Lib.hid (sort_row hv3 (by have := HAT.out; omega))
  have HO3 : Hid (∀ b, v3.ownBlock = some b → w.heap.size ≤ b) := Lib.hid (fun b hb => by have := ho3 b hb; have := HB.out.size; have := HB2.out.size; omega)
  have HF3 := Lib.hid hf3
  clear hn3 hv3 hf3 hi3 ho3 ht3 hl3 hu3
  go_wp2_with fail
  refine (HS.out).mono ?_
  rintro e w4 ⟨rfl, hv4, ht4⟩
  have HV4 := Lib.hid hv4
  have HB4 : Hid (Below w.heap.size w w4) := Lib.hid ((HB.out.trans (HB3.out.mono HB.out.size)).trans (ht4.below (fun k hk => HO3.out k hk) (Nat.le_trans HB.out.size HB3.out.size)))
  clear hv4 ht4
  go_wp2_with fail
  go_ret
  exact ⟨v3, N, left, rfl, HF3.out, by have := HV4.out; exact this, HO3.out, HB4.out⟩
end Go.Proofs.Ytmpjimoefjcmhaa
