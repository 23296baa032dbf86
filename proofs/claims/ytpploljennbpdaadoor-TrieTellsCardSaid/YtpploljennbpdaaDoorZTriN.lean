/- trie: slices.Reverse; Path. -/
import Derived.Test.YtpploljennbpdaaDoorZTriO
import Derived.Test.YtpploljennbpdaaDoorZSht
import Derived.Sort.OwnSortedInts
import Derived.Lib.RowBridge
set_option linter.unusedSimpArgs false
set_option linter.unusedVariables false
set_option linter.unnecessarySimpa false
namespace Go.Proofs.YtpploljennbpdaaDoor
open Go.RowKit Go.Shelf Go.Sort

theorem holds_row {w : World} {g cap : Nat} {l : List Int} (h : RowC w 1 g cap (ints l)) : Holds (Value.int .i64) w g 0 l.toArray := fun j hj => by
  have hj' : j < l.length := by simpa using hj
  have h1 : (ints l)[j]? = some (.int .i64 l[j]) := by unfold ints; rw [List.getElem?_map, List.getElem?_eq_getElem hj']; rfl
  have h2 := h.le
  rw [ints_len] at h2
  refine ⟨?_, ?_⟩
  · rw [Nat.zero_add, h.holds j _ h1]
    simp [hj']
  · rw [Nat.zero_add]
    exact (h.there j (by omega)).2
theorem row_put {w : World} {g cap n : Nat} {l ts : List Int} (h : RowC w 1 g cap (ints l)) (hl : ts.length = l.length) : RowC (putRow (Value.int .i64) (Sort.ahead w n) g 0 ts.toArray) 1 g cap (ints ts) := by
  have hH := holds_row h
  have h2 := h.le
  rw [ints_len] at h2
  have hP : Holds (Value.int .i64) (putRow (Value.int .i64) (Sort.ahead w n) g 0 ts.toArray) g 0 ts.toArray := holds_putRow _ _ _ _ _ _ (holds_ahead _ _ n _ _ _ hH) (by simpa using hl)
  refine ⟨by rw [size_putRow]; exact h.lt, by rw [ints_len]; omega, h.max, fun j b hj => ?_, fun j hj => ?_⟩
  · have hj' : j < ts.length := by have := (List.getElem?_eq_some_iff.1 hj).1; rwa [ints_len] at this
    have h1 : (ints ts)[j]? = some (.int .i64 ts[j]) := by unfold ints; rw [List.getElem?_map, List.getElem?_eq_getElem hj']; rfl
    rw [h1] at hj
    have h3 := (hP j (by simpa using hj')).1
    rw [Nat.zero_add] at h3
    rw [h3, ← hj]
    simp [hj']
  · refine ⟨?_, by rw [frozen?_putRow]; exact (h.there j hj).2⟩
    by_cases hjl : j < ts.length
    · have h3 := (hP j (by simpa using hjl)).1
      rw [Nat.zero_add] at h3
      rw [h3]
      rfl
    · rw [cell?_putRow_other _ _ _ _ _ _ (.inr (.inr (by simp; omega)))]
      exact (h.there j hj).1
theorem touch_put (w : World) (g n : Nat) (d : Array Int) : Touch (fun k => k = g) w (putRow (Value.int .i64) (Sort.ahead w n) g 0 d) :=
  ⟨rfl, rfl, rfl, by simp, fun k hk hne => by
    have : g ≠ k := fun e => hne e.symm
    simp [putRow, mapBlock, Sort.ahead, Array.getElem?_modify, this]⟩
theorem reverse_any {w : World} {v : Value} {l : List Int} (h : RowIs w 1 v l.length (ints l)) (hl : l.length ≤ 1000000) : Calls Tryd.prog 33 #[v] w fun e w' => e = .returned (.tuple #[]) ∧ RowIs w' 1 v l.reverse.length (ints l.reverse) ∧ Touch (fun k => v.ownBlock = some k) w w' := by
  rcases h with ⟨rfl, h1, h2⟩ | ⟨g, cap, rfl, h1, h2, h3⟩
  · obtain rfl : l = [] := List.eq_nil_of_length_eq_zero h1
    refine (Any.slices_Reverse_int_empty Tryd.reverseA none 0 w).mono ?_
    rintro e w' ⟨rfl, rfl⟩
    exact ⟨rfl, RowIs.nil _ _, Touch.refl _ _⟩
  · refine (Any.slices_Reverse_int Tryd.reverseA g 0 cap l w (holds_row h3) (by omega)).mono ?_
    rintro e w' ⟨rfl, n, rfl⟩
    have hp := row_put (n := n) (ts := l.reverse) h3 (by rw [List.length_reverse])
    refine ⟨rfl, .inr ⟨g, cap, by rw [List.length_reverse], by rw [ints_len, Nat.mul_one], by rw [List.length_reverse]; exact h2, hp⟩, ?_⟩
    exact (touch_put w g n l.reverse.toArray).mono (fun k _ e => by rw [e]; rfl)
/-- The elements from the root to a node. -/
def pathI (P : List Pth) (m : Int) : Pth := if 0 ≤ m ∧ m < (P.length : Int) then (P[m.toNat]?).getD [] else []
theorem aboveI_lt {P : List Pth} (hT : TreeP P) {m : Int} {k : Nat} (h : k ∈ aboveI P m) : k < P.length := by
  unfold aboveI at h
  split at h
  · exact above_lt hT h
  · cases h
theorem sub_at {P : List Pth} {n : Nat} {p : Pth} (hn : P[n]? = some p) : subP P n = p.getLast?.getD (-1) := by unfold subP; rw [hn]
/-- The last elements of nodes but the root. -/
def subsI (P : List Pth) (l : List Nat) : List Int := (l.filter fun n => n != 0).map (subP P)
def cameS (P : List Pth) (l : List Nat) (pre : List (RndL l)) : List Int := subsI P (pre.map fun x => rndN l x.1)
theorem cameS_snoc (P : List Pth) (l : List Nat) (pre : List (RndL l)) (x : RndL l) : cameS P l (pre ++ [x]) = cameS P l pre ++ if (rndN l x.1 != 0) = true then [subP P (rndN l x.1)] else [] := by
  unfold cameS subsI
  rw [List.map_append, List.filter_append, List.map_append]
  congr 1
  show List.map _ (List.filter _ [rndN l x.1]) = _
  rw [List.filter_cons]
  split <;> rfl
theorem cameS_len (P : List Pth) (l : List Nat) (pre : List (RndL l)) : (cameS P l pre).length ≤ pre.length := by
  unfold cameS subsI
  rw [List.length_map]
  refine Nat.le_trans (List.length_filter_le _ _) ?_
  rw [List.length_map]
  exact Nat.le_refl _
theorem subs_above {P : List Pth} (hT : TreeP P) (m : Int) : subsI P (aboveI P m) = (pathI P m).reverse := by
  unfold aboveI pathI
  split
  · rename_i h
    obtain ⟨i, rfl⟩ : ∃ i : Nat, m = (i : Int) := ⟨m.toNat, by omega⟩
    have hi : i < P.length := by omega
    have hp := List.getElem?_eq_getElem hi
    rw [Int.toNat_natCast, hp, Option.getD_some, above_some hp]
    generalize P[i] = p at hp
    unfold subsI
    have hcut : (List.range (p.length + 1)).map (fun k => idxP P (p.take (p.length - k))) = (List.range p.length).map (fun k => idxP P (p.take (p.length - k))) ++ [0] := by
      rw [List.range_succ, List.map_append]
      congr 1
      show [idxP P (p.take (p.length - p.length))] = [0]
      rw [Nat.sub_self, List.take_zero, hT.idx hT.root]
    rw [hcut, List.filter_append]
    have hall : ((List.range p.length).map (fun k => idxP P (p.take (p.length - k)))).filter (fun n => n != 0) = (List.range p.length).map (fun k => idxP P (p.take (p.length - k))) := by
      rw [List.filter_eq_self]
      intro n hn
      obtain ⟨k, hk, rfl⟩ := List.mem_map.1 hn
      have hk := List.mem_range.1 hk
      have ht := take_in hT hp (p.length - k)
      rw [bne_iff_ne]
      intro e
      rw [e, hT.root] at ht
      have := congrArg (Option.map List.length) ht
      simp at this
      omega
    rw [hall, show List.filter (fun n => n != 0) [0] = [] from rfl, List.append_nil, List.map_map]
    refine List.ext_getElem? fun k => ?_
    rw [List.getElem?_map]
    by_cases hk : k < p.length
    · rw [List.getElem?_range hk, Option.map_some, List.getElem?_reverse hk]
      have ht := take_in hT hp (p.length - k)
      show some (subP P (idxP P (p.take (p.length - k)))) = _
      rw [sub_at ht, List.getLast?_eq_getElem?, List.length_take, List.getElem?_take]
      rw [Nat.min_eq_left (by omega), if_pos (by omega), show p.length - k - 1 = p.length - 1 - k from by omega, List.getElem?_eq_getElem (by omega)]
      rfl
    · rw [List.getElem?_eq_none (by rw [List.length_range]; omega), List.getElem?_eq_none (by rw [List.length_reverse]; omega)]
      rfl
  · rfl
theorem cameS_all {P : List Pth} (hT : TreeP P) {m : Int} {ys : List (RndL (aboveI P m))} (h : ys.map (·.1) = List.range (aboveI P m).length) : cameS P (aboveI P m) ys = (pathI P m).reverse := by
  unfold cameS
  rw [rnds_all h, subs_above hT]
attribute [local go_sem] Oper.semAt_some
set_option maxRecDepth 100000 in
set_option maxHeartbeats 4000000 in
theorem Path_any {w : World} {v : Value} {N : List Nd} {P : List Pth} (m : Int) (h : TrAt w v N P) (hP : P.length ≤ 1000) :
    Calls Tryd.prog 13 #[.agg #[v], .int .i64 m] w fun e w' => ∃ v', e = .returned v' ∧ RowIs w' 1 v' (pathI P m).length (ints (pathI P m)) ∧ (∀ g, v'.ownBlock = some g → w.heap.size ≤ g) ∧ Below w.heap.size w w' := by
  obtain ⟨g, cap, rfl, hc1, hc2, _⟩ := h.form
  have hT := h.tree
  obtain ⟨w1, hw1⟩ : ∃ w1, w1 = (w.alloc (.cells #[.slice (some ⟨g, 0, none⟩) P.length cap] 27)).alloc (.cells #[.slice none 0 0] 24) := ⟨_, rfl⟩
  have hb1 : Below w.heap.size w w1 := by rw [hw1]; exact (below_new _).trans ((below_new _).mono (by rw [asz]; omega))
  have hs1 : w1.heap.size = w.heap.size + 2 := by rw [hw1, asz, asz]
  have hbx : w1.heap[w.heap.size + 1]? = some (.cells #[.slice none 0 0] 24 (0, 0)) := by
    have := alloc_at (w.alloc (.cells #[.slice (some ⟨g, 0, none⟩) P.length cap] 27)) (.cells #[.slice none 0 0] 24)
    rw [asz, ← hw1] at this
    exact this
  have hbt : w1.heap[w.heap.size]? = some (.cells #[.slice (some ⟨g, 0, none⟩) P.length cap] 27 (0, 0)) := by
    rw [hw1, Below.heap_alloc _ _ _ (by rw [asz]; omega)]
    exact alloc_at w _
  obtain ⟨w3, hw3, hb3, hs3, hcn, hct, hv3⟩ := two_boxes (m := m) (h.below hb1)
  have hl : (aboveI P m).length ≤ 1000 := Nat.le_trans (aboveI_le h.tree) hP
  have HSQ := Lib.hid (up_foot 7 (by omega) (w1.heap.size + 1) w1.heap.size (.slice (some ⟨g, 0, none⟩) P.length cap) N P m hP w3 hcn hct hv3)
  have HTR := Lib.hid (trs_lt hv3 (Bn := w1.heap.size + 1) (Bt := w1.heap.size) (by omega) (by omega))
  have HU := Lib.hid (upwards_any w1 (.slice (some ⟨g, 0, none⟩) P.length cap) m rfl)
  rw [← hw3] at HU
  rw [hs1] at HU HSQ HTR
  have HB13 := Lib.hid (hb1.trans (hb3.mono hb1.size))
  have HW1 := Lib.hid hw1
  have HS3 := Lib.hid hs3
  have HS1 := Lib.hid hs1
  have HBX := Lib.hid ((hb3.block _ (heap_lt hbx)).trans hbx)
  have HBT := Lib.hid ((hb3.block _ (heap_lt hbt)).trans hbt)
  have HV := Lib.hid h
  have HT := Lib.hid hT
  have hnI : (P.length : Int) ≤ 1000 := by omega
  have kt := cell_of hbt 0
  unfold maxLen at hc2
  clear hw3 hb3 hcn hct hv3 h hb1 hbx hbt hw1 hs1 hs3 hT
  refine (callsIn_wide (n := 9)).1 ?_
  refine callsIn_of_wp_marks Tryd.func13 rfl trivial ?_ rfl
  simp only [Tryd.ntmps13, List.size_toArray, List.length_cons, List.length_nil, Nat.reduceAdd, Nat.reduceSub, Array.replicate_succ, Array.replicate_zero, List.push_toArray, List.append_toArray, List.nil_append, List.cons_append]
  refine wpIn_wide.2 ?_
  go_wp2_with fail
  rw [← HW1.out]
  refine (HU.out).mono ?_
  rintro e w4 ⟨rfl, rfl⟩
  go_wp2_with fail
  refine (wpIn_wide (n := 8)).1 ?_
  refine wpIn_rangeFunc_foot (n := 8) (by omega) (gf := 43) (lb := #[.pointer (some ⟨w.heap.size + 2 + 1, 0, none⟩), .pointer (some ⟨w.heap.size + 2, 0, none⟩)]) rfl (enters_of Tryd.func43 (by kernel_rfl) rfl) HSQ.out (Below.refl _ _) HTR.out (fun _ => rfl)
    (fun pre W F => AccAt w (w.heap.size + 1) (w4.heap.size + 2) 24 (cameS P (aboveI P m) pre) W F ∧ W.heap[w.heap.size]? = some (.cells #[.slice (some ⟨g, 0, none⟩) P.length cap] 27 (0, 0)))
    (fun _ _ _ _ => False) ?hI (fun s W F h => h.1.within (by have := HS1.out; have := HS3.out; omega) rfl) (fun c s X X' Fi h => h.elim) (fun c s X Fi h => h.elim) (fun k => k = w.heap.size + 1) ?h0 ?hF0
    (fun x => { tmps := #[.agg #[.slice (some ⟨g, 0, none⟩) P.length cap], .int .i64 m, .pointer (some ⟨w.heap.size, 0, none⟩), undef, .slice none 0 0, .pointer (some ⟨w.heap.size + 1, 0, none⟩), .int .i64 (rndN (aboveI P m) x.1 : Int), .agg #[.slice (some ⟨g, 0, none⟩) P.length cap], .int .i64 m, .func (.func 43) #[] #[.pointer (some ⟨w.heap.size + 2 + 1, 0, none⟩), .pointer (some ⟨w.heap.size + 2, 0, none⟩)], .int .i64 (rndN (aboveI P m) x.1 : Int), undef, undef, undef, undef, undef, undef, undef, undef, undef, undef, undef, undef, undef, undef], defers := [] })
    ?assign ?body ?done (fun D' c pr X Fi _ _ _ h => h.elim)
  case hI =>
    rintro s W W' F ⟨h1, h2⟩ ht
    have := HB13.out.size
    exact ⟨h1.kept this ht, (ht.block _ (heap_lt h2) (fun e => by have := e.1; have := HS1.out; have := HS3.out; omega)).trans h2⟩
  case h0 => exact ⟨⟨HB13.out, _, HBX.out, RowIs.nil _ _, (fun g e => by cases e), fun k => ⟨.inl, fun e => e.elim id (fun e => by cases e)⟩⟩, HBT.out⟩
  case hF0 =>
    rintro k hk rfl
    rcases hk with e | e | e
    · omega
    · omega
    · have := HV.out.own_lt _ e; omega
  case assign =>
    intro l' x W K hK
    simp only [rndL]
    gi_wp2
    exact hK
  case body =>
    rintro l' pre x W F ⟨hA, hbt⟩ hlen hsz
    have kt := cell_of hbt 0
    have hx := rndN_at x.2
    have hxl := aboveI_lt HT.out (List.mem_of_getElem? hx)
    have HSN := Lib.hid (cameS_snoc P (aboveI P m) pre x)
    have hcl : (cameS P (aboveI P m) pre).length ≤ 100000 := by
      have := cameS_len P (aboveI P m) pre
      omega
    generalize rndN (aboveI P m) x.1 = i at *
    obtain ⟨g', nx, e', y0, y1, y2, k0, y3, y4, y5⟩ := (HV.out.below hA.1).cells hxl
    injection e' with e'
    injection e' with e'
    subst e'
    have hiI : (i : Int) < (P.length : Int) := by omega
    have HA := Lib.hid hA
    have HBW := Lib.hid hbt
    clear y0 y1 y2 y3 y4 y5 hx
    by_cases h0 : i = 0
    · have hb : ((i : Int) != 0) = false := by subst h0; rfl
      have hb2 : ((i : Int) == 0) = true := by subst h0; rfl
      have hE : Hid (cameS P (aboveI P m) (pre ++ [x]) = cameS P (aboveI P m) pre) := Lib.hid (by rw [HSN.out, if_neg (by simp [h0]), List.append_nil])
      clear hA hbt h0
      gi_wp2
      exact ⟨F, ⟨by rw [hE.out]; exact HA.out, HBW.out⟩, Touch.refl _ _, fun k hk => .inl hk⟩
    · have hb : ((i : Int) != 0) = true := by simp [h0]
      have hb2 : ((i : Int) == 0) = false := by simp [h0]
      have hE : cameS P (aboveI P m) (pre ++ [x]) = cameS P (aboveI P m) pre ++ [subP P i] := by rw [HSN.out, if_pos (by simp [h0])]
      have htd : Touch F W W.drew := (Touch.refl F W).drew
      obtain ⟨A1, c1, A2, c2, X', hq1, hrun, hq2, F2, hI2, ht2, hF2⟩ := (hA.kept (n0 := w.heap.size) (Nat.le_refl _) ((Touch.refl _ W).drew)).push (by omega) (by have := HS1.out; have := HS3.out; omega) hsz hcl (subP P i)
      rw [← hE] at hI2
      replace ht2 := htd.trans ht2 (fun k _ hk => hk)
      have HI2 := Lib.hid hI2
      have HT2 := Lib.hid ht2
      have HF2 := Lib.hid hF2
      have hnF : ¬ F w.heap.size := fun e => by have := hA.within (n0 := w4.heap.size) (by have := HS1.out; have := HS3.out; omega) rfl _ e; obtain ⟨_, _, _, _, ho, hF⟩ := hA; rcases (hF _).1 e with e | e; omega; have := ho _ e; have := HS1.out; have := HS3.out; omega
      have HBE := Lib.hid ((ht2.block _ (heap_lt hbt) hnF).trans hbt)
      generalize (cameS P (aboveI P m) pre).length = LL at *
      have p1 := cell_of hq1 0
      have p2 := cell_of hq2 0
      have p3 := free0 hq2 0
      generalize subP P i = sb at *
      clear hE hI2 hF2 hnF ht2 hq1 hq2 hA hbt h0 hcl hlen hsz
      gi_wp2
      have hmx : Tryd.prog.follows .mixedOrders = true := by kernel_rfl
      change (Builtin.append_ #[24, 24] 24 #[.slice A1 LL c1, .slice (some ⟨W.heap.size, 0, none⟩) 1 1]).run Tryd.prog (W.drew.alloc (.cells #[.int .i64 sb] 3)) = .ok (.slice A2 (LL + 1) c2) X' at hrun
      have hS0 : (fun V : World => V.cell? ⟨w.heap.size + 1, 0, none⟩ = some (.slice A1 LL c1) ∧ V.cell? ⟨w.heap.size, 0, none⟩ = some (.slice (some ⟨g, 0, none⟩) P.length cap) ∧ V.cell? ⟨g, i * 3, none⟩ = some (.int .i64 sb)) W.drew := ⟨p1, kt, k0⟩
      refine wpIn_region_L (d := 8) (S := fun V : World => V.cell? ⟨w.heap.size + 1, 0, none⟩ = some (.slice A1 LL c1) ∧ V.cell? ⟨w.heap.size, 0, none⟩ = some (.slice (some ⟨g, 0, none⟩) P.length cap) ∧ V.cell? ⟨g, i * 3, none⟩ = some (.int .i64 sb)) hmx ?_
      refine wpAnyL_take (i := 0) (v := ?hv0) 26 (by kernel_rfl) rfl (by kernel_rfl) (by kernel_rfl) (by kernel_rfl) (by kernel_rfl) (by decide) (by kernel_rfl) (fun _ _ _ h => h) (fun _ => rfl) ?hz0 hS0 ?rs0
      case hz0 => refine Or.inl ⟨by rfl, ?_⟩; intro V hSw; (try dsimp only at hSw); go_simp; (try with_reducible rfl)
      try simp only [List.getElem_toArray, List.getElem_cons_succ, List.getElem_cons_zero, Act.put, List.setIfInBounds_toArray, List.set_cons_zero, List.set_cons_succ]
      refine wpAnyL_take (i := 1) (v := ?hv1) 26 (by kernel_rfl) rfl (by kernel_rfl) (by kernel_rfl) (by kernel_rfl) (by kernel_rfl) (by decide) (by kernel_rfl) (fun _ _ _ h => h) (fun _ => rfl) ?hz1 hS0 ?rs1
      case hz1 => refine Or.inl ⟨by rfl, ?_⟩; intro V hSw; (try dsimp only at hSw); go_simp; (try with_reducible rfl)
      try simp only [List.getElem_toArray, List.getElem_cons_succ, List.getElem_cons_zero, Act.put, List.setIfInBounds_toArray, List.set_cons_zero, List.set_cons_succ]
      refine wpAnyL_take (i := 2) (v := ?hv2) 26 (by kernel_rfl) rfl (by kernel_rfl) (by kernel_rfl) (by kernel_rfl) (by kernel_rfl) (by decide) (by kernel_rfl) (fun _ _ _ h => h) (fun _ => rfl) ?hz2 hS0 ?rs2
      case hz2 => refine Or.inl ⟨by rfl, ?_⟩; intro V hSw; (try dsimp only at hSw); go_simp; (try with_reducible rfl)
      try simp only [List.getElem_toArray, List.getElem_cons_succ, List.getElem_cons_zero, Act.put, List.setIfInBounds_toArray, List.set_cons_zero, List.set_cons_succ]
      refine wpAnyL_take (i := 3) (v := ?hv3) 26 (by kernel_rfl) rfl (by kernel_rfl) (by kernel_rfl) (by kernel_rfl) (by kernel_rfl) (by decide) (by kernel_rfl) (fun _ _ _ h => h) (fun _ => rfl) ?hz3 hS0 ?rs3
      case hz3 => refine Or.inl ⟨by rfl, ?_⟩; intro V hSw; (try dsimp only at hSw); go_simp; (try with_reducible rfl)
      try simp only [List.getElem_toArray, List.getElem_cons_succ, List.getElem_cons_zero, Act.put, List.setIfInBounds_toArray, List.set_cons_zero, List.set_cons_succ]
      refine wpAnyL_take (i := 4) (v := ?hv4) 26 (by kernel_rfl) rfl (by kernel_rfl) (by kernel_rfl) (by kernel_rfl) (by kernel_rfl) (by decide) (by kernel_rfl) (fun _ _ _ h => h) (fun _ => rfl) ?hz4 hS0 ?rs4
      case hz4 => refine Or.inl ⟨by rfl, ?_⟩; intro V hSw; (try dsimp only at hSw); go_simp; (try with_reducible rfl)
      try simp only [List.getElem_toArray, List.getElem_cons_succ, List.getElem_cons_zero, Act.put, List.setIfInBounds_toArray, List.set_cons_zero, List.set_cons_succ]
      refine wpAnyL_take (i := 5) (v := ?hv5) 26 (by kernel_rfl) rfl (by kernel_rfl) (by kernel_rfl) (by kernel_rfl) (by kernel_rfl) (by decide) (by kernel_rfl) (fun _ _ _ h => h) (fun _ => rfl) ?hz5 hS0 ?rs5
      case hz5 => refine Or.inl ⟨by rfl, ?_⟩; intro V hSw; (try dsimp only at hSw); go_simp; (try with_reducible rfl)
      try simp only [List.getElem_toArray, List.getElem_cons_succ, List.getElem_cons_zero, Act.put, List.setIfInBounds_toArray, List.set_cons_zero, List.set_cons_succ]
      refine wpAnyL_take (i := 6) (v := ?hv6) 26 (by kernel_rfl) rfl (by kernel_rfl) (by kernel_rfl) (by kernel_rfl) (by kernel_rfl) (by decide) (by kernel_rfl) (fun _ _ _ h => h) (fun _ => rfl) ?hz6 hS0 ?rs6
      case hz6 => refine Or.inl ⟨by rfl, ?_⟩; intro V hSw; (try dsimp only at hSw); go_simp; (try with_reducible rfl)
      try simp only [List.getElem_toArray, List.getElem_cons_succ, List.getElem_cons_zero, Act.put, List.setIfInBounds_toArray, List.set_cons_zero, List.set_cons_succ]
      refine wpAnyL_step (i := 7) (by kernel_rfl) rfl (fun K hK => ?_)
      go_simp
      refine hK _ _ ?_ ?_
      · have hbn := below_new (w := W) (.cells #[.int .i64 sb] 3)
        exact ⟨(hbn.cell (p := ⟨w.heap.size + 1, 0, none⟩) (heap_lt' hS0.1)).trans hS0.1, (hbn.cell (p := ⟨w.heap.size, 0, none⟩) (heap_lt' hS0.2.1)).trans hS0.2.1, (hbn.cell (p := ⟨g, i * 3, none⟩) (heap_lt' hS0.2.2)).trans hS0.2.2⟩
      clear hK K
      try simp only [List.getElem_toArray, List.getElem_cons_succ, List.getElem_cons_zero, Act.put, List.setIfInBounds_toArray, List.set_cons_zero, List.set_cons_succ]
      change (Builtin.append_ #[24, 24] 24 #[.slice A1 LL c1, .slice (some ⟨W.heap.size, 0, none⟩) 1 1]).run Tryd.prog (W.alloc (.cells #[.int .i64 sb] 3)).drew = .ok (.slice A2 (LL + 1) c2) X' at hrun
      refine wpAnyL_one (i := 8) (by kernel_rfl) rfl (by kernel_rfl) (fun K hK => ?_)
      rw [if_pos (by rfl)]
      refine operIn_app_run _ _ _ _ rfl rfl rfl hrun (hK _ _ ?_)
      clear hK K
      try simp only [List.getElem_toArray, List.getElem_cons_succ, List.getElem_cons_zero, Act.put, List.setIfInBounds_toArray, List.set_cons_zero, List.set_cons_succ]
      refine wpAnyIn_one (i := 9) (by kernel_rfl) rfl (fun K hK => ?_)
      go_simp
      refine hK _ _ ?_
      clear hK K
      try simp only [List.getElem_toArray, List.getElem_cons_succ, List.getElem_cons_zero, Act.put, List.setIfInBounds_toArray, List.set_cons_zero, List.set_cons_succ]
      refine wpAnyIn_done (by kernel_rfl) ?_ _
      gi_wp2
      exact ⟨F2, ⟨HI2.out, HBE.out⟩, HT2.out, HF2.out⟩
  case done =>
    rintro D' ys W F hD' hnF hys ⟨⟨hb, v, hB, hr, ho, hF⟩, _⟩ hK
    have hcl : (cameS P (aboveI P m) ys).length ≤ 1000000 := by
      have h1 := cameS_len P (aboveI P m) ys
      have h2 := congrArg List.length hys
      rw [List.length_map, List.length_range] at h2
      omega
    rw [cameS_all HT.out hys] at hr hcl
    have HRV := Lib.hid (reverse_any hr hcl)
    rw [List.reverse_reverse] at HRV
    have q0 := cell_of hB 0
    simp at q0
    have HK := Lib.hid hK
    have HB := Lib.hid hb
    have HO := Lib.hid ho
    have HBB := Lib.hid hB
    have hnv : ∀ g, v.ownBlock = some g → g ≠ D' ∧ g ≠ w.heap.size + 1 := fun g hg => ⟨fun e => hnF (by rw [← e]; exact (hF g).2 (.inr hg)), fun e => by have := ho g hg; have := HS1.out; have := HS3.out; omega⟩
    have HNV := Lib.hid hnv
    clear hys hK hb hr ho hB hF hnv hcl
    go_wp2_with fail
    refine (HRV.out).mono ?_
    rintro e W2 ⟨rfl, hr2, ht2⟩
    have hB2 := (ht2.block _ (heap_lt HBB.out) (fun e => (HNV.out _ e).2 rfl)).trans HBB.out
    have hK2 := (ht2.block _ (heap_lt HK.out) (fun e => (HNV.out _ e).1 rfl)).trans HK.out
    have q2 := cell_of hB2 0
    simp at q2
    have HR2 := Lib.hid hr2
    have HK2 := Lib.hid hK2
    have HB3 := Lib.hid (HB.out.trans (ht2.below (B := w.heap.size) (fun k hk => by have := HO.out k hk; have := HS1.out; have := HS3.out; omega) HB.out.size))
    clear hr2 ht2 hB2 hK2 q0
    go_wp2_with fail
    refine ⟨by simp, .inl ⟨_, _, rfl, run_takeDeferred HK2.out, ?_⟩⟩
    refine ⟨v, by simp [results, Tryd.results13, go_sem], ?_⟩
    have h1 := HS1.out
    have h3 := HS3.out
    refine ⟨v, rfl, HR2.out.keep (by rw [World.putObj_size]; exact Nat.le_refl _) (fun g hg => World.putObj_heap_other (HNV.out g hg).1), fun g hg => by have := HO.out g hg; omega, ?_⟩
    refine HB3.out.grown (grownBy_putObj' _ D' _) HB3.out.size (fun k e => ?_)
    cases e
    omega
end Go.Proofs.YtpploljennbpdaaDoor
