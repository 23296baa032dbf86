/- trie: Below, Leaves. -/
import Derived.Test.YtpploljennbpdaaDoorZTriK
set_option linter.unusedSimpArgs false
set_option linter.unusedVariables false
set_option linter.unnecessarySimpa false
namespace Go.Proofs.YtpploljennbpdaaDoor
open Go.RowKit Go.Shelf
attribute [local go_sem] Oper.semAt_some

set_option maxRecDepth 100000 in
set_option maxHeartbeats 2000000 in
theorem downwards_any (w : World) (v : Value) (m : Int) (hv : v.oneCell' = true) : Calls Tryd.prog 35 #[.agg #[v], .int .i64 m] w fun e w' => e = .returned (.func (.func 45) #[] #[.pointer (some ⟨w.heap.size, 0, none⟩), .pointer (some ⟨w.heap.size + 1, 0, none⟩)]) ∧ w' = (w.alloc (.cells #[v] 27)).alloc (.cells #[.int .i64 m] 3) := by
  go_enter Tryd.func35, Tryd.ntmps35
  go_wp2_with fail
  go_ret
  first | trivial | exact ⟨rfl, rfl⟩
/-- The world behind a call of upwards or downwards. -/
theorem two_boxes {w1 : World} {v : Value} {m : Int} {N : List Nd} {P : List Pth} (h : TrAt w1 v N P) : ∃ w3, w3 = (w1.alloc (.cells #[v] 27)).alloc (.cells #[.int .i64 m] 3) ∧ Below w1.heap.size w1 w3 ∧ w3.heap.size = w1.heap.size + 2 ∧ w3.cell? ⟨w1.heap.size + 1, 0, none⟩ = some (.int .i64 m) ∧ w3.cell? ⟨w1.heap.size, 0, none⟩ = some v ∧ TrAt w3 v N P := by
  refine ⟨_, rfl, ?_⟩
  have hb3 : Below w1.heap.size w1 ((w1.alloc (.cells #[v] 27)).alloc (.cells #[.int .i64 m] 3)) := (below_new _).trans ((below_new _).mono (by rw [asz]; omega))
  refine ⟨hb3, by rw [asz, asz], ?_, ?_, h.below hb3⟩
  · have := alloc_at (w1.alloc (.cells #[v] 27)) (.cells #[.int .i64 m] 3)
    rw [asz] at this
    exact cell_of this 0
  · exact cell_of ((Below.heap_alloc (w1.alloc (.cells #[v] 27)) (.cells #[.int .i64 m] 3) w1.heap.size (by rw [asz]; omega)).trans (alloc_at w1 _)) 0
theorem trs_lt {w : World} {v : Value} {N : List Nd} {P : List Pth} {Bn Bt : Nat} (h : TrAt w v N P) (h1 : Bn < w.heap.size) (h2 : Bt < w.heap.size) : ∀ k, TrS Bn Bt v N k → k < w.heap.size := fun k hk => by
  rcases hk with rfl | rfl | hk
  · exact h1
  · exact h2
  · exact h.own_lt _ hk
set_option maxRecDepth 100000 in
set_option maxHeartbeats 4000000 in
theorem Below_any {w : World} {v : Value} {N : List Nd} {P : List Pth} (m : Int) (h : TrAt w v N P) (hP : P.length ≤ 1000) :
    Calls Tryd.prog 16 #[.agg #[v], .int .i64 m] w fun e w' => ∃ v', e = .returned v' ∧ RowIs w' 1 v' (belowI P m).length (ints (natI (belowI P m))) ∧ (∀ g, v'.ownBlock = some g → w.heap.size ≤ g) ∧ Below w.heap.size w w' := by
  obtain ⟨g, cap, rfl, _, _, _⟩ := h.form
  have hb1 := below_new (w := w) (.cells #[.slice (some ⟨g, 0, none⟩) P.length cap] 27)
  obtain ⟨w1, hw1⟩ : ∃ w1, w1 = w.alloc (.cells #[.slice (some ⟨g, 0, none⟩) P.length cap] 27) := ⟨_, rfl⟩
  rw [← hw1] at hb1
  obtain ⟨w3, hw3, hb3, hs3, hcn, hct, hv3⟩ := two_boxes (m := m) (h.below hb1)
  have hl : (belowI P m).length ≤ 1000 := Nat.le_trans (belowI_le h.tree m) hP
  have HC := Lib.hid (collect_any (enters_of Tryd.func45 (by kernel_rfl) rfl) hl (down_foot 7 (by omega) (w1.heap.size + 1) w1.heap.size (.slice (some ⟨g, 0, none⟩) P.length cap) N P m hP w3 hcn hct hv3) (Below.refl _ w3) (trs_lt hv3 (by omega) (by omega)))
  have HU := Lib.hid (downwards_any w1 (.slice (some ⟨g, 0, none⟩) P.length cap) m rfl)
  rw [← hw3] at HU
  have hs1 : w1.heap.size = w.heap.size + 1 := by rw [hw1, asz]
  rw [hs1] at HU HC
  clear hs1
  have HB13 := Lib.hid (hb1.trans (hb3.mono hb1.size))
  have HW1 := Lib.hid hw1
  have hsw : w.heap.size ≤ w3.heap.size := by have := hb1.size; omega
  clear hw3 hb3 hs3 hcn hct hv3 hl h hP hb1
  go_enter Tryd.func16, Tryd.ntmps16
  go_wp2_with fail
  rw [← HW1.out]
  refine (HU.out).mono ?_
  rintro e w4 ⟨rfl, rfl⟩
  go_wp2_with fail
  refine (HC.out).mono ?_
  rintro e w5 ⟨v', rfl, h1, h2, h3⟩
  have H1 := Lib.hid h1
  have H2 := Lib.hid h2
  have H3 := Lib.hid h3
  clear h1 h2 h3
  go_wp2_with fail
  refine bodyPost_ret (v := v') (by simp [results, Tryd.results16, go_sem]) rfl ⟨v', rfl, H1.out, fun g hg => Nat.le_trans hsw (H2.out g hg), HB13.out.trans (H3.out.mono HB13.out.size)⟩
/-- What came and is a leaf. -/
def cameL (P : List Pth) (l : List Nat) (pre : List (RndL l)) : List Nat := (pre.map fun x => rndN l x.1).filter fun n => (kidsP P n).isEmpty
theorem cameL_snoc (P : List Pth) (l : List Nat) (pre : List (RndL l)) (x : RndL l) : cameL P l (pre ++ [x]) = cameL P l pre ++ if (kidsP P (rndN l x.1)).isEmpty then [rndN l x.1] else [] := by
  unfold cameL
  rw [List.map_append, List.filter_append]
  congr 1
  show List.filter _ [rndN l x.1] = _
  rw [List.filter_cons]
  rfl
theorem cameL_len (P : List Pth) (l : List Nat) (pre : List (RndL l)) : (cameL P l pre).length ≤ pre.length := by
  unfold cameL
  refine Nat.le_trans (List.length_filter_le _ _) ?_
  rw [List.length_map]
  exact Nat.le_refl _
theorem rnds_all {l : List Nat} {ys : List (RndL l)} (h : ys.map (·.1) = List.range l.length) : ys.map (fun x => rndN l x.1) = l := by
  have : ys.map (fun x => rndN l x.1) = (ys.map (·.1)).map fun j => rndN l j := by rw [List.map_map]; rfl
  rw [this, h]
  refine List.ext_getElem? fun i => ?_
  rw [List.getElem?_map]
  by_cases hi : i < l.length
  · rw [List.getElem?_range hi, Option.map_some, rndN_at hi]
  · rw [List.getElem?_eq_none (by rw [List.length_range]; omega), List.getElem?_eq_none (by omega)]; rfl
theorem cameL_all {P : List Pth} (hT : TreeP P) {ys : List (RndL (belowI P 0))} (h : ys.map (·.1) = List.range (belowI P 0).length) : cameL P (belowI P 0) ys = leavesP P := by
  unfold cameL leavesP
  rw [rnds_all h]
  have h0 : 0 < P.length := (List.getElem?_eq_some_iff.1 hT.root).1
  have := below_nat h0
  rw [show ((0 : Nat) : Int) = 0 from rfl] at this
  rw [this]
section
variable {w0 W W' : World} {B b : Nat} {l : List Int} {F : Nat → Prop}
theorem AccAt.kept (h : AccAt w0 B b 24 l W F) {n0 : Nat} (hn : w0.heap.size ≤ n0) (ht : Touch (fun k => n0 ≤ k ∧ ¬ F k) W W') : AccAt w0 B b 24 l W' F := by
  obtain ⟨h1, v, hB, hr, ho, hF⟩ := h
  exact ⟨h1.trans (ht.below (fun i hi => by have := hi.1; omega) h1.size), v, (ht.block _ (heap_lt hB) (fun e => e.2 ((hF _).2 (.inl rfl)))).trans hB, hr.touch ht (fun g hg e => e.2 ((hF g).2 (.inr hg))), ho, hF⟩
theorem AccAt.within (h : AccAt w0 B b 24 l W F) {n0 : Nat} (hB0 : B < n0) (hb : b = n0 + 2) : ∀ k, F k → k < W.heap.size ∧ (k < n0 ∨ n0 + 2 ≤ k) := fun k hk => by
  obtain ⟨h1, v, hB, hr, ho, hF⟩ := h
  rcases (hF k).1 hk with rfl | hk
  · exact ⟨heap_lt hB, .inl hB0⟩
  · exact ⟨hr.lt k hk, .inr (by have := ho k hk; omega)⟩
theorem AccAt.below (h : AccAt w0 B b 24 l W F) (hb : Below W.heap.size W W') : AccAt w0 B b 24 l W' F := h.kept (n0 := w0.heap.size) (Nat.le_refl _) (.of_below hb)
theorem AccAt.push (h : AccAt w0 B b 24 l W F) (hB0 : w0.heap.size ≤ B) (hBb : B < b) (hsz : b ≤ W.heap.size) (hl : l.length ≤ 100000) (y : Int) :
    ∃ A c A' c' W', W.heap[B]? = some (.cells #[.slice A l.length c] 24 (0, 0)) ∧ (Builtin.append_ #[24, 24] 24 #[.slice A l.length c, .slice (some ⟨W.heap.size, 0, none⟩) 1 1]).run Tryd.prog (W.alloc (.cells #[.int .i64 y] 3)) = .ok (.slice A' (l.length + 1) c') W' ∧
      W'.heap[B]? = some (.cells #[.slice A l.length c] 24 (0, 0)) ∧ ∃ F', AccAt w0 B b 24 (l ++ [y]) (W'.setCell ⟨B, 0, none⟩ (.slice A' (l.length + 1) c')) F' ∧ Touch F W (W'.setCell ⟨B, 0, none⟩ (.slice A' (l.length + 1) c')) ∧ ∀ k, F' k → F k ∨ W.heap.size ≤ k := by
  obtain ⟨h1, u, hB, hr, ho, hF⟩ := h
  obtain ⟨A, c, rfl, _⟩ := id hr.form
  obtain ⟨v', W', hrun, hv', ht, ho'⟩ := app_int y 24 hr (by omega)
  have eL : (l ++ [y]).length = l.length + 1 := by rw [List.length_append]; rfl
  obtain ⟨A', c', hve, _⟩ := id hv'.form
  rw [eL] at hve
  subst hve
  have hBl := heap_lt hB
  have nB : (Value.slice A l.length c).ownBlock ≠ some B := fun e => by have := ho B e; omega
  have hB1 : W'.heap[B]? = some (.cells #[.slice A l.length c] 24 (0, 0)) := (ht.block _ hBl (fun e => nB e)).trans hB
  have s2 := set_at hB1 0 (.slice A' (l.length + 1) c')
  simp only [Array.setIfInBounds, List.size_toArray, List.length_cons, List.length_nil, Nat.zero_add, Nat.lt_add_one, dite_true, ↓reduceDIte] at s2
  have nB' : ∀ g, (Value.slice A' (l.length + 1) c').ownBlock = some g → g ≠ B := fun g hg e => by
    rcases ho' g hg with h | h
    · exact nB (e ▸ h)
    · omega
  have htF : Touch F W (W'.setCell ⟨B, 0, none⟩ (.slice A' (l.length + 1) c')) := (ht.mono (fun k _ hk => (hF k).2 (.inr hk))).setCell ⟨B, 0, none⟩ (fun _ => (hF _).2 (.inl rfl)) _
  refine ⟨A, c, A', c', W', hB, hrun, hB1, fun k => k = B ∨ (Value.slice A' (l.length + 1) c').ownBlock = some k, ⟨h1.trans (htF.below (fun k hk => ?_) h1.size), _, s2, ?_, fun g hg => ?_, fun k => Iff.rfl⟩, htF, fun k hk => ?_⟩
  · rcases (hF k).1 hk with rfl | e
    · exact hB0
    · have := ho k e; omega
  · rw [eL]
    rw [eL] at hv'
    exact hv'.keep (by simp [World.setCell]) (fun g hg => Below.heap_setCell _ _ _ _ (nB' g hg))
  · rcases ho' g hg with e | e
    · exact ho g e
    · omega
  · rcases hk with rfl | hk
    · exact .inl ((hF _).2 (.inl rfl))
    · rcases ho' k hk with e | e
      · exact .inl ((hF _).2 (.inr e))
      · exact .inr e
end
set_option maxRecDepth 100000 in
set_option maxHeartbeats 4000000 in
theorem Leaves_any {w : World} {v : Value} {N : List Nd} {P : List Pth} (h : TrAt w v N P) (hP : P.length ≤ 1000) :
    Calls Tryd.prog 24 #[.agg #[v]] w fun e w' => ∃ v', e = .returned v' ∧ RowIs w' 1 v' (leavesP P).length (ints (natI (leavesP P))) ∧ (∀ g, v'.ownBlock = some g → w.heap.size ≤ g) ∧ Below w.heap.size w w' := by
  obtain ⟨g, cap, rfl, _, _, _⟩ := h.form
  have hT := h.tree
  obtain ⟨w1, hw1⟩ : ∃ w1, w1 = (w.alloc (.cells #[.slice (some ⟨g, 0, none⟩) P.length cap] 27)).alloc (.cells #[.slice none 0 0] 24) := ⟨_, rfl⟩
  have hb1 : Below w.heap.size w w1 := by rw [hw1]; exact (below_new _).trans ((below_new _).mono (by rw [asz]; omega))
  have hs1 : w1.heap.size = w.heap.size + 2 := by rw [hw1, asz, asz]
  have hbx : w1.heap[w.heap.size + 1]? = some (.cells #[.slice none 0 0] 24 (0, 0)) := by
    have := alloc_at (w.alloc (.cells #[.slice (some ⟨g, 0, none⟩) P.length cap] 27)) (.cells #[.slice none 0 0] 24)
    rw [asz, ← hw1] at this
    exact this
  have hbt : w1.heap[w.heap.size]? = some (.cells #[.slice (some ⟨g, 0, none⟩) P.length cap] 27 (0, 0)) := by
    rw [hw1, Below.heap_alloc _ _ _ (by rw [asz]; omega)]
    exact alloc_at w _
  obtain ⟨w3, hw3, hb3, hs3, hcn, hct, hv3⟩ := two_boxes (m := 0) (h.below hb1)
  have hl : (belowI P 0).length ≤ 1000 := Nat.le_trans (belowI_le h.tree 0) hP
  have HSQ := Lib.hid (down_foot 7 (by omega) (w1.heap.size + 1) w1.heap.size (.slice (some ⟨g, 0, none⟩) P.length cap) N P 0 hP w3 hcn hct hv3)
  have HTR := Lib.hid (trs_lt hv3 (Bn := w1.heap.size + 1) (Bt := w1.heap.size) (by omega) (by omega))
  have HU := Lib.hid (downwards_any w1 (.slice (some ⟨g, 0, none⟩) P.length cap) 0 rfl)
  rw [← hw3] at HU
  rw [hs1] at HU HSQ HTR
  have HB13 := Lib.hid (hb1.trans (hb3.mono hb1.size))
  have HW1 := Lib.hid hw1
  have HS3 := Lib.hid hs3
  have HS1 := Lib.hid hs1
  have HBX := Lib.hid ((hb3.block _ (heap_lt hbx)).trans hbx)
  have HBT := Lib.hid ((hb3.block _ (heap_lt hbt)).trans hbt)
  have HV := Lib.hid h
  have HT := Lib.hid hT
  have kt := cell_of hbt 0
  clear hw3 hb3 hcn hct hv3 h hb1 hbx hbt hw1 hs1 hs3 hT
  refine (callsIn_wide (n := 9)).1 ?_
  refine callsIn_of_wp_marks Tryd.func24 rfl trivial ?_ rfl
  simp only [Tryd.ntmps24, List.size_toArray, List.length_cons, List.length_nil, Nat.reduceAdd, Nat.reduceSub, Array.replicate_succ, Array.replicate_zero, List.push_toArray, List.append_toArray, List.nil_append, List.cons_append]
  refine wpIn_wide.2 ?_
  go_wp2_with fail
  rw [← HW1.out]
  refine (HU.out).mono ?_
  rintro e w4 ⟨rfl, rfl⟩
  go_wp2_with fail
  refine (wpIn_wide (n := 8)).1 ?_
  refine wpIn_rangeFunc_foot (n := 8) (by omega) (gf := 45) (lb := #[.pointer (some ⟨w.heap.size + 2, 0, none⟩), .pointer (some ⟨w.heap.size + 2 + 1, 0, none⟩)]) rfl (enters_of Tryd.func45 (by kernel_rfl) rfl) HSQ.out (Below.refl _ _) HTR.out (fun _ => rfl)
    (fun pre W F => AccAt w (w.heap.size + 1) (w4.heap.size + 2) 24 (natI (cameL P (belowI P 0) pre)) W F ∧ W.heap[w.heap.size]? = some (.cells #[.slice (some ⟨g, 0, none⟩) P.length cap] 27 (0, 0)))
    (fun _ _ _ _ => False) ?hI (fun s W F h => h.1.within (by have := HS1.out; have := HS3.out; omega) rfl) (fun c s X X' Fi h => h.elim) (fun c s X Fi h => h.elim) (fun k => k = w.heap.size + 1) ?h0 ?hF0
    (fun x => { tmps := #[.agg #[.slice (some ⟨g, 0, none⟩) P.length cap], .pointer (some ⟨w.heap.size, 0, none⟩), .slice none 0 0, .pointer (some ⟨w.heap.size + 1, 0, none⟩), .int .i64 (rndN (belowI P 0) x.1 : Int), .agg #[.slice (some ⟨g, 0, none⟩) P.length cap], .func (.func 45) #[] #[.pointer (some ⟨w.heap.size + 2, 0, none⟩), .pointer (some ⟨w.heap.size + 2 + 1, 0, none⟩)], .int .i64 (rndN (belowI P 0) x.1 : Int), undef, undef, undef, undef, undef, undef, undef, undef], defers := [] })
    ?assign ?body ?done (fun D' c pr X Fi _ _ _ h => h.elim)
  case hI =>
    rintro s W W' F ⟨h1, h2⟩ ht
    have := HB13.out.size
    exact ⟨h1.kept this ht, (ht.block _ (heap_lt h2) (fun e => by have := e.1; have := HS1.out; have := HS3.out; omega)).trans h2⟩
  case h0 => exact ⟨⟨HB13.out, _, HBX.out, RowIs.nil _ _, (fun g e => by cases e), fun k => ⟨.inl, fun e => e.elim id (fun e => by cases e)⟩⟩, HBT.out⟩
  case hF0 =>
    rintro k hk rfl
    rcases hk with e | e | e
    · omega
    · omega
    · have := HV.out.own_lt _ e; omega
  case assign =>
    intro l' x W K hK
    simp only [rndL]
    gi_wp2
    exact hK
  case body =>
    rintro l' pre x W F ⟨hA, hbt⟩ hlen hsz
    have kt := cell_of hbt 0
    have HLF := Lib.hid (Leaf_any (rndN (belowI P 0) x.1 : Int) (HV.out.below hA.1) hP)
    have hx := rndN_at x.2
    have hxl := below_lt HT.out (List.mem_of_getElem? hx)
    have HLB := Lib.hid (leafB_in hxl)
    have HSN := Lib.hid (cameL_snoc P (belowI P 0) pre x)
    have hcl : (natI (cameL P (belowI P 0) pre)).length ≤ 100000 := by
      rw [natI_len]
      have := cameL_len P (belowI P 0) pre
      omega
    generalize rndN (belowI P 0) x.1 = i at *
    have hn1 : 1 ≤ 8 - 1 - 1 := by omega
    obtain ⟨lb, hlb⟩ : ∃ lb, leafB P (i : Int) = lb := ⟨_, rfl⟩
    rw [hlb] at HLF
    have HLE := Lib.hid hlb
    have HA := Lib.hid hA
    have HBW := Lib.hid hbt
    clear hA hbt hlb hx hxl
    have HSZ := Lib.hid hsz
    have HCL := Lib.hid hcl
    clear hsz hcl hlen
    gi_wp2
    refine ⟨trivial, ?_⟩
    refine (CallsIn.inRound l' (callsIn_wide.2 HLF.out)).mono ?_
    rintro e W2 ⟨rfl, hb2⟩
    have hA2 := HA.out.below hb2
    have hbt2 := (hb2.block _ (heap_lt HBW.out)).trans HBW.out
    have HB2 := Lib.hid hb2
    have HA2 := Lib.hid hA2
    have HBT2 := Lib.hid hbt2
    cases lb with
    | true =>
      have hE : cameL P (belowI P 0) (pre ++ [x]) = cameL P (belowI P 0) pre ++ [i] := by rw [HSN.out, if_pos (by rw [← HLB.out]; exact HLE.out)]
      obtain ⟨A1, c1, A2, c2, X', hq1, hrun, hq2, F2, hI2, ht2, hF2⟩ := hA2.push (by omega) (by have := HS1.out; have := HS3.out; omega) (by have := HSZ.out; have := hb2.size; omega) HCL.out (i : Int)
      rw [← natI_snoc, ← hE] at hI2
      have HI2 := Lib.hid hI2
      have htt : Touch F W (X'.setCell ⟨w.heap.size + 1, 0, none⟩ (.slice A2 ((natI (cameL P (belowI P 0) pre)).length + 1) c2)) := (Touch.of_below hb2).trans ht2 (fun k _ hk => hk)
      have HT2 := Lib.hid htt
      have hF3 : ∀ k, F2 k → F k ∨ W.heap.size ≤ k := fun k hk => (hF2 k hk).elim .inl (fun e => .inr (by have := hb2.size; omega))
      have HF2 := Lib.hid hF3
      have hnF : ¬ F w.heap.size := fun e => by have := HA.out.within (n0 := w4.heap.size) (by have := HS1.out; have := HS3.out; omega) rfl _ e; obtain ⟨_, _, _, _, ho, hF⟩ := HA.out; rcases (hF _).1 e with e | e; omega; have := ho _ e; have := HS1.out; have := HS3.out; omega
      have HBE := Lib.hid ((htt.block _ (heap_lt HBW.out) hnF).trans HBW.out)
      generalize (natI (cameL P (belowI P 0) pre)).length = LL at *
      have p1 := cell_of hq1 0
      have p2 := cell_of hq2 0
      have p3 := free0 hq2 0
      clear hE hI2 htt hF3 hF2 hnF hA2 hbt2 hb2 ht2 hq1 hq2 kt
      gi_wp2_with (gi_at_builtin; refine wpListIn_app_run rfl _ _ _ _ rfl rfl rfl hrun ?_)
      exact ⟨F2, ⟨HI2.out, HBE.out⟩, HT2.out, HF2.out⟩
    | false =>
      have hE : cameL P (belowI P 0) (pre ++ [x]) = cameL P (belowI P 0) pre := by rw [HSN.out, if_neg (by rw [← HLB.out, HLE.out]; simp), List.append_nil]
      have HE := Lib.hid hE
      clear hE hA2 hbt2 hb2 kt
      gi_wp2
      exact ⟨F, ⟨by rw [HE.out]; exact HA2.out, HBT2.out⟩, .of_below HB2.out, fun k hk => .inl hk⟩
  case done =>
    rintro D' ys W F hD' hnF hys ⟨⟨hb, v, hB, hr, ho, hF⟩, _⟩ hK
    rw [cameL_all HT.out hys, natI_len] at hr
    have q0 := cell_of hB 0
    simp at q0
    have HK := Lib.hid hK
    have HB := Lib.hid hb
    have HR := Lib.hid hr
    have HO := Lib.hid ho
    have hnv : ∀ g, v.ownBlock = some g → g ≠ D' := fun g hg e => hnF (by rw [← e]; exact (hF g).2 (.inr hg))
    have HNV := Lib.hid hnv
    clear hys hK hb hr ho hB hF hnv
    go_wp2_with fail
    refine ⟨by simp, .inl ⟨_, _, rfl, run_takeDeferred HK.out, ?_⟩⟩
    refine ⟨v, by simp [results, Tryd.results24, go_sem], ?_⟩
    have h1 := HS1.out
    have h3 := HS3.out
    refine ⟨v, rfl, HR.out.keep (by rw [World.putObj_size]; exact Nat.le_refl _) (fun g hg => World.putObj_heap_other (HNV.out g hg)), fun g hg => by have := HO.out g hg; omega, ?_⟩
    refine HB.out.grown (grownBy_putObj' _ D' _) HB.out.size (fun k e => ?_)
    cases e
    omega
end Go.Proofs.YtpploljennbpdaaDoor
