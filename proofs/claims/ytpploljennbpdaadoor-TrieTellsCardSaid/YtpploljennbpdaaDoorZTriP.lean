/- trie: Meet. -/
import Derived.Test.YtpploljennbpdaaDoorZTriN
set_option linter.unusedSimpArgs false
set_option linter.unusedVariables false
set_option linter.unnecessarySimpa false
namespace Go.Proofs.YtpploljennbpdaaDoor
open Go.RowKit Go.Shelf
attribute [local go_sem] Oper.semAt_some

def meetI (P : List Pth) (a b : Int) : Int := firstI (aboveI P a) (aboveI P b)
def cameN (l : List Nat) (pre : List (RndL l)) : List Nat := pre.map fun x => rndN l x.1
theorem cameN_snoc (l : List Nat) (pre : List (RndL l)) (x : RndL l) : cameN l (pre ++ [x]) = cameN l pre ++ [rndN l x.1] := by unfold cameN; rw [List.map_append]; rfl
theorem first_none {A B : List Nat} {ys : List (RndL A)} (h : ys.map (·.1) = List.range A.length) (hno : ∀ y ∈ ys, rndN A y.1 ∉ B) : firstI A B = -1 := by
  have he : A.find? (fun n => B.contains n) = none := by
    rw [List.find?_eq_none]
    intro n hn e
    rw [← rnds_all h] at hn
    obtain ⟨y, hy, rfl⟩ := List.mem_map.1 hn
    rw [List.contains_iff_mem] at e
    exact hno y hy e
  unfold firstI
  rw [he]
theorem first_hit {A B : List Nat} {pre : List (RndL A)} {x : RndL A} {k : Nat} (h : (pre ++ [x]).map (·.1) = List.range k) (hno : ∀ y ∈ pre, rndN A y.1 ∉ B) (hx : rndN A x.1 ∈ B) : firstI A B = (rndN A x.1 : Int) := by
  have hlen := congrArg List.length h
  rw [List.length_map, List.length_append, List.length_range, List.length_singleton] at hlen
  have hxv : x.1 = pre.length := by
    have h1 : ((pre ++ [x]).map (·.1))[pre.length]? = some pre.length := by rw [h, List.getElem?_range (by omega)]
    rw [List.getElem?_map, List.getElem?_append_right (Nat.le_refl _)] at h1
    simpa using h1
  have hget : ∀ j, j < pre.length → ∃ y ∈ pre, y.1 = j := fun j hj => by
    have h1 : ((pre ++ [x]).map (·.1))[j]? = some j := by rw [h, List.getElem?_range (by omega)]
    rw [List.getElem?_map, List.getElem?_append_left hj, List.getElem?_eq_getElem hj] at h1
    exact ⟨pre[j], List.getElem_mem hj, Option.some.inj h1⟩
  have hxl := x.2
  have he : A.find? (fun n => B.contains n) = some (rndN A x.1) := by
    rw [List.find?_eq_some_iff_getElem]
    have hxa := rndN_at hxl
    refine ⟨by rw [List.contains_iff_mem]; exact hx, x.1, hxl, (List.getElem?_eq_some_iff.1 hxa).2, fun j hj => ?_⟩
    obtain ⟨y, hy, e⟩ := hget j (by omega)
    have h2 := hno y hy
    have h3 := rndN_at y.2
    rw [Bool.not_eq_true', ← Bool.not_eq_true, List.contains_iff_mem]
    have h4 : A[j] = rndN A y.1 := by
      have := (List.getElem?_eq_some_iff.1 h3).2
      rw [← this]
      congr 1
      exact e.symm
    rw [h4]
    exact h2
  unfold firstI
  rw [he]
/-- Meet's own memory: the tree's box, the result's box, the box of the row that tells what is above. -/
structure OvAt (w : World) (u : Value) (P : List Pth) (res : Int) (O : List Nat) (W : World) : Prop where
  below : Below w.heap.size w W
  tree : W.heap[w.heap.size]? = some (.cells #[u] 27 (0, 0))
  res : W.heap[w.heap.size + 1]? = some (.cells #[.int .i64 res] 3 (0, 0))
  over : W.heap[w.heap.size + 1 + 1 + 1]? = some (.cells #[.slice (some ⟨w.heap.size + 1 + 1, 0, none⟩) P.length P.length] 59 (0, 0))
  row : RowC W 1 (w.heap.size + 1 + 1) P.length (metC P O)
theorem OvAt.touch {S : Nat → Prop} {w W W' : World} {u : Value} {P : List Pth} {res : Int} {O : List Nat} (h : OvAt w u P res O W) (ht : Touch S W W') (hS : ∀ k, S k → w.heap.size + 4 ≤ k) : OvAt w u P res O W' := by
  have n : ∀ j, j < w.heap.size + 4 → ¬ S j := fun j hj e => by have := hS j e; omega
  exact ⟨h.below.trans (ht.below (fun i hi => by have := hS i hi; omega) h.below.size), (ht.block _ (heap_lt h.tree) (n _ (by omega))).trans h.tree, (ht.block _ (heap_lt h.res) (n _ (by omega))).trans h.res, (ht.block _ (heap_lt h.over) (n _ (by omega))).trans h.over, h.row.keep ht.size (ht.block _ h.row.lt (n _ (by omega)))⟩
theorem OvAt.after {w W W' : World} {u : Value} {P : List Pth} {res : Int} {O : List Nat} (h : OvAt w u P res O W) (hb : Below W.heap.size W W') : OvAt w u P res O W' :=
  h.touch (S := fun _ => False) (.of_below hb) (fun _ e => e.elim)
theorem OvAt.lt {w W : World} {u : Value} {P : List Pth} {res : Int} {O : List Nat} (h : OvAt w u P res O W) : w.heap.size + 3 < W.heap.size := heap_lt h.over
theorem OvAt.met {w W : World} {u : Value} {P : List Pth} {res : Int} {O : List Nat} (h : OvAt w u P res O W) {i : Nat} (hi : i < P.length) : OvAt w u P res (O ++ [i]) (W.setCell ⟨w.heap.size + 1 + 1, i, none⟩ (.bool true)) ∧ Touch (fun k => k = w.heap.size + 1 + 1) W (W.setCell ⟨w.heap.size + 1 + 1, i, none⟩ (.bool true)) := by
  have htt : Touch (fun k => k = w.heap.size + 1 + 1) W (W.setCell ⟨w.heap.size + 1 + 1, i, none⟩ (.bool true)) := (Touch.refl (fun k => k = w.heap.size + 1 + 1) W).setCell ⟨w.heap.size + 1 + 1, i, none⟩ (fun _ => rfl) _
  have hm := h.row.setU (p := i) (by rw [metC_len]; exact hi) (.bool true)
  rw [metC_set hi] at hm
  exact ⟨⟨h.below.trans (htt.below (fun k hk => by omega) h.below.size), (htt.block _ (heap_lt h.tree) (by omega)).trans h.tree, (htt.block _ (heap_lt h.res) (by omega)).trans h.res, (htt.block _ (heap_lt h.over) (by omega)).trans h.over, hm⟩, htt⟩
theorem OvAt.told {w W : World} {u : Value} {P : List Pth} {res : Int} {O : List Nat} (h : OvAt w u P res O W) (r : Int) : OvAt w u P r O (W.setCell ⟨w.heap.size + 1, 0, none⟩ (.int .i64 r)) ∧ Touch (fun k => k = w.heap.size + 1) W (W.setCell ⟨w.heap.size + 1, 0, none⟩ (.int .i64 r)) := by
  have htt : Touch (fun k => k = w.heap.size + 1) W (W.setCell ⟨w.heap.size + 1, 0, none⟩ (.int .i64 r)) := (Touch.refl (fun k => k = w.heap.size + 1) W).setCell ⟨w.heap.size + 1, 0, none⟩ (fun _ => rfl) _
  have s2 := set_at h.res 0 (.int .i64 r)
  simp only [Array.setIfInBounds, List.size_toArray, List.length_cons, List.length_nil, Nat.zero_add, Nat.lt_add_one, dite_true, ↓reduceDIte] at s2
  exact ⟨⟨h.below.trans (htt.below (fun k hk => by omega) h.below.size), (htt.block _ (heap_lt h.tree) (by omega)).trans h.tree, s2, (htt.block _ (heap_lt h.over) (by omega)).trans h.over, h.row.keep htt.size (htt.block _ h.row.lt (by omega))⟩, htt⟩
/-- Where Meet begins. -/
theorem meet_start (w : World) (u : Value) (P : List Pth) (hP : P.length ≤ 1000) : ∃ w1, w1 = (((w.alloc (.cells #[u] 27)).alloc (.cells #[.int .i64 0] 3)).alloc (.cells (madeCells #[.bool false] P.length) 4)).alloc (.cells #[.slice (some ⟨w.heap.size + 1 + 1, 0, none⟩) P.length P.length] 59) ∧ OvAt w u P 0 [] w1 ∧ w1.heap.size = w.heap.size + 4 := by
  refine ⟨_, rfl, ?_, by rw [asz, asz, asz, asz]⟩
  have hr := made_met P ((w.alloc (.cells #[u] 27)).alloc (.cells #[.int .i64 0] 3)) hP
  rw [asz, asz] at hr
  have old : ∀ (a : World) (o : Obj) (j : Nat), j < a.heap.size → (a.alloc o).heap[j]? = a.heap[j]? := fun a o j hj => Below.heap_alloc a o j hj
  refine ⟨(((below_new _).trans ((below_new _).mono (by rw [asz]; omega))).trans ((below_new _).mono (by rw [asz, asz]; omega))).trans ((below_new _).mono (by rw [asz, asz, asz]; omega)), ?_, ?_, ?_, ?_⟩
  · rw [old _ _ _ (by rw [asz, asz, asz]; omega), old _ _ _ (by rw [asz, asz]; omega), old _ _ _ (by rw [asz]; omega)]
    exact alloc_at w _
  · rw [old _ _ _ (by rw [asz, asz, asz]; omega), old _ _ _ (by rw [asz, asz]; omega)]
    have := alloc_at (w.alloc (.cells #[u] 27)) (.cells #[.int .i64 0] 3)
    rwa [asz] at this
  · have := alloc_at (((w.alloc (.cells #[u] 27)).alloc (.cells #[.int .i64 0] 3)).alloc (.cells (madeCells #[.bool false] P.length) 4)) (.cells #[.slice (some ⟨w.heap.size + 1 + 1, 0, none⟩) P.length P.length] 59)
    rwa [asz, asz, asz] at this
  · exact hr.keep (by simp only [asz]; omega) (old _ _ _ (by rw [asz, asz, asz]; omega))
set_option maxRecDepth 100000 in
set_option maxHeartbeats 4000000 in
theorem Meet_any {w : World} {v : Value} {N : List Nd} {P : List Pth} (a b : Int) (h : TrAt w v N P) (hP : P.length ≤ 1000) :
    Calls Tryd.prog 20 #[.agg #[v], .int .i64 a, .int .i64 b] w fun e w' => e = .returned (.int .i64 (meetI P a b)) ∧ Below w.heap.size w w' := by
  obtain ⟨g, cap, rfl, hc1, hc2, _⟩ := h.form
  have hT := h.tree
  obtain ⟨w1, hw1, hov, hs1⟩ := meet_start w (.slice (some ⟨g, 0, none⟩) P.length cap) P hP
  have hmk := run_make_row' (P := Tryd.prog) (w := (w.alloc (.cells #[.slice (some ⟨g, 0, none⟩) P.length cap] 27)).alloc (.cells #[.int .i64 0] 3)) 59 4 (.bool false) 1 Tryd.underlying59 (by kernel_rfl) rfl (kl := .i64) (kc := .i64) (n := P.length) (by omega) (by omega)
  rw [asz, asz] at hmk
  obtain ⟨w3, hw3, hb3, hs3, hcn, hct, hv3⟩ := two_boxes (m := b) (h.below hov.below)
  have hl : (aboveI P b).length ≤ 1000 := Nat.le_trans (aboveI_le h.tree) hP
  have HSQ := Lib.hid (up_foot 7 (by omega) (w1.heap.size + 1) w1.heap.size (.slice (some ⟨g, 0, none⟩) P.length cap) N P b hP w3 hcn hct hv3)
  have HTR := Lib.hid (trs_lt hv3 (Bn := w1.heap.size + 1) (Bt := w1.heap.size) (by omega) (by omega))
  have HU := Lib.hid (upwards_any w1 (.slice (some ⟨g, 0, none⟩) P.length cap) b rfl)
  rw [← hw3] at HU
  rw [hs1] at HU HSQ HTR
  have HOV := Lib.hid (hov.after hb3)
  have HW1 := Lib.hid hw1
  have HS3 : Hid (w3.heap.size = w.heap.size + 6) := Lib.hid (by omega)
  have HV := Lib.hid h
  have HT := Lib.hid hT
  have HMK := Lib.hid hmk
  have hnI : (P.length : Int) ≤ 1000 := by omega
  have kt := cell_of hov.tree 0
  unfold maxLen at hc2
  clear hw3 hb3 hcn hct hv3 h hw1 hs1 hs3 hT hov hmk
  refine (callsIn_wide (n := 9)).1 ?_
  refine callsIn_of_wp_marks Tryd.func20 rfl trivial ?_ rfl
  simp only [Tryd.ntmps20, List.size_toArray, List.length_cons, List.length_nil, Nat.reduceAdd, Nat.reduceSub, Array.replicate_succ, Array.replicate_zero, List.push_toArray, List.append_toArray, List.nil_append, List.cons_append]
  refine wpIn_wide.2 ?_
  go_wp2_with fail
  rw [HMK.out]
  go_wp2_with fail
  rw [← HW1.out]
  refine (HU.out).mono ?_
  rintro e w4 ⟨rfl, rfl⟩
  go_wp2_with fail
  refine (wpIn_wide (n := 8)).1 ?_
  refine wpIn_rangeFunc_foot (n := 8) (by omega) (gf := 43) (lb := #[.pointer (some ⟨w.heap.size + 4 + 1, 0, none⟩), .pointer (some ⟨w.heap.size + 4, 0, none⟩)]) rfl (enters_of Tryd.func43 (by kernel_rfl) rfl) HSQ.out (Below.refl _ _) HTR.out (fun _ => rfl)
    (fun pre W F => OvAt w (.slice (some ⟨g, 0, none⟩) P.length cap) P 0 (cameN (aboveI P b) pre) W ∧ ∀ k, F k ↔ k = w.heap.size + 1 + 1)
    (fun _ _ _ _ => False) ?hI ?hIF (fun c s X X' Fi h => h.elim) (fun c s X Fi h => h.elim) (fun k => k = w.heap.size + 1 + 1) ?h0 ?hF0
    (fun x => { tmps := #[.agg #[.slice (some ⟨g, 0, none⟩) P.length cap], .int .i64 a, .int .i64 b, .pointer (some ⟨w.heap.size, 0, none⟩), undef, undef, .pointer (some ⟨w.heap.size + 1, 0, none⟩), .pointer (some ⟨w.heap.size + 1 + 1 + 1, 0, none⟩), .int .i64 (rndN (aboveI P b) x.1 : Int), undef, .pointer (some ⟨w.heap.size, 0, none⟩), .slice (some ⟨g, 0, none⟩) P.length cap, .int .i64 (P.length : Int), .slice (some ⟨w.heap.size + 1 + 1, 0, none⟩) P.length P.length, .agg #[.slice (some ⟨g, 0, none⟩) P.length cap], .int .i64 b, .func (.func 43) #[] #[.pointer (some ⟨w.heap.size + 4 + 1, 0, none⟩), .pointer (some ⟨w.heap.size + 4, 0, none⟩)], .int .i64 (rndN (aboveI P b) x.1 : Int), undef, undef, undef, undef, undef, undef, undef, undef, undef, undef, undef, undef], defers := [] })
    ?assign ?body ?done (fun D' c pr X Fi _ _ _ h => h.elim)
  case hI =>
    rintro s W W' F ⟨h1, h2⟩ ht
    exact ⟨h1.touch ht (fun k hk => by have := hk.1; have := HS3.out; omega), h2⟩
  case hIF =>
    rintro s W F ⟨h1, h2⟩ k hk
    have := (h2 k).1 hk
    subst this
    exact ⟨h1.row.lt, .inl (by have := HS3.out; omega)⟩
  case h0 => exact ⟨HOV.out, fun k => Iff.rfl⟩
  case hF0 =>
    rintro k hk rfl
    rcases hk with e | e | e
    · omega
    · omega
    · have := HV.out.own_lt _ e; omega
  case assign =>
    intro l' x W K hK
    simp only [rndL]
    gi_wp2
    exact hK
  case body =>
    rintro l' pre x W F ⟨hA, hF⟩ hlen hsz
    have hx := rndN_at x.2
    have hxl := aboveI_lt HT.out (List.mem_of_getElem? hx)
    have HSN := Lib.hid (cameN_snoc (aboveI P b) pre x)
    generalize rndN (aboveI P b) x.1 = i at *
    have hiI : (i : Int) < (P.length : Int) := by omega
    have p1 := cell_of hA.over 0
    obtain ⟨p2', p3⟩ := hA.row.there i (by omega)
    obtain ⟨u2, p2⟩ := Option.isSome_iff_exists.1 p2'
    obtain ⟨h2, ht⟩ := hA.met hxl
    rw [← HSN.out] at h2
    have H2 := Lib.hid h2
    have HT2 := Lib.hid (ht.mono (T := F) (fun k _ e => (hF k).2 e))
    have HF := Lib.hid hF
    clear p2' h2 ht hF hA hx
    gi_wp2
    exact ⟨F, ⟨H2.out, HF.out⟩, HT2.out, fun k hk => .inl hk⟩
  case done =>
    rintro D1 ys W F hD' hnF hys ⟨hov, _⟩ hK
    rw [show cameN (aboveI P b) ys = aboveI P b from rnds_all hys] at hov
    obtain ⟨w5, hw5, hb5, hs5, hcn, hct, hv5⟩ := two_boxes (m := a) (HV.out.below hov.below)
    have HSQ2 := Lib.hid (up_foot 7 (by omega) (W.heap.size + 1) W.heap.size (.slice (some ⟨g, 0, none⟩) P.length cap) N P a hP w5 hcn hct hv5)
    have HTR2 := Lib.hid (trs_lt hv5 (Bn := W.heap.size + 1) (Bt := W.heap.size) (by omega) (by omega))
    have HU2 := Lib.hid (upwards_any W (.slice (some ⟨g, 0, none⟩) P.length cap) a rfl)
    rw [← hw5] at HU2
    have HOV5 := Lib.hid (hov.after hb5)
    have HK5 := Lib.hid ((hb5.block _ (heap_lt hK)).trans hK)
    have HD1 : Hid (w.heap.size + 6 ≤ D1 ∧ D1 < W.heap.size) := Lib.hid ⟨by have := HS3.out; omega, heap_lt hK⟩
    have HS5 := Lib.hid hs5
    have kt := cell_of hov.tree 0
    clear hw5 hb5 hs5 hcn hct hv5 hys hov hK hnF
    go_wp2_with fail
    refine (HU2.out).mono ?_
    rintro e w6 ⟨rfl, rfl⟩
    go_wp2_with fail
    refine (wpIn_wide (n := 8)).1 ?_
    refine wpIn_rangeFunc_foot (n := 8) (by omega) (gf := 43) (lb := #[.pointer (some ⟨W.heap.size + 1, 0, none⟩), .pointer (some ⟨W.heap.size, 0, none⟩)]) rfl (enters_of Tryd.func43 (by kernel_rfl) rfl) HSQ2.out (Below.refl _ _) HTR2.out (fun _ => rfl)
      (fun pre X F => OvAt w (.slice (some ⟨g, 0, none⟩) P.length cap) P 0 (aboveI P b) X ∧ X.heap[D1]? = some (.deferred (some [])) ∧ (∀ y ∈ pre, rndN (aboveI P a) y.1 ∉ aboveI P b) ∧ ∀ k, F k ↔ k = w.heap.size + 1)
      (fun cd pre X F => cd = .ret ∧ X.heap[D1]? = some (.deferred (some [])) ∧ (∀ k, F k ↔ k = w.heap.size + 1) ∧ ∃ r, OvAt w (.slice (some ⟨g, 0, none⟩) P.length cap) P r (aboveI P b) X ∧ ((∃ k, k ≤ (aboveI P a).length ∧ pre.map (·.1) = List.range k) → meetI P a b = r)) ?hI2 ?hIF2 ?hIx2 ?hIxF2 (fun k => k = w.heap.size + 1) ?h02 ?hF02
      (fun x => { tmps := #[.agg #[.slice (some ⟨g, 0, none⟩) P.length cap], .int .i64 a, .int .i64 b, .pointer (some ⟨w.heap.size, 0, none⟩), undef, undef, .pointer (some ⟨w.heap.size + 1, 0, none⟩), .pointer (some ⟨w.heap.size + 1 + 1 + 1, 0, none⟩), undef, .int .i64 (rndN (aboveI P a) x.1 : Int), .pointer (some ⟨w.heap.size, 0, none⟩), .slice (some ⟨g, 0, none⟩) P.length cap, .int .i64 (P.length : Int), .slice (some ⟨w.heap.size + 1 + 1, 0, none⟩) P.length P.length, .agg #[.slice (some ⟨g, 0, none⟩) P.length cap], .int .i64 b, .func (.func 43) #[] #[.pointer (some ⟨w.heap.size + 4 + 1, 0, none⟩), .pointer (some ⟨w.heap.size + 4, 0, none⟩)], undef, undef, undef, undef, .agg #[.slice (some ⟨g, 0, none⟩) P.length cap], .int .i64 a, .func (.func 43) #[] #[.pointer (some ⟨W.heap.size + 1, 0, none⟩), .pointer (some ⟨W.heap.size, 0, none⟩)], .int .i64 (rndN (aboveI P a) x.1 : Int), undef, undef, undef, undef, undef], defers := [] })
      ?assign2 ?body2 ?done2 ?stop2
    case hI2 =>
      rintro s X X' F ⟨h1, h2, h3, h4⟩ ht
      have := HS5.out
      have := HD1.out
      exact ⟨h1.touch ht (fun k hk => by have := hk.1; omega), (ht.block _ (heap_lt h2) (fun e => by have := e.1; omega)).trans h2, h3, h4⟩
    case hIF2 =>
      rintro s X F ⟨h1, h2, h3, h4⟩ k hk
      have := (h4 k).1 hk
      subst this
      have := HS5.out
      have := HD1.out
      exact ⟨heap_lt h1.res, .inl (by omega)⟩
    case hIx2 =>
      rintro cd s X X' F ⟨h1, h2, h3, r, h4, h5⟩ ht
      have := HS5.out
      have := HD1.out
      exact ⟨h1, (ht.block _ (heap_lt h2) (fun e => by have := e.1; omega)).trans h2, h3, r, h4.touch ht (fun k hk => by have := hk.1; omega), h5⟩
    case hIxF2 =>
      rintro cd s X F ⟨h1, h2, h3, r, h4, h5⟩ k hk
      have := (h3 k).1 hk
      subst this
      have := HS5.out
      have := HD1.out
      exact ⟨heap_lt h4.res, .inl (by omega)⟩
    case h02 => exact ⟨HOV5.out, HK5.out, (fun y hy => by cases hy), fun k => Iff.rfl⟩
    case hF02 =>
      have := HD1.out
      rintro k hk rfl
      rcases hk with e | e | e
      · omega
      · omega
      · have := HV.out.own_lt _ e; omega
    case assign2 =>
      intro l' x X K hK
      simp only [rndL]
      gi_wp2
      exact hK
    case body2 =>
      rintro l' pre x X F ⟨hA, hK, hno, hF⟩ hlen hsz
      have hx := rndN_at x.2
      have hxl := aboveI_lt HT.out (List.mem_of_getElem? hx)
      have HIT : Hid (rndN (aboveI P a) x.1 ∈ aboveI P b → ((∃ k, k ≤ (aboveI P a).length ∧ (pre ++ [x]).map (·.1) = List.range k) → meetI P a b = (rndN (aboveI P a) x.1 : Int))) := Lib.hid (fun hin hk => by
        obtain ⟨k, _, hk⟩ := hk
        unfold meetI
        exact first_hit hk hno hin)
      have HNO : Hid (rndN (aboveI P a) x.1 ∉ aboveI P b → ∀ y ∈ pre ++ [x], rndN (aboveI P a) y.1 ∉ aboveI P b) := Lib.hid (fun hn y hy => by
        rcases List.mem_append.1 hy with hy | hy
        · exact hno y hy
        · rw [List.mem_singleton.1 hy]; exact hn)
      generalize rndN (aboveI P a) x.1 = i at *
      have hiI : (i : Int) < (P.length : Int) := by omega
      have p1 := cell_of hA.over 0
      have p2 := hA.row.holds i _ (metC_at hxl)
      have HA := Lib.hid hA
      have HK := Lib.hid hK
      have HF := Lib.hid hF
      by_cases hin : i ∈ aboveI P b
      · have hc : (aboveI P b).contains i = true := by rw [List.contains_iff_mem]; exact hin
        rw [hc] at p2
        have p3 := cell_of hA.res 0
        have p4 := free0 hA.res 0
        obtain ⟨h2, ht⟩ := hA.told (i : Int)
        have H2 := Lib.hid h2
        have HK2 := Lib.hid ((ht.block _ (heap_lt hK) (by have := HD1.out; omega)).trans hK)
        have HT2 := Lib.hid (ht.mono (T := F) (fun k _ e => (hF k).2 e))
        have HI2 := Lib.hid (HIT.out hin)
        clear hA hK hno hF hx hin hc h2 ht hlen hsz
        gi_wp2
        exact ⟨F, ⟨rfl, HK2.out, HF.out, _, H2.out, HI2.out⟩, HT2.out, fun k hk => .inl hk⟩
      · have hc : (aboveI P b).contains i = false := by rw [Bool.eq_false_iff]; exact fun e => hin (by rwa [List.contains_iff_mem] at e)
        rw [hc] at p2
        have HN2 := Lib.hid (HNO.out hin)
        clear hA hK hno hF hx hin hc hlen hsz
        gi_wp2
        exact ⟨F, ⟨HA.out, HK.out, HN2.out, HF.out⟩, Touch.refl _ _, fun k hk => .inl hk⟩
    case done2 =>
      rintro D2 ys2 X F2 hD2 hnF2 hys2 ⟨hov, hK1, hno, _⟩ hK2
      have HE : Hid (meetI P a b = -1) := Lib.hid (first_none hys2 hno)
      obtain ⟨h2, ht⟩ := hov.told (-1)
      have hsz := HS5.out
      have hd := HD1.out
      have HK1 := Lib.hid ((ht.block _ (heap_lt hK1) (by omega)).trans hK1)
      have HK2 := Lib.hid ((ht.block _ (heap_lt hK2) (by omega)).trans hK2)
      have HOV2 := Lib.hid h2
      have p3 := cell_of hov.res 0
      have p4 := free0 hov.res 0
      clear hov hK1 hno hK2 h2 ht hys2 hnF2
      go_wp2_with fail
      generalize X.setCell ⟨w.heap.size + 1, 0, none⟩ (.int .i64 (-1)) = X2 at *
      have hK1' := (World.putObj_heap_other (r := D2) (o := .deferred none) (by omega)).trans HK1.out
      have hr2 := ((World.putObj_heap_other (r := D2) (o := .deferred none) (w := X2) (k := w.heap.size + 1) (by omega))).trans HOV2.out.res
      refine ⟨by simp, .inl ⟨_, _, rfl, run_takeDeferred HK2.out, ⟨by simp, .inl ⟨_, _, rfl, run_takeDeferred hK1', ?_⟩⟩⟩⟩
      have hr3 := ((World.putObj_heap_other (r := D1) (o := .deferred none) (w := X2.putObj D2 (.deferred none)) (k := w.heap.size + 1) (by omega))).trans hr2
      have e0 := cell_of hr3 0
      simp at e0
      refine ⟨.int .i64 (-1), by simp [results, Tryd.results20, go_sem, e0], ?_⟩
      refine ⟨by rw [HE.out], ?_⟩
      have hb := HOV2.out.below
      exact (hb.grown (grownBy_putObj' _ D2 _) hb.size (fun k e => by cases e; omega)).grown (grownBy_putObj' _ D1 _) (by rw [World.putObj_size]; exact hb.size) (fun k e => by cases e; omega)
    case stop2 =>
      rintro D2 cd pre X F2 hD2 hnF2 hsp ⟨rfl, hK1, _, r, hov, hE⟩ hK2
      have HE := Lib.hid (hE hsp)
      have hsz := HS5.out
      have hd := HD1.out
      gi_wp2
      have hK1' := (World.putObj_heap_other (r := D2) (o := .deferred none) (by omega)).trans hK1
      have hr2 := ((World.putObj_heap_other (r := D2) (o := .deferred none) (w := X) (k := w.heap.size + 1) (by omega))).trans hov.res
      refine ⟨by simp, .inl ⟨_, _, rfl, run_takeDeferred hK2, ⟨by simp, .inl ⟨_, _, rfl, run_takeDeferred hK1', ?_⟩⟩⟩⟩
      have hr3 := ((World.putObj_heap_other (r := D1) (o := .deferred none) (w := X.putObj D2 (.deferred none)) (k := w.heap.size + 1) (by omega))).trans hr2
      have e0 := cell_of hr3 0
      simp at e0
      refine ⟨.int .i64 r, by simp [results, Tryd.results20, go_sem, e0], ?_⟩
      refine ⟨by rw [HE.out], ?_⟩
      have hb := hov.below
      exact (hb.grown (grownBy_putObj' _ D2 _) hb.size (fun k e => by cases e; omega)).grown (grownBy_putObj' _ D1 _) (by rw [World.putObj_size]; exact hb.size) (fun k e => by cases e; omega)
end Go.Proofs.YtpploljennbpdaaDoor
