/- Latest, of program and reference. The reference's Copy; the law's same. -/
import Derived.Test.YtmaokoekbjjgfaaDoorZChdH
import Derived.Test.YtmaokoekbjjgfaaDoorZChaV
import Derived.RangeFuncFrom
import Derived.RangeFuncWrites
set_option linter.unusedSimpArgs false
set_option linter.unusedVariables false
set_option linter.unnecessarySimpa false
namespace Go.Proofs.YtmaokoekbjjgfaaDoor
open Go.RowKit Go.Shelf

/-- What the last version that is not open holds. -/
def latP (L : List Ver) : Int × Bool := L.foldl (fun a v => if v.opn = true then a else (v.n, v.there)) (0, false)
theorem latP_snoc (L : List Ver) (v : Ver) : latP (L ++ [v]) = if v.opn = true then latP L else (v.n, v.there) := by
  unfold latP
  rw [List.foldl_append]
  rfl
theorem lat_take {L : List Ver} {k : Nat} {u : Ver} (h : L[k]? = some u) : latP (L.take (k + 1)) = if u.opn = true then latP (L.take k) else (u.n, u.there) := by
  rw [List.take_add_one, h]
  exact latP_snoc _ _
theorem lat_from {L : List Ver} {i : Nat} : ∀ k, i ≤ k → k ≤ L.length → (∀ j u, i ≤ j → j < k → L[j]? = some u → u.opn = true) → latP (L.take k) = latP (L.take i) := by
  intro k
  induction k with
  | zero => intro h _ _; rw [show i = 0 from by omega]
  | succ k ih =>
    intro h hk ha
    by_cases e : i = k + 1
    · rw [e]
    · have hx : L[k]? = some L[k] := List.getElem?_eq_getElem (by omega)
      rw [lat_take hx, if_pos (ha k _ (by omega) (by omega) hx)]
      exact ih (by omega) (by omega) (fun j u h1 h2 h3 => ha j u h1 (by omega) h3)
theorem lat_none {L : List Ver} (h : ∀ (j : Nat) (u : Ver), L[j]? = some u → u.opn = true) : latP L = (0, false) := by
  have := lat_from (L := L) (i := 0) L.length (Nat.zero_le _) (Nat.le_refl _) (fun j u _ _ h3 => h j u h3)
  rw [List.take_length] at this
  rw [this]
  rfl
theorem lat_hit {L : List Ver} {i : Nat} {u : Ver} (hi : L[i]? = some u) (ho : u.opn = false) (h : ∀ j x, i < j → L[j]? = some x → x.opn = true) : latP L = (u.n, u.there) := by
  have hil := (List.getElem?_eq_some_iff.1 hi).1
  have := lat_from (L := L) (i := i + 1) L.length hil (Nat.le_refl _) (fun j x h1 _ h3 => h j x (by omega) h3)
  rw [List.take_length] at this
  rw [this, lat_take hi, if_neg (by rw [ho]; simp)]
set_option maxRecDepth 100000 in
set_option maxHeartbeats 4000000 in
theorem rlatest_any {w : World} {r : Nat} {v : Value} {L : List Ver} (h : RAt w r v L) (hl : L.length ≤ 1000000) :
    Calls Tryd.prog 24 #[.pointer (some ⟨r, 0, none⟩)] w fun e w' => e = .returned (.tuple #[.int .i64 (latP L).1, .bool (latP L).2]) ∧ Below w.heap.size w w' := by
  obtain ⟨A, cap, rfl, h1, h2, _⟩ := id (RowIs.form h.row)
  unfold maxLen at h2
  have kr : w.cell? ⟨r, 0, none⟩ = some (.slice A L.length cap) := cell_of h.head 0
  have hlI : (L.length : Int) ≤ 1000000 := by omega
  have HR := Lib.hid h.row
  clear h
  go_enter Tryd.func24, Tryd.ntmps24
  go_wp2_with fail
  go_loopw [4, 5, 13] (fun nv bv iv wr => ∃ k : Nat, k ≤ L.length ∧ iv = .int .i64 k ∧ nv = .int .i64 (latP (L.take k)).1 ∧ bv = .bool (latP (L.take k)).2 ∧ Below w.heap.size w wr) (fun _ _ iv _ => L.length - (intOf iv).toNat)
  case atStart => exact ⟨0, Nat.zero_le _, rfl, rfl, rfl, Below.refl _ _⟩
  case round =>
    obtain ⟨k, hk, rfl, rfl, rfl, hb⟩ := hrel
    by_cases hlt : k < L.length
    · have hx : L[k]? = some L[k] := List.getElem?_eq_getElem hlt
      generalize L[k] = y at hx
      obtain ⟨g', cap', ev, hc1, hc2, _, c0, c1, c2, c3, c4⟩ := (HR.out.below hb).ver hx
      injection ev with ev _ ev3
      subst ev ev3
      obtain ⟨ua, un, ut, ur, uo⟩ := y
      simp only at c0 c1 c2 c3 c4
      have hbn := below_new (w := wr) (.cells #[.int .i64 ua, .int .i64 un, .bool ut, .int .i64 ur, .bool uo] 59)
      have HB := Lib.hid (hb.trans (hbn.mono hb.size))
      have HLT := Lib.hid hlt
      have hi : (k : Int) < (L.length : Int) := by omega
      have HLK := Lib.hid (lat_take hx)
      clear hx hb hbn hk hlt
      cases uo with
      | true =>
        have HN : Hid (latP (L.take (k + 1)) = latP (L.take k)) := Lib.hid (by rw [HLK.out, if_pos rfl])
        go_wp2_with fail
        go_roundw
        case rel => exact ⟨k + 1, HLT.out, by go_num, by rw [HN.out], by rw [HN.out], HB.out⟩
        case measure => have := HLT.out; simp [intOf]; omega
      | false =>
        have HN : Hid (latP (L.take (k + 1)) = (un, ut)) := Lib.hid (by rw [HLK.out, if_neg (by simp)])
        go_wp2_with fail
        go_roundw
        case rel => exact ⟨k + 1, HLT.out, by go_num, by rw [HN.out], by rw [HN.out], HB.out⟩
        case measure => have := HLT.out; simp [intOf]; omega
    · obtain rfl : k = L.length := by omega
      rw [List.take_length]
      have HB := Lib.hid hb
      clear hb hk hlt
      obtain ⟨P, hP⟩ : ∃ P, P = latP L := ⟨_, rfl⟩
      rw [← hP]
      have HP := Lib.hid hP
      clear hP
      go_wp2_with fail
      (try simp only [Exit.inBlock, Exit.then])
      refine bodyPost_ret (v := .tuple #[.int .i64 P.1, .bool P.2]) (by simp [results, Tryd.results24, go_sem]) rfl ⟨by rw [HP.out], HB.out⟩
attribute [local go_sem] Oper.semAt_some
/-- The version of a round. -/
def rndV (L : List Ver) (j : Nat) : Ver := (L[L.length - 1 - j]?).getD ver0
theorem rndE_eq (L : List Ver) (x : Rnd L) : rndE L x = #[.int .i64 ((L.length - 1 - x.1 : Nat) : Int), .agg #[.int .i64 (rndV L x.1).at_, .int .i64 (rndV L x.1).n, .bool (rndV L x.1).there, .int .i64 (rndV L x.1).read, .bool (rndV L x.1).opn]] := rfl
theorem rndV_at {L : List Ver} {j : Nat} (hj : j < L.length) : L[L.length - 1 - j]? = some (rndV L j) := by
  unfold rndV
  rw [List.getElem?_eq_getElem (by omega)]
  rfl
theorem lat_ret {L : List Ver} {pre : List (Rnd L)} {x : Rnd L} {k : Nat} (hm : (pre ++ [x]).map (·.1) = List.range k) (ho : ∀ y ∈ pre, (rndV L y.1).opn = true) (hx : (rndV L x.1).opn = false) : latP L = ((rndV L x.1).n, (rndV L x.1).there) := by
  have hlen := congrArg List.length hm
  rw [List.length_map, List.length_append, List.length_range, List.length_singleton] at hlen
  have hget : ∀ j, j < pre.length → ∃ y ∈ pre, y.1 = j := fun j hj => by
    have h1 : ((pre ++ [x]).map (·.1))[j]? = some j := by rw [hm, List.getElem?_range (by omega)]
    rw [List.getElem?_map, List.getElem?_append_left hj, List.getElem?_eq_getElem hj] at h1
    exact ⟨pre[j], List.getElem_mem hj, Option.some.inj h1⟩
  have hxv : x.1 = pre.length := by
    have h1 : ((pre ++ [x]).map (·.1))[pre.length]? = some pre.length := by rw [hm, List.getElem?_range (by omega)]
    rw [List.getElem?_map, List.getElem?_append_right (Nat.le_refl _)] at h1
    simpa using h1
  have hxl := x.2
  refine lat_hit (rndV_at hxl) hx (fun j u hj hu => ?_)
  have hjl := (List.getElem?_eq_some_iff.1 hu).1
  obtain ⟨y, hy, e⟩ := hget (L.length - 1 - j) (by omega)
  have h2 := rndV_at (L := L) (j := y.1) y.2
  rw [e, show L.length - 1 - (L.length - 1 - j) = j from by omega, hu] at h2
  have h3 := ho y hy
  rw [e] at h3
  rw [Option.some.inj h2]
  exact h3
theorem lat_all {L : List Ver} {ys : List (Rnd L)} (hm : ys.map (·.1) = List.range L.length) (ho : ∀ y ∈ ys, (rndV L y.1).opn = true) : latP L = (0, false) := by
  have hlen := congrArg List.length hm
  rw [List.length_map, List.length_range] at hlen
  refine lat_none (fun j u hu => ?_)
  have hjl := (List.getElem?_eq_some_iff.1 hu).1
  have h1 : (ys.map (·.1))[L.length - 1 - j]? = some (L.length - 1 - j) := by rw [hm, List.getElem?_range (by omega)]
  rw [List.getElem?_map, List.getElem?_eq_getElem (by omega)] at h1
  have e : (ys[L.length - 1 - j]'(by omega)).1 = L.length - 1 - j := Option.some.inj h1
  have h3 := ho _ (List.getElem_mem (show L.length - 1 - j < ys.length by omega))
  rw [e] at h3
  have h2 := rndV_at (L := L) (j := L.length - 1 - j) (by omega)
  rw [show L.length - 1 - (L.length - 1 - j) = j from by omega, hu] at h2
  rw [Option.some.inj h2]
  exact h3
set_option maxRecDepth 100000 in
set_option maxHeartbeats 4000000 in
theorem Latest_any {w : World} {c : Nat} {v : Value} {L : List Ver} (h : Ch w c v L) (h0 : 0 < L.length) : Calls Tryd.prog 22 #[.pointer (some ⟨c, 0, none⟩)] w fun e w' => e = .returned (.tuple #[.int .i64 (latP L).1, .bool (latP L).2]) ∧ Below w.heap.size w w' := by
  have hbA : Below w.heap.size w ((w.alloc (.cells #[.int .i64 0] 2)).alloc (.cells #[.bool false] 4)) := (below_new _).trans ((below_new _).mono (by rw [asz]; omega))
  have hVE := Versions_any (h.below hbA) h0
  rw [asz, asz] at hVE
  have HVE := Lib.hid hVE
  have HBK := Lib.hid (fun W A n cap => back_any W A n cap)
  have HL : Hid (L.length ≤ 1000000) := Lib.hid h.few
  have H0 := Lib.hid h0
  clear h hVE hbA h0
  refine (callsIn_wide (n := 9)).1 ?_
  refine callsIn_of_wp_marks Tryd.func22 rfl trivial ?_ rfl
  simp only [Tryd.ntmps22, List.size_toArray, List.length_cons, List.length_nil, Nat.reduceAdd, Nat.reduceSub, Array.replicate_succ, Array.replicate_zero, List.push_toArray, List.append_toArray, List.nil_append, List.cons_append]
  refine wpIn_wide.2 ?_
  go_wp2_with fail
  refine (HVE.out).mono ?_
  rintro e w1 ⟨rfl, rfl⟩
  go_wp2_with fail
  refine (HBK.out _ _ _ _).mono ?_
  rintro e w2 ⟨rfl, rfl⟩
  have hsz : ((((w.alloc (.cells #[.int .i64 0] 2)).alloc (.cells #[.bool false] 4)).alloc (.cells (verC L).toArray 47)).alloc (.cells #[.slice (some ⟨w.heap.size + 2, 0, none⟩) L.length L.length] 48)).heap.size = w.heap.size + 4 := by rw [asz, asz, asz, asz]
  have hb0 : Below w.heap.size w ((((w.alloc (.cells #[.int .i64 0] 2)).alloc (.cells #[.bool false] 4)).alloc (.cells (verC L).toArray 47)).alloc (.cells #[.slice (some ⟨w.heap.size + 2, 0, none⟩) L.length L.length] 48)) := (((below_new _).trans ((below_new _).mono (by rw [asz]; omega))).trans ((below_new _).mono (by rw [asz, asz]; omega))).trans ((below_new _).mono (by rw [asz, asz, asz]; omega))
  have old : ∀ (a : World) (o : Obj) (j : Nat), j < a.heap.size → (a.alloc o).heap[j]? = a.heap[j]? := fun a o j hj => Below.heap_alloc a o j hj
  have h0 : ((((w.alloc (.cells #[.int .i64 0] 2)).alloc (.cells #[.bool false] 4)).alloc (.cells (verC L).toArray 47)).alloc (.cells #[.slice (some ⟨w.heap.size + 2, 0, none⟩) L.length L.length] 48)).heap[w.heap.size]? = some (.cells #[.int .i64 0] 2 (0, 0)) := (old _ _ _ (by rw [asz, asz, asz]; omega)).trans ((old _ _ _ (by rw [asz, asz]; omega)).trans ((old _ _ _ (by rw [asz]; omega)).trans (alloc_at w _)))
  have h1 : ((((w.alloc (.cells #[.int .i64 0] 2)).alloc (.cells #[.bool false] 4)).alloc (.cells (verC L).toArray 47)).alloc (.cells #[.slice (some ⟨w.heap.size + 2, 0, none⟩) L.length L.length] 48)).heap[w.heap.size + 1]? = some (.cells #[.bool false] 4 (0, 0)) := by
    have := alloc_at (w.alloc (.cells #[.int .i64 0] 2)) (.cells #[.bool false] 4)
    rw [asz] at this
    exact (old _ _ _ (by rw [asz, asz, asz]; omega)).trans ((old _ _ _ (by rw [asz, asz]; omega)).trans this)
  have h2 : ((((w.alloc (.cells #[.int .i64 0] 2)).alloc (.cells #[.bool false] 4)).alloc (.cells (verC L).toArray 47)).alloc (.cells #[.slice (some ⟨w.heap.size + 2, 0, none⟩) L.length L.length] 48)).heap[w.heap.size + 2]? = some (.cells (verC L).toArray 47 (0, 0)) := by
    have := alloc_at ((w.alloc (.cells #[.int .i64 0] 2)).alloc (.cells #[.bool false] 4)) (.cells (verC L).toArray 47)
    rw [asz, asz] at this
    exact (old _ _ _ (by rw [asz, asz, asz]; omega)).trans this
  have h3 : ((((w.alloc (.cells #[.int .i64 0] 2)).alloc (.cells #[.bool false] 4)).alloc (.cells (verC L).toArray 47)).alloc (.cells #[.slice (some ⟨w.heap.size + 2, 0, none⟩) L.length L.length] 48)).heap[w.heap.size + 3]? = some (.cells #[.slice (some ⟨w.heap.size + 2, 0, none⟩) L.length L.length] 48 (0, 0)) := by
    have := alloc_at (((w.alloc (.cells #[.int .i64 0] 2)).alloc (.cells #[.bool false] 4)).alloc (.cells (verC L).toArray 47)) (.cells #[.slice (some ⟨w.heap.size + 2, 0, none⟩) L.length L.length] 48)
    rw [asz, asz, asz] at this
    exact this
  have HSZ := Lib.hid hsz
  have HB0 := Lib.hid hb0
  have HH0 := Lib.hid h0
  have HH1 := Lib.hid h1
  have HH2 := Lib.hid h2
  have HH3 := Lib.hid h3
  clear hsz hb0 old h0 h1 h2 h3 HVE HBK
  go_wp2_with fail
  go_outline
  generalize (((w.alloc (.cells #[.int .i64 0] 2)).alloc (.cells #[.bool false] 4)).alloc (.cells (verC L).toArray 47)).alloc (.cells #[.slice (some ⟨w.heap.size + 2, 0, none⟩) L.length L.length] 48) = W0 at *
  have hrow : RowIs W0 5 (.slice (some ⟨w.heap.size + 2, 0, none⟩) L.length L.length) L.length (verC L) := .inr ⟨_, L.length, rfl, verC_len L, Nat.le_refl _, heap_lt HH2.out, Nat.le_of_eq (verC_len L), by have := HL.out; unfold maxLen; omega, fun j u hj => by rw [cell_of HH2.out j]; simpa using hj, fun j hj => ⟨by rw [cell_of HH2.out j, Array.getElem?_eq_getElem (by rw [List.size_toArray, verC_len]; exact hj)]; rfl, free0 HH2.out j⟩⟩
  refine (wpIn_wide (n := 8)).1 ?_
  refine wpIn_rangeFunc_ownH (n := 8) rfl (by omega) (gf := 47) (lb := #[.pointer (some ⟨w.heap.size + 3, 0, none⟩)]) rfl trivial (enters_of Tryd.func47 (by kernel_rfl) rfl)
    (back_stops 7 (by omega) (w.heap.size + 3) (w.heap.size + 2) L.length L HL.out W0 (by have := HSZ.out; omega) (cell_of HH3.out 0) hrow) KpB.trans ?hKb (Below.refl _ _) (fun _ => rfl)
    (fun pre W => Below w.heap.size w W ∧ W0.heap.size ≤ W.heap.size ∧ W.heap[w.heap.size]? = some (.cells #[.int .i64 0] 2 (0, 0)) ∧ W.heap[w.heap.size + 1]? = some (.cells #[.bool false] 4 (0, 0)) ∧ ∀ y ∈ pre, (rndV L y.1).opn = true)
    (fun cd pre W => cd = .ret ∧ Below w.heap.size w W ∧ ∃ (pre0 : List (Rnd L)) (x : Rnd L), pre = pre0 ++ [x] ∧ (∀ y ∈ pre0, (rndV L y.1).opn = true) ∧ (rndV L x.1).opn = false ∧ W.heap[w.heap.size]? = some (.cells #[.int .i64 (rndV L x.1).n] 2 (0, 0)) ∧ W.heap[w.heap.size + 1]? = some (.cells #[.bool (rndV L x.1).there] 4 (0, 0)))
    ?grow ?growx
    ⟨HB0.out, Nat.le_refl _, HH0.out, HH1.out, fun y hy => by cases hy⟩
    (fun x a' W => ∃ Bx, W0.heap.size ≤ Bx ∧ W.heap[Bx]? = some (.cells (verA (rndV L x.1)) 47 (0, 0)) ∧ a' = { tmps := #[.pointer (some ⟨c, 0, none⟩), undef, .pointer (some ⟨w.heap.size, 0, none⟩), .pointer (some ⟨w.heap.size + 1, 0, none⟩), undef, .pointer (some ⟨Bx, 0, none⟩), .pointer (some ⟨c, 0, none⟩), .slice (some ⟨w.heap.size + 2, 0, none⟩) L.length L.length, .func (.func 47) #[] #[.pointer (some ⟨w.heap.size + 3, 0, none⟩)], .int .i64 ((L.length - 1 - x.1 : Nat) : Int), aggV (rndV L x.1), undef, undef, undef, undef, undef, undef, undef], defers := [] })
    ?growa ?assign ?body ?done ?stop
  case hKb =>
    intro W l' o o' hl' _ _ _
    have h1 := HSZ.out
    exact ⟨World.putObj_heap_other (fun e => by omega), fun g hg => by
      have hg : w.heap.size + 2 = g := Option.some.inj hg
      exact World.putObj_heap_other (fun e => by omega)⟩
  case grow =>
    intro s W W' row hs hg hr
    have h3 := HSZ.out
    refine ⟨hs.1.grown hg hs.1.size (fun k e => by have := (hr k e).1; omega), Nat.le_trans hs.2.1 hg.size, (hg.block _ (heap_lt hs.2.2.1) (fun e => by have := (hr _ e.symm).1; omega)).trans hs.2.2.1, (hg.block _ (heap_lt hs.2.2.2.1) (fun e => by have := (hr _ e.symm).1; omega)).trans hs.2.2.2.1, hs.2.2.2.2⟩
  case growx =>
    intro cd s W W' row hs hg hr
    have h3 := HSZ.out
    obtain ⟨e1, hb, pre0, x, e2, ho, hx, h0, h1⟩ := hs
    exact ⟨e1, hb.grown hg hb.size (fun k e => by have := (hr k e).1; omega), pre0, x, e2, ho, hx, (hg.block _ (heap_lt h0) (fun e => by have := (hr _ e.symm).1; omega)).trans h0, (hg.block _ (heap_lt h1) (fun e => by have := (hr _ e.symm).1; omega)).trans h1⟩
  case growa =>
    intro x a' s X Y row hs hg hr
    obtain ⟨Bx, e1, e2, e3⟩ := hs
    exact ⟨Bx, e1, (hg.block _ (heap_lt e2) (fun e => by obtain ⟨o, ho, hcl⟩ := (hr _ e.symm).2; rw [e2] at ho; cases ho; cases hcl)).trans e2, e3⟩
  case assign =>
    rintro l' pre x W K ⟨hb, hs, h0, h1, ho⟩ hK
    have h3 := HSZ.out
    simp only [rndE_eq]
    generalize rndV L x.1 = u at *
    gi_wp2
    refine hK _ _ ((KeepsOthers.alloc _ _).from _) ⟨Below.heap_alloc _ _ _ (by omega), fun g hg => by
      have hg : w.heap.size + 2 = g := Option.some.inj hg
      exact Below.heap_alloc _ _ _ (by omega)⟩ ⟨hb.trans ((below_new _).mono hb.size), by rw [asz]; omega, (Below.heap_alloc _ _ _ (by omega)).trans h0, (Below.heap_alloc _ _ _ (by omega)).trans h1, ho⟩ ⟨W.heap.size, hs, alloc_at W _, rfl⟩
  case body =>
    rintro l' pre x a' W hl' _ ⟨hb, hs, h0, h1, ho⟩ ⟨Bx, hBx, bX, rfl⟩ hlt
    have h3 := HSZ.out
    have hx2 : ∀ y ∈ pre ++ [x], (rndV L x.1).opn = true → (rndV L y.1).opn = true := fun y hy e => by
      rcases List.mem_append.1 hy with hy | hy
      · exact ho y hy
      · rw [List.mem_singleton.1 hy]; exact e
    obtain ⟨u, hu⟩ : ∃ u, rndV L x.1 = u := ⟨_, rfl⟩
    have HU := Lib.hid hu
    rw [hu] at bX hx2
    have HX2 := Lib.hid hx2
    have HO := Lib.hid ho
    simp only [aggV, hu]
    clear hx2 ho hu
    have c1 := cell_of bX 1
    have c2 := cell_of bX 2
    have c4 := cell_of bX 4
    simp [verA] at c1 c2 c4
    have q0 := cell_of h0 0
    have q1 := cell_of h1 0
    have f0 := free0 h0 0
    have f1 := free0 h1 0
    have HB := Lib.hid hb
    have HS := Lib.hid hs
    have HH0' := Lib.hid h0
    have HH1' := Lib.hid h1
    clear hb h0 h1 bX
    obtain ⟨ua, un, ut, ur, uo⟩ := u
    simp only at c1 c2 c4
    cases uo with
    | true =>
      gi_wp2
      exact ⟨KeepsFrom.refl _ _, ⟨rfl, fun _ _ => rfl⟩, HB.out, by have := HS.out; have := HSZ.out; omega, HH0'.out, HH1'.out, by have := HX2.out; simpa using this⟩
    | false =>
      have hmx : Tryd.prog.follows .mixedOrders = true := by kernel_rfl
      have hz := HSZ.out
      have g0 : W.drew.heap[w.heap.size]? = some (.cells #[.int .i64 0] 2 (0, 0)) := HH0'.out
      have g1 : W.drew.heap[w.heap.size + 1]? = some (.cells #[.bool false] 4 (0, 0)) := HH1'.out
      have s0 := set_at g0 0 (.int .i64 un)
      have s1 := set_at ((Below.heap_setCell W.drew ⟨w.heap.size, 0, none⟩ (.int .i64 un) (w.heap.size + 1) (show w.heap.size + 1 ≠ w.heap.size by omega)).trans g1) 0 (.bool ut)
      have s0' := (Below.heap_setCell (W.drew.setCell ⟨w.heap.size, 0, none⟩ (.int .i64 un)) ⟨w.heap.size + 1, 0, none⟩ (.bool ut) w.heap.size (show w.heap.size ≠ w.heap.size + 1 by omega)).trans s0
      simp only [Array.setIfInBounds, List.size_toArray, List.length_cons, List.length_nil, Nat.zero_add, Nat.lt_add_one, dite_true, ↓reduceDIte] at s0' s1
      have HK5 := Lib.hid ((((KeepsOthers.drew W).from W0.heap.size).trans (KeepsFrom.of_grownBy (grownBy_setCell' W.drew w.heap.size (.int .i64 un)) (fun j e => by cases e; omega))).trans (KeepsFrom.of_grownBy (grownBy_setCell' (W.drew.setCell ⟨w.heap.size, 0, none⟩ (.int .i64 un)) (w.heap.size + 1) (.bool ut)) (fun j e => by cases e; omega)))
      have HB5 := Lib.hid (((below_drew HB.out).setCell (p := ⟨w.heap.size, 0, none⟩) (Nat.le_refl _) (.int .i64 un)).setCell (p := ⟨w.heap.size + 1, 0, none⟩) (Nat.le_succ _) (.bool ut))
      have HS0 := Lib.hid s0'
      have HS1 := Lib.hid s1
      clear hz g0 g1 s0 s1 s0'
      gi_wp2
      gi_region_with_o (fail)
      all_goals gi_wp2
      all_goals exact ⟨HK5.out, rfl, HB5.out, pre, x, rfl, by simpa using HO.out, by rw [HU.out], by rw [HU.out]; exact HS0.out, by rw [HU.out]; exact HS1.out⟩
  case done =>
    rintro D ys W hD hys ⟨hb, hs, h0, h1, ho⟩ hK
    have HLAT := Lib.hid (lat_all hys ho)
    have c0 := cell_of h0 0
    have c1 := cell_of h1 0
    have f0 := free0 h0 0
    have f1 := free0 h1 0
    have hn1 : D ≠ w.heap.size := by have := HSZ.out; omega
    have hn2 : D ≠ w.heap.size + 1 := by have := HSZ.out; omega
    have HK := Lib.hid hK
    have HB := Lib.hid hb
    have HH0' := Lib.hid h0
    have HH1' := Lib.hid h1
    clear hys hK hb h0 h1 ho hs
    go_wp2_with fail
    refine ⟨by simp, .inl ⟨_, _, rfl, run_takeDeferred ?_, ?_⟩⟩
    · rw [Below.heap_setCell _ _ _ _ hn2, Below.heap_setCell _ _ _ _ hn1]
      exact HK.out
    · have g0 : ((W.setCell ⟨w.heap.size, 0, none⟩ (.int .i64 0)).setCell ⟨w.heap.size + 1, 0, none⟩ (.bool false)).heap[w.heap.size]? = some (.cells (#[Value.int .i64 0].setIfInBounds 0 (.int .i64 0)) 2 (0, 0)) := (Below.heap_setCell _ _ _ _ (show w.heap.size ≠ w.heap.size + 1 by omega)).trans (set_at HH0'.out 0 _)
      have g1 : ((W.setCell ⟨w.heap.size, 0, none⟩ (.int .i64 0)).setCell ⟨w.heap.size + 1, 0, none⟩ (.bool false)).heap[w.heap.size + 1]? = some (.cells (#[Value.bool false].setIfInBounds 0 (.bool false)) 4 (0, 0)) := set_at ((Below.heap_setCell _ _ _ _ (show w.heap.size + 1 ≠ w.heap.size by omega)).trans HH1'.out) 0 _
      have hbf : Below w.heap.size w ((W.setCell ⟨w.heap.size, 0, none⟩ (.int .i64 0)).setCell ⟨w.heap.size + 1, 0, none⟩ (.bool false)) := (HB.out.setCell (p := ⟨w.heap.size, 0, none⟩) (Nat.le_refl _) _).setCell (p := ⟨w.heap.size + 1, 0, none⟩) (Nat.le_succ _) _
      generalize (W.setCell ⟨w.heap.size, 0, none⟩ (.int .i64 0)).setCell ⟨w.heap.size + 1, 0, none⟩ (.bool false) = W5 at g0 g1 hbf ⊢
      have e0 : (W5.putObj D (.deferred none)).cell? ⟨w.heap.size, 0, none⟩ = some (.int .i64 0) := (World.cell?_of_block (a := ⟨w.heap.size, 0, none⟩) (World.putObj_heap_other (fun e => hn1 (by first | exact e | exact e.symm)))).trans (cell_of g0 0)
      have e1 : (W5.putObj D (.deferred none)).cell? ⟨w.heap.size + 1, 0, none⟩ = some (.bool false) := (World.cell?_of_block (a := ⟨w.heap.size + 1, 0, none⟩) (World.putObj_heap_other (fun e => hn2 (by first | exact e | exact e.symm)))).trans (cell_of g1 0)
      refine ⟨.tuple #[.int .i64 0, .bool false], by simp [results, Tryd.results22, go_sem, e0, e1], ?_⟩
      refine ⟨by rw [HLAT.out], ?_⟩
      refine hbf.grown (grownBy_putObj' _ D _) hbf.size (fun k e => ?_)
      cases e
      have := HSZ.out
      omega
  case stop =>
    rintro D cd pre W hD ⟨k, hk, hm⟩ ⟨rfl, hb, pre0, x, rfl, ho, hx, h0, h1⟩ hK
    have HLAT := Lib.hid (lat_ret hm ho hx)
    have hn1 : D ≠ w.heap.size := by have := HSZ.out; omega
    have hn2 : D ≠ w.heap.size + 1 := by have := HSZ.out; omega
    generalize rndV L x.1 = u at *
    clear hm ho hx
    have g0 := cell_of h0 0
    have g1 := cell_of h1 0
    gi_wp2
    refine ⟨by simp, .inl ⟨_, _, rfl, run_takeDeferred hK, ?_⟩⟩
    have e0 : (W.putObj D (.deferred none)).cell? ⟨w.heap.size, 0, none⟩ = some (.int .i64 u.n) := (World.cell?_of_block (a := ⟨w.heap.size, 0, none⟩) (World.putObj_heap_other (fun e => hn1 (by first | exact e | exact e.symm)))).trans g0
    have e1 : (W.putObj D (.deferred none)).cell? ⟨w.heap.size + 1, 0, none⟩ = some (.bool u.there) := (World.cell?_of_block (a := ⟨w.heap.size + 1, 0, none⟩) (World.putObj_heap_other (fun e => hn2 (by first | exact e | exact e.symm)))).trans g1
    refine ⟨.tuple #[.int .i64 u.n, .bool u.there], by simp [results, Tryd.results22, go_sem, e0, e1], ?_⟩
    refine ⟨by rw [HLAT.out], ?_⟩
    refine hb.grown (grownBy_putObj' _ D _) hb.size (fun k e => ?_)
    cases e
    have := HSZ.out
    omega
end Go.Proofs.YtmaokoekbjjgfaaDoor

namespace Go.Proofs.YtmaokoekbjjgfaaDoor
open Go.RowKit Go.Shelf

set_option maxRecDepth 100000 in
set_option maxHeartbeats 4000000 in
theorem rcopy_any {w : World} {r : Nat} {v : Value} {L : List Ver} (h : RAt w r v L) (h0 : 0 < L.length) (hl : L.length ≤ 1000000) : Calls Tryd.prog 11 #[.pointer (some ⟨r, 0, none⟩)] w fun e w' => ∃ s u, e = .returned (.pointer (some ⟨s, 0, none⟩)) ∧ RAt w' s u L ∧ Below w.heap.size w w' ∧ w.heap.size ≤ s ∧ ∀ k, u.ownBlock = some k → w.heap.size ≤ k := by
  obtain ⟨u0, hu0⟩ : ∃ u0, L[0]? = some u0 := ⟨_, List.getElem?_eq_getElem h0⟩
  obtain ⟨g, cap, rfl, hc1, hc2, ho, _⟩ := h.row.ver hu0
  have kr : w.cell? ⟨r, 0, none⟩ = some (.slice (some ⟨g, 0, none⟩) L.length cap) := cell_of h.head 0
  have hb1 := below_new (w := w) (.cells #[] 59)
  have hat := alloc_at w (.cells #[] 59)
  have hrow0 : RowIs (w.alloc (.cells #[] 59)) 5 (.slice (some ⟨w.heap.size, 0, none⟩) 0 0) 0 [] := .inr ⟨w.heap.size, 0, rfl, rfl, Nat.le_refl _, heap_lt hat, Nat.zero_le _, by unfold maxLen; omega, fun j u hj => by simp at hj, fun j hj => by omega⟩
  have hsrc : Src Tryd.prog 5 60 (.slice (some ⟨g, 0, none⟩) L.length cap) L.length (verC L) (w.alloc (.cells #[] 59)) := by
    have := src_part (A := []) (M := L) (B := []) (h.row.below hb1) (by simp) cap
    simpa using this
  obtain ⟨v', w', hr, h2, h3, h4⟩ := run_append_row (w.alloc (.cells #[] 59)) 60 59 60 60 Tryd.underlying60 infoR rfl (by omega) (by omega) _ 0 L.length [] (verC L) _ hrow0 hsrc (by omega)
  rw [Nat.zero_add, List.nil_append] at h2
  have hown : ∀ k, v'.ownBlock = some k → w.heap.size ≤ k := fun k e => by
    rcases h4 with e2 | e2
    · rw [e2] at e
      have e : w.heap.size = k := Option.some.inj e
      omega
    · rw [e] at e2
      injection e2 with e2
      rw [asz] at e2
      omega
  have hbB : Below w.heap.size w w' := hb1.trans (((Touch.refl (fun k => (Value.slice (some ⟨w.heap.size, 0, none⟩) 0 0).ownBlock = some k) _).grown h3 (fun k e _ => e)).below (fun i e => by have e : w.heap.size = i := Option.some.inj e; omega) hb1.size)
  obtain ⟨A2, c2, rfl, _⟩ := id h2.form
  have hb3 := below_new (w := w') (.cells #[.slice A2 L.length c2] 62)
  have hat3 := alloc_at w' (.cells #[.slice A2 L.length c2] 62)
  have HF : Hid (∃ s u, (.returned (.pointer (some ⟨w'.heap.size, 0, none⟩)) : Ending) = .returned (.pointer (some ⟨s, 0, none⟩)) ∧ RAt (w'.alloc (.cells #[.slice A2 L.length c2] 62)) s u L ∧ Below w.heap.size w (w'.alloc (.cells #[.slice A2 L.length c2] 62)) ∧ w.heap.size ≤ s ∧ ∀ k, u.ownBlock = some k → w.heap.size ≤ k) := Lib.hid ⟨w'.heap.size, _, rfl, ⟨hat3, h2.below hb3, fun e => by have := RowIs.lt h2 _ e; omega⟩, hbB.trans (hb3.mono hbB.size), hbB.size, hown⟩
  have kr2 : (w.alloc (.cells #[] 59)).cell? ⟨r, 0, none⟩ = some (.slice (some ⟨g, 0, none⟩) L.length cap) := (hb1.cell (p := ⟨r, 0, none⟩) (heap_lt h.head)).trans kr
  have HR := Lib.hid hr
  clear h hb1 hat hrow0 hsrc hr h2 h3 h4 hown hbB hb3 hat3 hu0 ho
  go_enter Tryd.func11, Tryd.ntmps11
  go_wp2_with (at_builtin; refine wpList_app_run rfl _ _ _ _ rfl rfl rfl HR.out ?_)
  go_ret
  exact HF.out
end Go.Proofs.YtmaokoekbjjgfaaDoor
