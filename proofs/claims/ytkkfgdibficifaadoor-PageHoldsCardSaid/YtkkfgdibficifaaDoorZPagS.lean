/- slices.Concat of pages. -/
import Derived.Test.YtkkfgdibficifaaDoorZPagR
set_option linter.unusedSimpArgs false
set_option linter.unusedVariables false
set_option linter.unnecessarySimpa false
namespace Go.Proofs.YtkkfgdibficifaaDoor
open Go.RowKit Go.Shelf Go.Sort Go.Lib

set_option maxRecDepth 100000 in
set_option maxHeartbeats 2000000 in
theorem Grow_nil {w : World} {n : Nat} (h1 : 1 ≤ n) (h2 : n ≤ 1000) :
    Calls Tryd.prog 54 #[.slice none 0 0, .int .i64 n] w fun e w' => ∃ G, n ≤ G ∧ e = .returned (.slice (some ⟨w.heap.size, 0, none⟩) 0 G) ∧ Area w' 2 w.heap.size 0 G [] ∧ Below w.heap.size w w' := by
  obtain ⟨i0, hi0, hz0, hz1, hz2⟩ := info_parts infoR
  have hold : (Builtin.firstCells i0.size 0 (.slice none 0 0)).run Tryd.prog w.drew = .ok ([] : List Value).toArray w.drew := by
    rw [hz1]
    exact run_firstCells_none w.drew 2 0 0 0
  have hap := fun ty => Lib.run_append_grow_zeros w 28 3 ty 52 i0 _ .i64 .i64 Tryd.underlying28 Tryd.underlying3 hi0 hz0 none 0 0 [] hold n (by omega) (by omega) (by omega) (by omega) (by rw [hz2]; omega) (by
    rw [hz2, Nat.zero_add]
    have := Go.Room.nextslicecap_le' (show 0 < n by omega)
    exact Nat.le_trans (Nat.mul_le_mul_right _ this) (by omega))
  rw [Nat.zero_add] at hap
  have hGn := grownCap_ge w n 0 52
  have hGm := grownCap_le_maxLen w n 0 52 (by unfold maxLen; omega)
  generalize grownCap w n 0 52 = G at hap hGn hGm
  obtain ⟨ROW, hROW⟩ : ∃ ROW : Array Value, ROW = ([] : List Value).toArray ++ Builtin.zeroCells (Value.cells (.agg #[.string ⟨#[]⟩, .int .i64 0])) n ++ Builtin.zeroCells (Value.cells (.agg #[.string ⟨#[]⟩, .int .i64 0])) (G - n) := ⟨_, rfl⟩
  rw [← hROW] at hap
  have hRl : ROW.size = G * 2 := by
    rw [hROW, Array.size_append, Array.size_append, size_zeroCells, size_zeroCells, List.size_toArray]
    have e : (Value.cells (.agg #[.string ⟨#[]⟩, .int .i64 0])).size = 2 := rfl
    rw [e, List.length_nil]
    omega
  have hat := alloc_at w.drew (.cells ROW 52)
  have hbA : Below w.heap.size w (w.drew.alloc (.cells ROW 52)) := below_of_drew (below_new _)
  have hA : Area (w.drew.alloc (.cells ROW 52)) 2 w.heap.size 0 G [] := Area.block hat hRl hGm (by simp) (fun j u hj => by simp at hj) (fun u hu => by cases hu)
  have HF := Lib.hid (And.intro hA hbA)
  have HAP := Lib.hid hap
  unfold maxLen at hGm
  have hGI : (n : Int) ≤ (G : Int) := by omega
  have hn0 : (0 : Int) < (n : Int) := by omega
  have hG0 : (G = 0) = False := eq_false (by omega)
  clear hap hA hbA hat hROW hRl hold hi0 hz0 hz1 hz2
  go_enter Tryd.func54, Tryd.ntmps54
  go_wp2_with (at_builtin; refine wpList_app_run rfl _ _ _ _ rfl rfl rfl (HAP.out _) ?_)
  go_ret
  exact ⟨G, hGn, rfl, HF.out.1, HF.out.2⟩
/-- append(s, x...) where there is room. -/
theorem app_roomN {w : World} {ty : TypeId} {g o cap n m : Nat} {l xs : List Value} (h : Area w 2 g o cap l) (hl : l.length = n * 2) {x : Value} (hs : Src Tryd.prog 2 28 x m xs w) (hr : n + m ≤ cap) :
    (Builtin.append_ #[28, 28] ty #[.slice (some ⟨g, o, none⟩) n cap, x]).run Tryd.prog w = .ok (.slice (some ⟨g, o, none⟩) (n + m) cap) (w.setCells g (o + n * 2) xs) ∧ Area (w.setCells g (o + n * 2) xs) 2 g o cap (l ++ xs) ∧ TouchA g o (cap * 2) w (w.setCells g (o + n * 2) xs) := by
  obtain ⟨i0, hi, hzz, hz1, hz2⟩ := info_parts infoR
  have hxl := hs.newsLen
  have hs' : Src Tryd.prog i0.size 28 x m xs w := by rw [hz1]; exact hs
  have hrun := run_append_room_src (P := Tryd.prog) w 28 28 ty 52 i0 Tryd.underlying28 hi g o n cap x m xs hs' hr
    (by rw [hz1]; intro j hj; have := (h.there (n * 2 + j) (by omega)).1; rw [Nat.add_assoc]; exact this) (by rw [hz1]; intro j hj; have := (h.there (n * 2 + j) (by omega)).2; rw [Nat.add_assoc]; exact this)
  rw [hz1] at hrun
  refine ⟨hrun, h.put (by omega) (by rw [List.length_append]; omega) (fun u hu => (List.mem_append.1 hu).elim (h.one u) (hs.one u)) (fun j u h1 h2 hj => ?_) (fun j u h1 hj => ?_), TouchA.setCells _ _ _ _ _ _ (by omega) (by omega)⟩
  · rw [List.getElem?_append_right (by omega), hl] at hj
    exact hj
  · have hjl := (List.getElem?_eq_some_iff.1 hj).1
    rw [List.length_append] at hjl
    rw [List.getElem?_append_left (by omega)] at hj
    exact hj
theorem flat_app {Q : List (List Row)} {i : Nat} {p : List Row} (h : Q[i]? = some p) : (Q.take (i + 1)).flatten = (Q.take i).flatten ++ p := by
  rw [List.take_add_one, h]
  simp
set_option maxRecDepth 100000 in
set_option maxHeartbeats 4000000 in
theorem Concat_any {w : World} {b : Nat} {p q : List Row} {a d : Pl} (hb : w.heap[b]? = some (.cells #[plV a p, plV d q] 28 (0, 0))) (hA : Area w 2 a.g a.o a.cap (pgC p)) (hD : Area w 2 d.g d.o d.cap (pgC q)) (hc1 : p.length ≤ a.cap) (hc2 : d.cap ≤ maxLen ∧ q.length ≤ d.cap) (h1 : 1 ≤ p.length) (h2 : p.length + q.length ≤ 500) :
    Calls Tryd.prog 46 #[.slice (some ⟨b, 0, none⟩) 2 2] w fun e w' => ∃ G, p.length + q.length ≤ G ∧ e = .returned (.slice (some ⟨w.heap.size, 0, none⟩) (p.length + q.length) G) ∧ Area w' 2 w.heap.size 0 G (pgC (p ++ q)) ∧ Below w.heap.size w w' := by
  have HG := Lib.hid (Grow_nil (w := w) (n := p.length + q.length) (by omega) (by omega))
  have hmx := hA.max
  have hmx2 := hD.max
  unfold maxLen at hmx hmx2
  have k0 : w.cell? ⟨b, 0, none⟩ = some (.slice (some ⟨a.g, a.o, none⟩) p.length a.cap) := cell_of hb 0
  have k1 : w.cell? ⟨b, 1, none⟩ = some (.slice (some ⟨d.g, d.o, none⟩) q.length d.cap) := cell_of hb 1
  have HK : Hid (∀ W, Below w.heap.size w W → W.cell? ⟨b, 0, none⟩ = some (.slice (some ⟨a.g, a.o, none⟩) p.length a.cap) ∧ W.cell? ⟨b, 1, none⟩ = some (.slice (some ⟨d.g, d.o, none⟩) q.length d.cap)) := Lib.hid (fun W hW => ⟨(hW.cell (p := ⟨b, 0, none⟩) (World.block_lt_of_cell? _ _ k0)).trans k0, (hW.cell (p := ⟨b, 1, none⟩) (World.block_lt_of_cell? _ _ k1)).trans k1⟩)
  have HA := Lib.hid hA
  have HD := Lib.hid hD
  obtain ⟨n, hn⟩ : ∃ n, p.length = n := ⟨_, rfl⟩
  obtain ⟨m, hm⟩ : ∃ m, q.length = m := ⟨_, rfl⟩
  rw [hn] at k0 HK h1 h2 hc1 HG ⊢
  rw [hm] at k1 HK h2 HG hc2 ⊢
  have HN := Lib.hid hn
  have HM := Lib.hid hm
  have hnI : (n : Int) + (m : Int) ≤ 500 := by omega
  have hnI2 : (n : Int) ≤ 500 := by omega
  clear hA hD hb hn hm
  go_enter Tryd.func46, Tryd.ntmps46
  go_wp2_with fail
  go_loopw [3, 11] (fun nv iv wr => ((iv = .int .i64 0 ∧ nv = .int .i64 0) ∨ (iv = .int .i64 1 ∧ nv = .int .i64 n) ∨ (iv = .int .i64 2 ∧ nv = .int .i64 ((n : Int) + (m : Int)))) ∧ w = wr) (fun _ iv _ => 2 - (intOf iv).toNat)
  case atStart => exact ⟨.inl ⟨rfl, rfl⟩, rfl⟩
  case round =>
    obtain ⟨h | h | h, rfl⟩ := hrel
    · obtain ⟨rfl, rfl⟩ := h
      go_wp2_with fail
      go_roundw
      case rel => exact ⟨.inr (.inl ⟨by go_num, by go_num⟩), trivial⟩
      case measure => simp [intOf]
    · obtain ⟨rfl, rfl⟩ := h
      have hw : IntKind.i64.wrap ((n : Int) + (m : Int)) = (n : Int) + (m : Int) := IntWalk.i64_in _ (by omega)
      have hw0 : ¬ (n : Int) + (m : Int) < 0 := by omega
      go_wp2_with fail
      go_roundw
      case rel => exact ⟨.inr (.inr ⟨by go_num, by go_num⟩), trivial⟩
      case measure => simp [intOf]
    · obtain ⟨rfl, rfl⟩ := h
      go_wp2_with fail
      refine (HG.out).mono ?_
      rintro e w2 ⟨G, hG, rfl, hA0, hb2⟩
      have HA0 := Lib.hid hA0
      have HB2 := Lib.hid hb2
      unfold maxLen at hc2
      have hGm := hA0.max
      unfold maxLen at hGm
      obtain ⟨kk0, kk1⟩ := HK.out _ hb2
      clear hA0 hb2 HG k0 k1
      go_wp2_with fail
      go_loopw [6, 27] (fun nv iv wr => ((iv = .int .i64 0 ∧ nv = .slice (some ⟨w.heap.size, 0, none⟩) 0 G ∧ Area wr 2 w.heap.size 0 G []) ∨ (iv = .int .i64 1 ∧ nv = .slice (some ⟨w.heap.size, 0, none⟩) n G ∧ Area wr 2 w.heap.size 0 G (pgC p)) ∨ (iv = .int .i64 2 ∧ nv = .slice (some ⟨w.heap.size, 0, none⟩) (n + m) G ∧ Area wr 2 w.heap.size 0 G (pgC (p ++ q)))) ∧ Below w.heap.size w wr) (fun _ iv _ => 2 - (intOf iv).toNat)
      case atStart => exact ⟨.inl ⟨rfl, rfl, HA0.out⟩, HB2.out⟩
      case round =>
        obtain ⟨h | h | h, hbw⟩ := hrel
        · obtain ⟨rfl, rfl, hE⟩ := h
          obtain ⟨kk0, kk1⟩ := HK.out _ hbw
          obtain ⟨hrun, hE2, hT⟩ := app_roomN (ty := 28) (n := 0) (m := n) hE rfl ((HA.out.below hbw).src (by rw [pgC_len, HN.out]) a.cap) (by omega)
          rw [Nat.zero_add, List.nil_append, Nat.zero_mul, Nat.add_zero] at *
          have HE : Hid (Area (wr.setCells w.heap.size 0 (pgC p)) 2 w.heap.size 0 G (pgC p) ∧ Below w.heap.size w (wr.setCells w.heap.size 0 (pgC p))) := Lib.hid ⟨hE2, hT.fresh (Nat.le_refl _) hbw⟩
          clear hE hE2 hT hbw
          go_wp2_with (at_builtin; refine wpList_app_run rfl _ _ _ _ rfl rfl rfl hrun ?_)
          go_roundw
          case rel => exact ⟨.inr (.inl ⟨by go_num, rfl, HE.out.1⟩), HE.out.2⟩
          case measure => simp [intOf]
        · obtain ⟨rfl, rfl, hE⟩ := h
          obtain ⟨kk0, kk1⟩ := HK.out _ hbw
          obtain ⟨hrun, hE2, hT⟩ := app_roomN (ty := 28) (n := n) (m := m) hE (by rw [pgC_len, HN.out]) ((HD.out.below hbw).src (by rw [pgC_len, HM.out]) d.cap) (by omega)
          rw [Nat.zero_add] at hrun hE2 hT
          have HE : Hid (Area (wr.setCells w.heap.size (n * 2) (pgC q)) 2 w.heap.size 0 G (pgC (p ++ q)) ∧ Below w.heap.size w (wr.setCells w.heap.size (n * 2) (pgC q))) := Lib.hid ⟨by rw [pgC_append]; exact hE2, hT.fresh (Nat.le_refl _) hbw⟩
          clear hE hE2 hT hbw
          go_wp2_with (at_builtin; refine wpList_app_run rfl _ _ _ _ rfl rfl rfl hrun ?_)
          go_roundw
          case rel => exact ⟨.inr (.inr ⟨by go_num, rfl, HE.out.1⟩), HE.out.2⟩
          case measure => simp [intOf]
        · obtain ⟨rfl, rfl, hE⟩ := h
          have HE := Lib.hid (And.intro hE hbw)
          clear hE hbw
          go_wp2_with fail
          go_ret
          exact ⟨G, hG, rfl, HE.out.1, HE.out.2⟩
end Go.Proofs.YtkkfgdibficifaaDoor
