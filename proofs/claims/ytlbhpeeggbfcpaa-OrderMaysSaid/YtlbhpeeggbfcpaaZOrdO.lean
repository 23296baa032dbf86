/- order: Rises. -/
import Derived.Test.YtlbhpeeggbfcpaaZOrdM
set_option linter.unusedSimpArgs false
set_option linter.unusedVariables false
set_option linter.unnecessarySimpa false
namespace Go.Proofs.Ytlbhpeeggbfcpaa
open Go.RowKit Go.Shelf
attribute [local go_sem] Oper.semAt_some

theorem near_stops (n : Nat) (hn : 1 ≤ n) (Bs : Nat) (A : Option Addr) (cap : Nat) (S : List Tk) (hlen : S.length ≤ 1000) (w : World) (hBs : Bs < w.heap.size) (hc : w.cell? ⟨Bs, 0, none⟩ = some (.slice A S.length cap)) (hv : RowIs w 3 (.slice A S.length cap) S.length (tkC S)) :
    SeqStopsK Fence.wide n Try.prog 53 #[.pointer (some ⟨Bs, 0, none⟩)] (rndT S) (KpB Bs (.slice A S.length cap)) (fun ys => ys.map (·.1) = List.range (adjL S).length) (fun pre => ∃ k, k ≤ (adjL S).length ∧ pre.map (·.1) = List.range k) (adjL S).length w := fun l J Jx W hW hJ _ hY h0 =>
  near_in n hn l Bs A cap S hlen J Jx (fun s V hs => hJ s V V.drew none hs ⟨rfl, rfl, rfl, Nat.le_refl _, fun _ _ _ => rfl⟩ (fun r e => by cases e)) hY W ((hW.cell (p := ⟨Bs, 0, none⟩) hBs).trans hc) (hv.below hW) h0
theorem rises_iff {S T : List Tk} (hp : S.Perm T) (hs : S.Pairwise fun x y => ¬ ltT y x) : (∀ p ∈ adjL S, p.1.n ≠ p.2.n ∧ p.1.g ≤ p.2.g) ↔ OnceP T ∧ RisP T := by
  constructor
  · intro h
    have h1 := adj_once hs (fun p hp => (h p hp).1)
    have h2 := ris_adj h1 (fun p hp => (h p hp).2)
    exact ⟨(once_lt h1).perm hp.symm, fun x hx y hy => h2 x (hp.mem_iff.2 hx) y (hp.mem_iff.2 hy)⟩
  · rintro ⟨h1, h2⟩ p hpp
    have h3 := h1.perm hp
    have h4 := ltT_of hs h3
    obtain ⟨m1, m2, m3, m4⟩ := adj_mem h4 hpp
    exact ⟨adj_pair h3 hpp, h2 _ (hp.mem_iff.1 m1) _ (hp.mem_iff.1 m2) m3 m4⟩
/-- All pairs that came rise; one that came does not. -/
def AllOk (S : List Tk) (pre : List (RndT S)) : Prop := ∀ y ∈ pre, (rndP S y.1).1.n ≠ (rndP S y.1).2.n ∧ (rndP S y.1).1.g ≤ (rndP S y.1).2.g
def BadOk (S : List Tk) : Prop := ∃ x : RndT S, ¬ ((rndP S x.1).1.n ≠ (rndP S x.1).2.n ∧ (rndP S x.1).1.g ≤ (rndP S x.1).2.g)
set_option maxRecDepth 100000 in
set_option maxHeartbeats 4000000 in
theorem Rises_any {w : World} {v : Value} {T : List Tk} (h : RowIs w 3 v T.length (tkC T)) (hl : T.length ≤ 1000) : Calls Try.prog 18 #[v] w fun e w' => ∃ b, e = .returned (.bool b) ∧ (b = true ↔ OnceP T ∧ RisP T) ∧ Below w.heap.size w w' := by
  have hbA := below_new (w := w) (.cells #[.bool false] 4)
  have HNB := Lib.hid (neighbours_any (h.below hbA) hl)
  have HL := Lib.hid hl
  clear h
  refine (callsIn_wide (n := 9)).1 ?_
  refine callsIn_of_wp_marks Try.func18 rfl trivial ?_ rfl
  simp only [Try.ntmps18, List.size_toArray, List.length_cons, List.length_nil, Nat.reduceAdd, Nat.reduceSub, Array.replicate_succ, Array.replicate_zero, List.push_toArray, List.append_toArray, List.nil_append, List.cons_append]
  refine wpIn_wide.2 ?_
  go_wp2_with fail
  refine (HNB.out).mono ?_
  rintro e w1 ⟨B, v1, S, rfl, hp, hs, hc, hr, hB, ho, hb1⟩
  have hb1' : Below w.heap.size w w1 := hbA.trans (hb1.mono hbA.size)
  have hr0 : w1.heap[w.heap.size]? = some (.cells #[.bool false] 4 (0, 0)) := (hb1.block w.heap.size (by rw [asz]; omega)).trans (alloc_at w _)
  have HP := Lib.hid (rises_iff hp hs)
  have HC := Lib.hid hc
  have HR := Lib.hid hr
  have HBB : Hid (w.heap.size < B ∧ B < w1.heap.size) := Lib.hid ⟨by rw [asz] at hB; omega, heap_lt' hc⟩
  obtain ⟨A1, c1, e1, _⟩ := hr.form
  subst e1
  have HO : Hid (∀ b, (Value.slice A1 S.length c1).ownBlock = some b → w.heap.size < b ∧ b < w1.heap.size) := Lib.hid (fun b hb => ⟨by have := (ho b hb).1; rw [asz] at this; omega, hr.lt b hb⟩)
  have HSL : Hid (S.length ≤ 1000) := Lib.hid (by rw [hp.length_eq]; exact hl)
  have HB1 := Lib.hid hb1'
  have HR0 := Lib.hid hr0
  have HWS : Hid (w.heap.size < w1.heap.size) := Lib.hid (heap_lt hr0)
  clear hp hs hc hr hB ho hb1 hb1' hr0 HNB hbA
  go_wp2_with fail
  refine (wpIn_wide (n := 8)).1 ?_
  refine wpIn_rangeFunc_ownH (n := 8) rfl (by omega) (gf := 53) (lb := #[.pointer (some ⟨B, 0, none⟩)]) rfl trivial (enters_of Try.func53 (by kernel_rfl) rfl)
    (near_stops 7 (by omega) B A1 c1 S HSL.out w1 HBB.out.2 HC.out HR.out) KpB.trans ?hKb (Below.refl _ _) (fun _ => rfl)
    (fun pre W => Below w.heap.size w W ∧ w1.heap.size ≤ W.heap.size ∧ W.heap[w.heap.size]? = some (.cells #[.bool false] 4 (0, 0)) ∧ AllOk S pre)
    (fun cd pre W => cd = .ret ∧ Below w.heap.size w W ∧ W.heap[w.heap.size]? = some (.cells #[.bool false] 4 (0, 0)) ∧ BadOk S)
    ?grow ?growx
    ⟨HB1.out, Nat.le_refl _, HR0.out, fun y hy => by cases hy⟩
    (fun x a' W => ∃ B1 B2, w1.heap.size ≤ B1 ∧ w1.heap.size ≤ B2 ∧ W.heap[B1]? = some (.cells (encT (rndP S x.1).1).toArray 59 (0, 0)) ∧ W.heap[B2]? = some (.cells (encT (rndP S x.1).2).toArray 59 (0, 0)) ∧ a' = { tmps := #[v, undef, .pointer (some ⟨w.heap.size, 0, none⟩), .pointer (some ⟨B1, 0, none⟩), .pointer (some ⟨B2, 0, none⟩), v, .func (.func 53) #[] #[.pointer (some ⟨B, 0, none⟩)], aggT (rndP S x.1).1, aggT (rndP S x.1).2, undef, undef, undef, undef, undef, undef, undef, undef, undef, undef, undef, undef], defers := [] })
    ?growa ?assign ?body ?done ?stop
  case hKb =>
    intro W l' o o' hl' _ _ _
    exact ⟨World.putObj_heap_other (fun e => by have := HBB.out.2; omega), fun g hg => World.putObj_heap_other (fun e => by have := (HO.out g hg).2; omega)⟩
  case grow =>
    intro s W W' row hs hg hr
    refine ⟨hs.1.grown hg hs.1.size (fun k e => by have := (hr k e).1; have := HWS.out; omega), Nat.le_trans hs.2.1 hg.size, (hg.block _ (heap_lt hs.2.2.1) (fun e => by have := (hr _ e.symm).1; have := HWS.out; omega)).trans hs.2.2.1, hs.2.2.2⟩
  case growx =>
    intro cd s W W' row hs hg hr
    obtain ⟨e1, hb, h0, hx⟩ := hs
    exact ⟨e1, hb.grown hg hb.size (fun k e => by have := (hr k e).1; have := HWS.out; omega), (hg.block _ (heap_lt h0) (fun e => by have := (hr _ e.symm).1; have := HWS.out; omega)).trans h0, hx⟩
  case growa =>
    intro x a' s X Y row hs hg hr
    obtain ⟨B1, B2, q1, q2, e1, e2, e3⟩ := hs
    exact ⟨B1, B2, q1, q2, (hg.block _ (heap_lt e1) (fun e => by obtain ⟨o, ho, hcl⟩ := (hr _ e.symm).2; rw [e1] at ho; cases ho; cases hcl)).trans e1, (hg.block _ (heap_lt e2) (fun e => by obtain ⟨o, ho, hcl⟩ := (hr _ e.symm).2; rw [e2] at ho; cases ho; cases hcl)).trans e2, e3⟩
  case assign =>
    rintro l' pre x W K ⟨hb, hs, h0, ho⟩ hK
    simp only [rndT]
    generalize rndP S x.1 = u at *
    obtain ⟨p, q⟩ := u
    simp only [aggT]
    gi_wp2
    have hbn1 := below_new (w := W) (.cells #[.int .i64 p.g, .int .i64 p.site, .int .i64 p.n] 59)
    have hbn2 := below_new (w := W.alloc (.cells #[.int .i64 p.g, .int .i64 p.site, .int .i64 p.n] 59)) (.cells #[.int .i64 q.g, .int .i64 q.site, .int .i64 q.n] 59)
    have hbb := hbn1.trans (hbn2.mono hbn1.size)
    have ha2 := alloc_at (W.alloc (.cells #[.int .i64 p.g, .int .i64 p.site, .int .i64 p.n] 59)) (.cells #[.int .i64 q.g, .int .i64 q.site, .int .i64 q.n] 59)
    rw [asz] at ha2
    refine hK _ _ (((KeepsOthers.alloc _ _).from _).trans ((KeepsOthers.alloc _ _).from _)) ⟨hbb.block _ (by have := HBB.out.2; omega), fun g hg => hbb.block _ (by have := (HO.out g hg).2; omega)⟩ ⟨hb.trans (hbb.mono hb.size), by rw [asz, asz]; omega, (hbb.block _ (heap_lt h0)).trans h0, ho⟩ ⟨W.heap.size, W.heap.size + 1, hs, by omega, (hbn2.block _ (by rw [asz]; omega)).trans (alloc_at W _), ha2, rfl⟩
  case body =>
    rintro l' pre x a' W hl' _ ⟨hb, hs, h0, ho⟩ ⟨B1, B2, hB1, hB2, bX, bY, rfl⟩ hlt
    have hx2 : ((rndP S x.1).1.n ≠ (rndP S x.1).2.n ∧ (rndP S x.1).1.g ≤ (rndP S x.1).2.g) → AllOk S (pre ++ [x]) := fun e y hy => by
      rcases List.mem_append.1 hy with hy | hy
      · exact ho y hy
      · rw [List.mem_singleton.1 hy]; exact e
    have hx3 : ¬ ((rndP S x.1).1.n ≠ (rndP S x.1).2.n ∧ (rndP S x.1).1.g ≤ (rndP S x.1).2.g) → BadOk S := fun e => ⟨x, e⟩
    have HX2 := Lib.hid hx2
    have HX3 := Lib.hid hx3
    generalize rndP S x.1 = u at *
    obtain ⟨p, q⟩ := u
    simp only [aggT]
    have c0 := cell_of bX 0
    have c2 := cell_of bX 2
    have d0 := cell_of bY 0
    have d2 := cell_of bY 2
    have f0 := free0 h0 0
    have r0 := cell_of h0 0
    simp [encT] at c0 c2 d0 d2 r0
    have HB := Lib.hid hb
    have HS := Lib.hid hs
    have HH0 := Lib.hid h0
    clear hx2 hx3 ho bX bY hb h0
    by_cases hn : p.n = q.n
    · have hbn : (p.n == q.n) = true := by rw [hn]; exact beq_self_eq_true _
      have hz := HWS.out
      have s0 := set_at HH0.out 0 (.bool false)
      simp only [Array.setIfInBounds, List.size_toArray, List.length_cons, List.length_nil, Nat.zero_add, Nat.lt_add_one, dite_true, ↓reduceDIte] at s0
      have HK5 := Lib.hid (KeepsFrom.of_grownBy (B := w1.heap.size) (grownBy_setCell' W w.heap.size (.bool false)) (fun j e => by cases e; omega))
      have HB5 := Lib.hid (HB.out.setCell (p := ⟨w.heap.size, 0, none⟩) (Nat.le_refl _) (.bool false))
      have HS0 := Lib.hid s0
      have HXX := Lib.hid (HX3.out (fun e => e.1 hn))
      clear hz s0 hn
      gi_wp2
      exact ⟨HK5.out, rfl, HB5.out, HS0.out, HXX.out⟩
    · have hbn : (p.n == q.n) = false := by rw [beq_eq_false_iff_ne]; exact hn
      by_cases hg : q.g < p.g
      · have hd : decide (q.g < p.g) = true := decide_eq_true hg
        have hz := HWS.out
        have s0 := set_at HH0.out 0 (.bool false)
        simp only [Array.setIfInBounds, List.size_toArray, List.length_cons, List.length_nil, Nat.zero_add, Nat.lt_add_one, dite_true, ↓reduceDIte] at s0
        have HK5 := Lib.hid (KeepsFrom.of_grownBy (B := w1.heap.size) (grownBy_setCell' W w.heap.size (.bool false)) (fun j e => by cases e; omega))
        have HB5 := Lib.hid (HB.out.setCell (p := ⟨w.heap.size, 0, none⟩) (Nat.le_refl _) (.bool false))
        have HS0 := Lib.hid s0
        have HXX := Lib.hid (HX3.out (fun e => by have : p.g ≤ q.g := e.2; omega))
        clear hz s0 hn
        gi_wp2
        exact ⟨HK5.out, rfl, HB5.out, HS0.out, HXX.out⟩
      · have HXX := Lib.hid (HX2.out ⟨hn, Int.not_lt.1 hg⟩)
        clear hn
        gi_wp2
        exact ⟨KeepsFrom.refl _ _, ⟨rfl, fun _ _ => rfl⟩, HB.out, HS.out, HH0.out, HXX.out⟩
  case done =>
    rintro D ys W hD hys ⟨hb, hs, h0, ho⟩ hK
    have hall : ∀ p ∈ adjL S, p.1.n ≠ p.2.n ∧ p.1.g ≤ p.2.g := fun p hp => by
      obtain ⟨j, hj⟩ := List.getElem?_of_mem hp
      have hjl := (List.getElem?_eq_some_iff.1 hj).1
      have hm : j ∈ ys.map (·.1) := by rw [hys]; exact List.mem_range.2 hjl
      obtain ⟨y, hy, e⟩ := List.mem_map.1 hm
      have h1 := ho y hy
      have h2 := rndP_at y.2
      rw [e, hj] at h2
      rw [e, ← Option.some.inj h2] at h1
      exact h1
    have HALL := Lib.hid hall
    have c0 := cell_of h0 0
    have f0 := free0 h0 0
    have hn1 : D ≠ w.heap.size := by have := HWS.out; omega
    have HK := Lib.hid hK
    have HB := Lib.hid hb
    have HH0 := Lib.hid h0
    clear hys hK hb h0 ho hs hall
    simp at c0
    go_wp2_with fail
    refine ⟨by simp, .inl ⟨_, _, rfl, run_takeDeferred ?_, ?_⟩⟩
    · rw [Below.heap_setCell _ _ _ _ hn1]
      exact HK.out
    · have g0 : (W.setCell ⟨w.heap.size, 0, none⟩ (.bool true)).heap[w.heap.size]? = some (.cells (#[Value.bool false].setIfInBounds 0 (.bool true)) 4 (0, 0)) := set_at HH0.out 0 _
      have hbf : Below w.heap.size w (W.setCell ⟨w.heap.size, 0, none⟩ (.bool true)) := HB.out.setCell (p := ⟨w.heap.size, 0, none⟩) (Nat.le_refl _) _
      generalize W.setCell ⟨w.heap.size, 0, none⟩ (.bool true) = W5 at g0 hbf ⊢
      have e0 : (W5.putObj D (.deferred none)).cell? ⟨w.heap.size, 0, none⟩ = some (.bool true) := (World.cell?_of_block (a := ⟨w.heap.size, 0, none⟩) (World.putObj_heap_other (fun e => hn1 (by first | exact e | exact e.symm)))).trans (cell_of g0 0)
      refine ⟨.bool true, by simp [results, Try.results18, go_sem, e0], ?_⟩
      refine ⟨true, rfl, ⟨fun _ => HP.out.1 HALL.out, fun _ => rfl⟩, ?_⟩
      refine hbf.grown (grownBy_putObj' _ D _) hbf.size (fun k e => ?_)
      cases e
      have := HWS.out
      omega
  case stop =>
    rintro D cd pre W hD _ ⟨rfl, hb, h0, ⟨x, hx⟩⟩ hK
    have hno : ¬ ∀ p ∈ adjL S, p.1.n ≠ p.2.n ∧ p.1.g ≤ p.2.g := fun h => hx (h _ (List.mem_of_getElem? (rndP_at x.2)))
    have hn1 : D ≠ w.heap.size := by have := HWS.out; omega
    have g0 := cell_of h0 0
    clear hx
    gi_wp2
    refine ⟨by simp, .inl ⟨_, _, rfl, run_takeDeferred hK, ?_⟩⟩
    have e0 : (W.putObj D (.deferred none)).cell? ⟨w.heap.size, 0, none⟩ = some (.bool false) := (World.cell?_of_block (a := ⟨w.heap.size, 0, none⟩) (World.putObj_heap_other (fun e => hn1 (by first | exact e | exact e.symm)))).trans g0
    refine ⟨.bool false, by simp [results, Try.results18, go_sem, e0], ?_⟩
    refine ⟨false, rfl, ⟨fun e => (by cases e), fun e => absurd (HP.out.2 e) hno⟩, ?_⟩
    refine hb.grown (grownBy_putObj' _ D _) hb.size (fun k e => ?_)
    cases e
    have := HWS.out
    omega
end Go.Proofs.Ytlbhpeeggbfcpaa
