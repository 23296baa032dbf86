/- The document's own net in memory: Does (Drop, Twice, Move, Hold). (gennrag.py wrote it.) -/
import Derived.Test.YtmbonngjkgcijaaGreatDoorZNetP
set_option linter.unusedSimpArgs false
set_option linter.unusedVariables false
set_option linter.unnecessarySimpa false
namespace Go.Proofs.YtmbonngjkgcijaaGreatDoor
open Go.RowKit Go.Shelf
section
variable {w : World} {r : Nat} {v : Value} {most : Int} {ct : Nat → Bool}
theorem RPost.ahead {w w0 w' : World} {L : List RP} (hb : Below w.heap.size w w0) (h : RPost w0 r most L ct w') : RPost w r most L ct w' := by
  obtain ⟨v', h1, h2, h3⟩ := h
  exact ⟨v', h1, (Touch.of_below hb).trans h2 (fun _ _ e => e), fun k e => Nat.le_trans hb.size (h3 k e)⟩
theorem RPost.behind {w w1 w2 : World} {L M : List RP} (h : RPost w r most L ct w1) (h2 : ∀ v', RNt w1 r v' most L ct → RPost w1 r most M ct w2) : RPost w r most M ct w2 := by
  obtain ⟨v', h1, ht, hv⟩ := h
  obtain ⟨v2, q1, q2, q3⟩ := h2 v' h1
  exact ⟨v2, q1, ht.trans q2 (fun _ _ e => e), fun k e => Nat.le_trans ht.size (q3 k e)⟩
theorem ins_split {α : Type} (l : List α) (k : Nat) (x : α) (hk : k ≤ l.length) : l.insertIdx k x = l.take k ++ [x] ++ l.drop k := by
  induction l generalizing k with
  | nil =>
    obtain rfl : k = 0 := by simpa using hk
    rfl
  | cons y r ih => cases k with
    | zero => rfl
    | succ k =>
      rw [List.insertIdx_succ_cons, ih k (by simpa using hk)]
      rfl
/-- A packet is taken out. -/
theorem rntake_at {L : List RP} (h : RNt w r v most L ct) (hl : L.length ≤ 2000) {j : Nat} {x : RP} (hj : L[j]? = some x) :
    Calls Tryz.prog 98 #[.pointer (some ⟨r, 0, none⟩), .int .i64 j] w fun e w' => e = .returned (.agg #[.slice x.A x.bs.length x.cap, .int .i64 x.site, .int .i64 x.waits]) ∧ RPost w r most (L.eraseIdx j) ct w' := by
  have hjl := (List.getElem?_eq_some_iff.1 hj).1
  have hLe : L = L.take j ++ x :: L.drop (j + 1) := by
    rw [← (List.getElem?_eq_some_iff.1 hj).2, List.getElem_cons_drop, List.take_append_drop]
  have hLr : L.eraseIdx j = L.take j ++ L.drop (j + 1) := List.eraseIdx_eq_take_drop_succ L j
  have hTK := rntake_any (w := w) (A := L.take j) (B := L.drop (j + 1)) (x := x) (by rw [← hLe]; exact h) (by rw [← hLe]; exact hl)
  rw [← hLr, List.length_take, Nat.min_eq_left (Nat.le_of_lt hjl)] at hTK
  exact hTK
/-- A packet is put at a place. -/
theorem rnput_at {L : List RP} (h : RNt w r v most L ct) (hl : L.length ≤ 2000) {k : Nat} (hk : k ≤ L.length) (x : RP) :
    Calls Tryz.prog 96 #[.pointer (some ⟨r, 0, none⟩), .int .i64 k, .agg #[.slice x.A x.bs.length x.cap, .int .i64 x.site, .int .i64 x.waits]] w fun e w' => e = .returned (.tuple #[]) ∧ RPost w r most (L.insertIdx k x) ct w' := by
  have hp := rnput_any (w := w) (A := L.take k) (B := L.drop k) (x := x) (by rw [List.take_append_drop]; exact h) (by rw [List.take_append_drop]; exact hl)
  rw [← ins_split L k x hk, List.length_take, Nat.min_eq_left hk] at hp
  exact hp
set_option maxRecDepth 100000 in
set_option maxHeartbeats 2000000 in
theorem rndoes_none {L : List RP} (h : RNt w r v most L ct) {kd i k : Int} (hi : ¬ (0 ≤ i ∧ i < (L.length : Int))) :
    Calls Tryz.prog 51 #[.pointer (some ⟨r, 0, none⟩), .int .i64 kd, .int .i64 i, .int .i64 k] w fun e w' => e = .returned (.int .i64 3) ∧ w' = w := by
  obtain ⟨vA, cp, hv, _⟩ := id (RowIs.form h.row)
  have kr : w.cell? ⟨r, 1, none⟩ = some (.slice vA L.length cp) := (cell_of h.head 1).trans (congrArg some hv)
  have hcs : (i < 0) ∨ (¬ i < 0 ∧ (L.length : Int) ≤ i) := by omega
  clear h hv hi
  rcases hcs with hlt | ⟨hnl, hge⟩
  · have q1 : decide (i < 0) = true := decide_eq_true hlt
    clear hlt
    go_enter Tryz.func51, Tryz.ntmps51
    go_wp2_with fail
    go_ret
    exact ⟨rfl, rfl⟩
  · have q1 : decide (i < 0) = false := decide_eq_false hnl
    have q2 : decide (i ≥ (L.length : Int)) = true := decide_eq_true hge
    clear hnl hge
    go_enter Tryz.func51, Tryz.ntmps51
    go_wp2_with fail
    go_ret
    exact ⟨rfl, rfl⟩
set_option maxRecDepth 100000 in
set_option maxHeartbeats 2000000 in
theorem rndrop_ok {L : List RP} (h : RNt w r v most L ct) (hl : L.length ≤ 1900) {j : Nat} {x : RP} (hj : L[j]? = some x) {k : Int} :
    Calls Tryz.prog 51 #[.pointer (some ⟨r, 0, none⟩), .int .i64 0, .int .i64 j, .int .i64 k] w fun e w' => e = .returned (.int .i64 0) ∧ RPost w r most (L.eraseIdx j) ct w' := by
  have hjl := (List.getElem?_eq_some_iff.1 hj).1
  have hb0 := below_new (w := w) (.cells x.a 102)
  obtain ⟨W0, hW0⟩ : ∃ W, W = w.alloc (.cells x.a 102) := ⟨_, rfl⟩
  have hat0 : W0.heap[w.heap.size]? = some (.cells x.a 102 (0, 0)) := by rw [hW0]; exact alloc_at _ _
  rw [← hW0] at hb0
  obtain ⟨g, cp, rfl, e0, e1, e2⟩ := rp_cells h.row hj
  have kr : w.cell? ⟨r, 1, none⟩ = some (.slice (some ⟨g, 0, none⟩) L.length cp) := cell_of h.head 1
  have hr0 := heap_lt h.head
  have HW0 := Lib.hid hW0
  have HB0 := Lib.hid (And.intro hb0 hat0)
  have HH := Lib.hid (And.intro (h.below hb0) (And.intro hj (And.intro hjl hl)))
  have HC : Hid (∀ W, Below w.heap.size w W → W.cell? ⟨r, 0, none⟩ = some (.int .i64 most) ∧ W.cell? ⟨r, 1, none⟩ = some (.slice (some ⟨g, 0, none⟩) L.length cp)) := Lib.hid (fun W hW => ⟨cell_of (h.below hW).head 0, cell_of (h.below hW).head 1⟩)
  have HR0 := Lib.hid hr0
  have q1 : decide ((j : Int) < 0) = false := decide_eq_false (by omega)
  have q2 : decide ((j : Int) ≥ (L.length : Int)) = false := decide_eq_false (by omega)
  have q3 : (j : Int) < (L.length : Int) := by omega
  unfold RP.v at e0
  have HTK := Lib.hid (rntake_at (h.below hb0) (by omega) hj)
  clear h hb0 hat0 hW0 hr0 hjl hl
  go_enter Tryz.func51, Tryz.ntmps51
  go_upto_region 4 with fail
  change Code.wp _ _ _ _ (World.alloc w (.cells x.a 102))
  rw [← HW0.out]
  clear e0 e1 e2 kr
  go_wp2_with fail
  refine (HTK.out).mono ?_
  rintro e w2 ⟨rfl, hp⟩
  have HP := Lib.hid (RPost.ahead HB0.out.1 hp)
  clear hp
  go_wp2_with fail
  go_ret
  exact ⟨rfl, HP.out⟩
set_option maxRecDepth 100000 in
set_option maxHeartbeats 2000000 in
theorem rnmove_ok {L : List RP} (h : RNt w r v most L ct) (hl : L.length ≤ 1900) {j k : Nat} {x : RP} (hj : L[j]? = some x) (hk : k < L.length) :
    Calls Tryz.prog 51 #[.pointer (some ⟨r, 0, none⟩), .int .i64 2, .int .i64 j, .int .i64 k] w fun e w' => e = .returned (.int .i64 0) ∧ RPost w r most ((L.eraseIdx j).insertIdx k x) ct w' := by
  have hjl := (List.getElem?_eq_some_iff.1 hj).1
  have hb0 := below_new (w := w) (.cells x.a 102)
  obtain ⟨W0, hW0⟩ : ∃ W, W = w.alloc (.cells x.a 102) := ⟨_, rfl⟩
  have hat0 : W0.heap[w.heap.size]? = some (.cells x.a 102 (0, 0)) := by rw [hW0]; exact alloc_at _ _
  rw [← hW0] at hb0
  obtain ⟨g, cp, rfl, e0, e1, e2⟩ := rp_cells h.row hj
  have kr : w.cell? ⟨r, 1, none⟩ = some (.slice (some ⟨g, 0, none⟩) L.length cp) := cell_of h.head 1
  have hr0 := heap_lt h.head
  have HW0 := Lib.hid hW0
  have HB0 := Lib.hid (And.intro hb0 hat0)
  have HH := Lib.hid (And.intro (h.below hb0) (And.intro hj (And.intro hjl hl)))
  have HC : Hid (∀ W, Below w.heap.size w W → W.cell? ⟨r, 0, none⟩ = some (.int .i64 most) ∧ W.cell? ⟨r, 1, none⟩ = some (.slice (some ⟨g, 0, none⟩) L.length cp)) := Lib.hid (fun W hW => ⟨cell_of (h.below hW).head 0, cell_of (h.below hW).head 1⟩)
  have HR0 := Lib.hid hr0
  have q1 : decide ((j : Int) < 0) = false := decide_eq_false (by omega)
  have q2 : decide ((j : Int) ≥ (L.length : Int)) = false := decide_eq_false (by omega)
  have q3 : (j : Int) < (L.length : Int) := by omega
  unfold RP.v at e0
  have HTK := Lib.hid (rntake_at (h.below hb0) (by omega) hj)
  have q4 : decide ((k : Int) < 0) = false := decide_eq_false (by omega)
  have q5 : decide ((k : Int) ≥ (L.length : Int)) = false := decide_eq_false (by omega)
  have HK := Lib.hid hk
  have q6 : ¬ L.length ≤ k := by omega
  have q7 : ¬ (L.length : Int) ≤ (k : Int) := by omega
  clear h hb0 hat0 hW0 hr0 hjl hl hk
  go_enter Tryz.func51, Tryz.ntmps51
  go_upto_region 4 with fail
  change Code.wp _ _ _ _ (World.alloc w (.cells x.a 102))
  rw [← HW0.out]
  have kr0 := (HC.out _ HB0.out.1).2
  clear e0 e1 e2 kr
  go_wp2_with fail
  refine (HTK.out).mono ?_
  rintro e w2 ⟨rfl, v2, hn2, ht2, hv2⟩
  have hat2 := (ht2.block _ (heap_lt HB0.out.2) (by have := HR0.out; omega)).trans HB0.out.2
  have hlen : (L.eraseIdx j).length = L.length - 1 := by rw [List.length_eraseIdx, if_pos HH.out.2.2.1]
  have HPU := Lib.hid (rnput_at hn2 (by rw [hlen]; have := HH.out.2.2.2; omega) (k := k) (by rw [hlen]; have := HK.out; omega) x)
  have HP2 : Hid (∀ W, RPost w2 r most ((L.eraseIdx j).insertIdx k x) ct W → RPost w r most ((L.eraseIdx j).insertIdx k x) ct W) := Lib.hid (fun W hW => RPost.behind (RPost.ahead HB0.out.1 ⟨v2, hn2, ht2, hv2⟩) (fun _ _ => hW))
  have d0 : w2.cell? ⟨w.heap.size, 0, none⟩ = some (.slice x.A x.bs.length x.cap) := cell_of hat2 0
  have d1 : w2.cell? ⟨w.heap.size, 1, none⟩ = some (.int .i64 x.site) := cell_of hat2 1
  have d2 : w2.cell? ⟨w.heap.size, 2, none⟩ = some (.int .i64 x.waits) := cell_of hat2 2
  clear hn2 ht2 hv2 hat2 hlen kr0
  go_wp2_with fail
  refine (HPU.out).mono ?_
  rintro e w3 ⟨rfl, hp⟩
  have HP := Lib.hid (HP2.out _ hp)
  clear hp
  go_wp2_with fail
  go_ret
  exact ⟨rfl, HP.out⟩
set_option maxRecDepth 100000 in
set_option maxHeartbeats 2000000 in
theorem rnmove_arg {L : List RP} (h : RNt w r v most L ct) {j : Nat} {k : Int} {x : RP} (hj : L[j]? = some x) (hk : ¬ (0 ≤ k ∧ k < (L.length : Int))) :
    Calls Tryz.prog 51 #[.pointer (some ⟨r, 0, none⟩), .int .i64 2, .int .i64 j, .int .i64 k] w fun e w' => e = .returned (.int .i64 2) ∧ Below w.heap.size w w' := by
  have hjl := (List.getElem?_eq_some_iff.1 hj).1
  have hb0 := below_new (w := w) (.cells x.a 102)
  obtain ⟨W0, hW0⟩ : ∃ W, W = w.alloc (.cells x.a 102) := ⟨_, rfl⟩
  have hat0 : W0.heap[w.heap.size]? = some (.cells x.a 102 (0, 0)) := by rw [hW0]; exact alloc_at _ _
  rw [← hW0] at hb0
  obtain ⟨g, cp, rfl, e0, e1, e2⟩ := rp_cells h.row hj
  have kr : w.cell? ⟨r, 1, none⟩ = some (.slice (some ⟨g, 0, none⟩) L.length cp) := cell_of h.head 1
  have hr0 := heap_lt h.head
  have HW0 := Lib.hid hW0
  have HB0 := Lib.hid (And.intro hb0 hat0)
  have HH := Lib.hid (And.intro (h.below hb0) (And.intro hj hjl))
  have HC : Hid (∀ W, Below w.heap.size w W → W.cell? ⟨r, 0, none⟩ = some (.int .i64 most) ∧ W.cell? ⟨r, 1, none⟩ = some (.slice (some ⟨g, 0, none⟩) L.length cp)) := Lib.hid (fun W hW => ⟨cell_of (h.below hW).head 0, cell_of (h.below hW).head 1⟩)
  have HR0 := Lib.hid hr0
  have q1 : decide ((j : Int) < 0) = false := decide_eq_false (by omega)
  have q2 : decide ((j : Int) ≥ (L.length : Int)) = false := decide_eq_false (by omega)
  have q3 : (j : Int) < (L.length : Int) := by omega
  unfold RP.v at e0
  have hcs : (k < 0) ∨ (¬ k < 0 ∧ (L.length : Int) ≤ k) := by omega
  clear h hb0 hat0 hW0 hr0 hjl hk
  rcases hcs with hlt | ⟨hnl, hge⟩
  · have q4 : decide (k < 0) = true := decide_eq_true hlt
    clear hlt
    go_enter Tryz.func51, Tryz.ntmps51
    go_upto_region 4 with fail
    change Code.wp _ _ _ _ (World.alloc w (.cells x.a 102))
    rw [← HW0.out]
    clear e0 e1 e2 kr
    go_wp2_with fail
    go_ret
    exact ⟨rfl, HB0.out.1⟩
  · have q4 : decide (k < 0) = false := decide_eq_false hnl
    have q5 : decide (k ≥ (L.length : Int)) = true := decide_eq_true hge
    clear hnl hge
    go_enter Tryz.func51, Tryz.ntmps51
    go_upto_region 4 with fail
    change Code.wp _ _ _ _ (World.alloc w (.cells x.a 102))
    rw [← HW0.out]
    have kr0 := (HC.out _ HB0.out.1).2
    clear e0 e1 e2 kr
    go_wp2_with fail
    go_ret
    exact ⟨rfl, HB0.out.1⟩
set_option maxRecDepth 100000 in
set_option maxHeartbeats 2000000 in
theorem rnhold_ok {L : List RP} (h : RNt w r v most L ct) (hl : L.length ≤ 1900) {j : Nat} {k : Int} {x : RP} (hj : L[j]? = some x) (hk : 0 ≤ k ∧ k ≤ 1000) :
    Calls Tryz.prog 51 #[.pointer (some ⟨r, 0, none⟩), .int .i64 3, .int .i64 j, .int .i64 k] w fun e w' => e = .returned (.int .i64 0) ∧ RPost w r most ((L.eraseIdx j).insertIdx j { x with waits := k }) ct w' := by
  obtain ⟨y, hy⟩ : ∃ y : RP, y = { x with waits := k } := ⟨_, rfl⟩
  rw [← hy]
  have hya : y.a = #[.slice x.A x.bs.length x.cap, .int .i64 x.site, .int .i64 k] := by rw [hy]; rfl
  have hjl := (List.getElem?_eq_some_iff.1 hj).1
  have hb0 := below_new (w := w) (.cells y.a 102)
  obtain ⟨W0, hW0⟩ : ∃ W, W = w.alloc (.cells y.a 102) := ⟨_, rfl⟩
  have hat0 : W0.heap[w.heap.size]? = some (.cells y.a 102 (0, 0)) := by rw [hW0]; exact alloc_at _ _
  rw [← hW0] at hb0
  obtain ⟨g, cp, rfl, e0, e1, e2⟩ := rp_cells h.row hj
  have kr : w.cell? ⟨r, 1, none⟩ = some (.slice (some ⟨g, 0, none⟩) L.length cp) := cell_of h.head 1
  have hr0 := heap_lt h.head
  have HW0 := Lib.hid hW0
  have HB0 := Lib.hid (And.intro hb0 hat0)
  have HH := Lib.hid (And.intro (h.below hb0) (And.intro hj (And.intro hjl hl)))
  have HC : Hid (∀ W, Below w.heap.size w W → W.cell? ⟨r, 0, none⟩ = some (.int .i64 most) ∧ W.cell? ⟨r, 1, none⟩ = some (.slice (some ⟨g, 0, none⟩) L.length cp)) := Lib.hid (fun W hW => ⟨cell_of (h.below hW).head 0, cell_of (h.below hW).head 1⟩)
  have HR0 := Lib.hid hr0
  have q1 : decide ((j : Int) < 0) = false := decide_eq_false (by omega)
  have q2 : decide ((j : Int) ≥ (L.length : Int)) = false := decide_eq_false (by omega)
  have q3 : (j : Int) < (L.length : Int) := by omega
  unfold RP.v at e0
  have HTK := Lib.hid (rntake_at (h.below hb0) (by omega) hj)
  have q4 : decide (k < 0) = false := decide_eq_false (by omega)
  have q5 : decide (k > 1000) = false := decide_eq_false (by omega)
  have HYA := Lib.hid (And.intro hya hy)
  clear h hb0 hat0 hW0 hr0 hjl hl hk hya hy
  go_enter Tryz.func51, Tryz.ntmps51
  go_upto_region 21 with fail
  change Code.wp _ _ _ _ (World.alloc w (.cells #[.slice x.A x.bs.length x.cap, .int .i64 x.site, .int .i64 k] 102))
  rw [← HYA.out.1, ← HW0.out]
  clear e0 e1 e2 kr
  go_wp2_with fail
  refine (HTK.out).mono ?_
  rintro e w2 ⟨rfl, v2, hn2, ht2, hv2⟩
  have hat2 := (ht2.block _ (heap_lt HB0.out.2) (by have := HR0.out; omega)).trans HB0.out.2
  rw [HYA.out.1] at hat2
  have hlen : (L.eraseIdx j).length = L.length - 1 := by rw [List.length_eraseIdx, if_pos HH.out.2.2.1]
  have hput := rnput_at hn2 (by rw [hlen]; have := HH.out.2.2.2; omega) (k := j) (by rw [hlen]; have := HH.out.2.2.1; omega) y
  rw [show (#[.slice y.A y.bs.length y.cap, .int .i64 y.site, .int .i64 y.waits] : Array Value) = y.a from rfl, HYA.out.1] at hput
  have HPU := Lib.hid hput
  have HP2 : Hid (∀ W, RPost w2 r most ((L.eraseIdx j).insertIdx j y) ct W → RPost w r most ((L.eraseIdx j).insertIdx j y) ct W) := Lib.hid (fun W hW => RPost.behind (RPost.ahead HB0.out.1 ⟨v2, hn2, ht2, hv2⟩) (fun _ _ => hW))
  have d0 : w2.cell? ⟨w.heap.size, 0, none⟩ = some (.slice x.A x.bs.length x.cap) := cell_of hat2 0
  have d1 : w2.cell? ⟨w.heap.size, 1, none⟩ = some (.int .i64 x.site) := cell_of hat2 1
  have d2 : w2.cell? ⟨w.heap.size, 2, none⟩ = some (.int .i64 k) := cell_of hat2 2
  clear hn2 ht2 hv2 hat2 hlen hput
  go_wp2_with fail
  refine (HPU.out).mono ?_
  rintro e w3 ⟨rfl, hp⟩
  have HP := Lib.hid (HP2.out _ hp)
  clear hp
  go_wp2_with fail
  go_ret
  exact ⟨rfl, HP.out⟩
set_option maxRecDepth 100000 in
set_option maxHeartbeats 2000000 in
theorem rnhold_arg {L : List RP} (h : RNt w r v most L ct) {j : Nat} {k : Int} {x : RP} (hj : L[j]? = some x) (hk : ¬ (0 ≤ k ∧ k ≤ 1000)) :
    Calls Tryz.prog 51 #[.pointer (some ⟨r, 0, none⟩), .int .i64 3, .int .i64 j, .int .i64 k] w fun e w' => e = .returned (.int .i64 2) ∧ Below w.heap.size w w' := by
  have hjl := (List.getElem?_eq_some_iff.1 hj).1
  have hb0 := below_new (w := w) (.cells x.a 102)
  obtain ⟨W0, hW0⟩ : ∃ W, W = w.alloc (.cells x.a 102) := ⟨_, rfl⟩
  have hat0 : W0.heap[w.heap.size]? = some (.cells x.a 102 (0, 0)) := by rw [hW0]; exact alloc_at _ _
  rw [← hW0] at hb0
  obtain ⟨g, cp, rfl, e0, e1, e2⟩ := rp_cells h.row hj
  have kr : w.cell? ⟨r, 1, none⟩ = some (.slice (some ⟨g, 0, none⟩) L.length cp) := cell_of h.head 1
  have hr0 := heap_lt h.head
  have HW0 := Lib.hid hW0
  have HB0 := Lib.hid (And.intro hb0 hat0)
  have HH := Lib.hid (And.intro (h.below hb0) (And.intro hj hjl))
  have HC : Hid (∀ W, Below w.heap.size w W → W.cell? ⟨r, 0, none⟩ = some (.int .i64 most) ∧ W.cell? ⟨r, 1, none⟩ = some (.slice (some ⟨g, 0, none⟩) L.length cp)) := Lib.hid (fun W hW => ⟨cell_of (h.below hW).head 0, cell_of (h.below hW).head 1⟩)
  have HR0 := Lib.hid hr0
  have q1 : decide ((j : Int) < 0) = false := decide_eq_false (by omega)
  have q2 : decide ((j : Int) ≥ (L.length : Int)) = false := decide_eq_false (by omega)
  have q3 : (j : Int) < (L.length : Int) := by omega
  unfold RP.v at e0
  have hcs : (k < 0) ∨ (¬ k < 0 ∧ 1000 < k) := by omega
  clear h hb0 hat0 hW0 hr0 hjl hk
  rcases hcs with hlt | ⟨hnl, hge⟩
  · have q4 : decide (k < 0) = true := decide_eq_true hlt
    clear hlt
    go_enter Tryz.func51, Tryz.ntmps51
    go_upto_region 4 with fail
    change Code.wp _ _ _ _ (World.alloc w (.cells x.a 102))
    rw [← HW0.out]
    clear e0 e1 e2 kr
    go_wp2_with fail
    go_ret
    exact ⟨rfl, HB0.out.1⟩
  · have q4 : decide (k < 0) = false := decide_eq_false hnl
    have q5 : decide (k > 1000) = true := decide_eq_true hge
    clear hnl hge
    go_enter Tryz.func51, Tryz.ntmps51
    go_upto_region 4 with fail
    change Code.wp _ _ _ _ (World.alloc w (.cells x.a 102))
    rw [← HW0.out]
    clear e0 e1 e2 kr
    go_wp2_with fail
    go_ret
    exact ⟨rfl, HB0.out.1⟩
set_option maxRecDepth 100000 in
set_option maxHeartbeats 4000000 in
theorem rntwice_full {L : List RP} (h : RNt w r v most L ct) {j : Nat} {k : Int} {x : RP} (hj : L[j]? = some x) (hm : most ≤ (L.length : Int)) :
    Calls Tryz.prog 51 #[.pointer (some ⟨r, 0, none⟩), .int .i64 1, .int .i64 j, .int .i64 k] w fun e w' => e = .returned (.int .i64 5) ∧ Below w.heap.size w w' := by
  have hjl := (List.getElem?_eq_some_iff.1 hj).1
  have hb0 := below_new (w := w) (.cells x.a 102)
  obtain ⟨W0, hW0⟩ : ∃ W, W = w.alloc (.cells x.a 102) := ⟨_, rfl⟩
  have hat0 : W0.heap[w.heap.size]? = some (.cells x.a 102 (0, 0)) := by rw [hW0]; exact alloc_at _ _
  rw [← hW0] at hb0
  obtain ⟨g, cp, rfl, e0, e1, e2⟩ := rp_cells h.row hj
  have kr : w.cell? ⟨r, 1, none⟩ = some (.slice (some ⟨g, 0, none⟩) L.length cp) := cell_of h.head 1
  have hr0 := heap_lt h.head
  have HW0 := Lib.hid hW0
  have HB0 := Lib.hid (And.intro hb0 hat0)
  have HH := Lib.hid (And.intro (h.below hb0) (And.intro hj hjl))
  have HC : Hid (∀ W, Below w.heap.size w W → W.cell? ⟨r, 0, none⟩ = some (.int .i64 most) ∧ W.cell? ⟨r, 1, none⟩ = some (.slice (some ⟨g, 0, none⟩) L.length cp)) := Lib.hid (fun W hW => ⟨cell_of (h.below hW).head 0, cell_of (h.below hW).head 1⟩)
  have HR0 := Lib.hid hr0
  have q1 : decide ((j : Int) < 0) = false := decide_eq_false (by omega)
  have q2 : decide ((j : Int) ≥ (L.length : Int)) = false := decide_eq_false (by omega)
  have q3 : (j : Int) < (L.length : Int) := by omega
  unfold RP.v at e0
  clear h hb0 hat0 hW0 hr0 hjl
  go_enter Tryz.func51, Tryz.ntmps51
  go_upto_region 4 with fail
  change Code.wp _ _ _ _ (World.alloc w (.cells x.a 102))
  rw [← HW0.out]
  clear e0 e1 e2 kr
  go_upto_region 8 with fail
  refine wp_only ?_
  refine wp_region_held_drew (S := fun W => W.cell? ⟨r, 0, none⟩ = some (.int .i64 most) ∧ W.cell? ⟨r, 1, none⟩ = some (.slice (some ⟨g, 0, none⟩) L.length cp)) (by kernel_rfl) (HC.out _ (below_drew HB0.out.1)) (fun hHeld => ?_)
  refine tkH (i := 0) (oi := { dst := some 36, op := .move (.tmp 0), type := 28, pos := "ref.go:76", after := #[], guard := none }) (v := ?vv1) ?hy1 ?rest1
  case hy1 => (refine Or.inl ⟨by rfl, ?_⟩; intro W hSw; (try dsimp only at hSw); go_simp; (try with_reducible rfl))
  try simp only [Act.put, pzz]
  refine tkH (i := 1) (oi := { dst := some 37, op := .nilCheck (.tmp 36), type := 0, pos := "ref.go:76", after := #[⟨0, .data⟩], guard := none }) (v := ?vv2) ?hy2 ?rest2
  case hy2 => (refine Or.inl ⟨by rfl, ?_⟩; intro W hSw; (try dsimp only at hSw); go_simp; (try with_reducible rfl))
  try simp only [Act.put, pzz]
  refine tkH (i := 2) (oi := { dst := some 38, op := .fieldAddr 32 (.tmp 37) 1, type := 0, pos := "ref.go:76", after := #[⟨1, .data⟩], guard := none }) (v := ?vv3) ?hy3 ?rest3
  case hy3 => (refine Or.inl ⟨by rfl, ?_⟩; intro W hSw; (try dsimp only at hSw); go_simp; (try with_reducible rfl))
  try simp only [Act.put, pzz]
  refine tkH (i := 3) (oi := { dst := some 39, op := .load 29 (.tmp 38), type := 29, pos := "ref.go:76", after := #[⟨2, .data⟩], guard := none }) (v := ?vv4) ?hy4 ?rest4
  case hy4 => (refine Or.inl ⟨by rfl, ?_⟩; intro W hSw; (try dsimp only at hSw); go_simp; (try with_reducible rfl))
  try simp only [Act.put, pzz]
  refine tkH (i := 4) (oi := { dst := some 40, op := .call { callee := .builtin .len, args := #[.tmp 39], argTypes := #[29] }, type := 3, pos := "ref.go:76", after := #[⟨3, .data⟩], guard := none }) (v := ?vv5) ?hy5 ?rest5
  case hy5 => (refine Or.inl ⟨by rfl, ?_⟩; intro W hSw; (try dsimp only at hSw); go_simp; (try with_reducible rfl))
  try simp only [Act.put, pzz]
  refine tkH (i := 5) (oi := { dst := some 41, op := .move (.tmp 0), type := 28, pos := "ref.go:76", after := #[], guard := none }) (v := ?vv6) ?hy6 ?rest6
  case hy6 => (refine Or.inl ⟨by rfl, ?_⟩; intro W hSw; (try dsimp only at hSw); go_simp; (try with_reducible rfl))
  try simp only [Act.put, pzz]
  refine tkH (i := 6) (oi := { dst := some 42, op := .nilCheck (.tmp 41), type := 0, pos := "ref.go:76", after := #[⟨5, .data⟩], guard := none }) (v := ?vv7) ?hy7 ?rest7
  case hy7 => (refine Or.inl ⟨by rfl, ?_⟩; intro W hSw; (try dsimp only at hSw); go_simp; (try with_reducible rfl))
  try simp only [Act.put, pzz]
  refine tkH (i := 7) (oi := { dst := some 43, op := .fieldAddr 32 (.tmp 42) 0, type := 0, pos := "ref.go:76", after := #[⟨6, .data⟩], guard := none }) (v := ?vv8) ?hy8 ?rest8
  case hy8 => (refine Or.inl ⟨by rfl, ?_⟩; intro W hSw; (try dsimp only at hSw); go_simp; (try with_reducible rfl))
  try simp only [Act.put, pzz]
  refine tkH (i := 8) (oi := { dst := some 44, op := .load 3 (.tmp 43), type := 3, pos := "ref.go:76", after := #[⟨7, .data⟩], guard := none }) (v := ?vv9) ?hy9 ?rest9
  case hy9 => (refine Or.inl ⟨by rfl, ?_⟩; intro W hSw; (try dsimp only at hSw); go_simp; (try with_reducible rfl))
  try simp only [Act.put, pzz]
  refine tkH (i := 9) (oi := { dst := some 45, op := .binOp .geq 3 (.tmp 40) (.tmp 44) 3, type := 4, pos := "ref.go:76", after := #[⟨4, .data⟩, ⟨8, .data⟩], guard := none }) (v := (.bool true)) ?hy10 ?rest10
  case hy10 => ((refine Or.inl ⟨by rfl, ?_⟩; intro W hSw; (try dsimp only at hSw); go_simp; (try exact hm); (try exact decide_eq_true hm)))
  try simp only [Act.put, pzz]
  refine wpAnyH_done (by kernel_rfl) ?_ _
  clear hHeld
  dsimp only [onlyN]
  have HB2 := Lib.hid (below_drew HB0.out.1)
  go_wp2_with fail
  go_ret
  exact ⟨rfl, HB2.out⟩
set_option maxRecDepth 100000 in
set_option maxHeartbeats 4000000 in
theorem rntwice_ok {L : List RP} (h : RNt w r v most L ct) (hl : L.length ≤ 1900) {j : Nat} {k : Int} {x : RP} (hj : L[j]? = some x) (hm : ¬ most ≤ (L.length : Int)) :
    Calls Tryz.prog 51 #[.pointer (some ⟨r, 0, none⟩), .int .i64 1, .int .i64 j, .int .i64 k] w fun e w' => e = .returned (.int .i64 0) ∧ RPost w r most (L ++ [{ x with waits := 0 }]) ct w' := by
  obtain ⟨y, hy⟩ : ∃ y : RP, y = { x with waits := 0 } := ⟨_, rfl⟩
  rw [← hy]
  have hya : y.a = #[.slice x.A x.bs.length x.cap, .int .i64 x.site, .int .i64 0] := by rw [hy]; rfl
  have hjl := (List.getElem?_eq_some_iff.1 hj).1
  have hb0 := below_new (w := w) (.cells x.a 102)
  obtain ⟨W0, hW0⟩ : ∃ W, W = w.alloc (.cells x.a 102) := ⟨_, rfl⟩
  have hat0 : W0.heap[w.heap.size]? = some (.cells x.a 102 (0, 0)) := by rw [hW0]; exact alloc_at _ _
  rw [← hW0] at hb0
  obtain ⟨g, cp, rfl, e0, e1, e2⟩ := rp_cells h.row hj
  have kr : w.cell? ⟨r, 1, none⟩ = some (.slice (some ⟨g, 0, none⟩) L.length cp) := cell_of h.head 1
  have hr0 := heap_lt h.head
  have HW0 := Lib.hid hW0
  have HB0 := Lib.hid (And.intro hb0 hat0)
  have HH := Lib.hid (And.intro (h.below hb0) (And.intro hj (And.intro hjl hl)))
  have HC : Hid (∀ W, Below w.heap.size w W → W.cell? ⟨r, 0, none⟩ = some (.int .i64 most) ∧ W.cell? ⟨r, 1, none⟩ = some (.slice (some ⟨g, 0, none⟩) L.length cp)) := Lib.hid (fun W hW => ⟨cell_of (h.below hW).head 0, cell_of (h.below hW).head 1⟩)
  have HR0 := Lib.hid hr0
  have q1 : decide ((j : Int) < 0) = false := decide_eq_false (by omega)
  have q2 : decide ((j : Int) ≥ (L.length : Int)) = false := decide_eq_false (by omega)
  have q3 : (j : Int) < (L.length : Int) := by omega
  unfold RP.v at e0
  have hT1 : Touch (fun q => q = w.heap.size) W0 (W0.setCell ⟨w.heap.size, 2, none⟩ (.int .i64 0)) := (Touch.refl (fun q => q = w.heap.size) W0).setCell ⟨w.heap.size, 2, none⟩ (fun _ => rfl) _
  have hb1 : Below w.heap.size w (W0.setCell ⟨w.heap.size, 2, none⟩ (.int .i64 0)) := hb0.trans (hT1.below (fun i e => by rw [e]; exact Nat.le_refl _) hb0.size)
  have hat1 := set_at hat0 2 (.int .i64 0)
  have hput := fun W (hW : Below w.heap.size w W) => rnput_at (h.below hW) (by omega) (Nat.le_refl _) y
  rw [ins_end, show (#[.slice y.A y.bs.length y.cap, .int .i64 y.site, .int .i64 y.waits] : Array Value) = y.a from rfl, hya] at hput
  have HPU := Lib.hid hput
  have HS1 : Hid (∀ W, Below (W0.setCell ⟨w.heap.size, 2, none⟩ (.int .i64 0)).heap.size (W0.setCell ⟨w.heap.size, 2, none⟩ (.int .i64 0)) W → W.cell? ⟨r, 1, none⟩ = some (.slice (some ⟨g, 0, none⟩) L.length cp) ∧ W.cell? ⟨w.heap.size, 0, none⟩ = some (.slice x.A x.bs.length x.cap) ∧ W.cell? ⟨w.heap.size, 1, none⟩ = some (.int .i64 x.site) ∧ W.cell? ⟨w.heap.size, 2, none⟩ = some (.int .i64 0)) := Lib.hid (fun W hW => by
    have e := (hW.block _ (heap_lt hat1)).trans hat1
    exact ⟨cell_of (h.below (hb1.trans (hW.mono hb1.size))).head 1, cell_of e 0, cell_of e 1, cell_of e 2⟩)
  have HB1 := Lib.hid hb1
  have hf := free0 hat0 2
  have hc2 : W0.cell? ⟨w.heap.size, 2, none⟩ = some (.int .i64 x.waits) := cell_of hat0 2
  clear h hb0 hat0 hW0 hr0 hjl hb1 hat1 hput hya hy hl hT1
  go_enter Tryz.func51, Tryz.ntmps51
  go_upto_region 4 with fail
  change Code.wp _ _ _ _ (World.alloc w (.cells x.a 102))
  rw [← HW0.out]
  clear e0 e1 e2 kr
  go_upto_region 8 with fail
  refine wp_only ?_
  refine wp_region_held_drew (S := fun W => W.cell? ⟨r, 0, none⟩ = some (.int .i64 most) ∧ W.cell? ⟨r, 1, none⟩ = some (.slice (some ⟨g, 0, none⟩) L.length cp)) (by kernel_rfl) (HC.out _ (below_drew HB0.out.1)) (fun hHeld => ?_)
  refine tkH (i := 0) (oi := { dst := some 36, op := .move (.tmp 0), type := 28, pos := "ref.go:76", after := #[], guard := none }) (v := ?vv11) ?hy11 ?rest11
  case hy11 => (refine Or.inl ⟨by rfl, ?_⟩; intro W hSw; (try dsimp only at hSw); go_simp; (try with_reducible rfl))
  try simp only [Act.put, pzz]
  refine tkH (i := 1) (oi := { dst := some 37, op := .nilCheck (.tmp 36), type := 0, pos := "ref.go:76", after := #[⟨0, .data⟩], guard := none }) (v := ?vv12) ?hy12 ?rest12
  case hy12 => (refine Or.inl ⟨by rfl, ?_⟩; intro W hSw; (try dsimp only at hSw); go_simp; (try with_reducible rfl))
  try simp only [Act.put, pzz]
  refine tkH (i := 2) (oi := { dst := some 38, op := .fieldAddr 32 (.tmp 37) 1, type := 0, pos := "ref.go:76", after := #[⟨1, .data⟩], guard := none }) (v := ?vv13) ?hy13 ?rest13
  case hy13 => (refine Or.inl ⟨by rfl, ?_⟩; intro W hSw; (try dsimp only at hSw); go_simp; (try with_reducible rfl))
  try simp only [Act.put, pzz]
  refine tkH (i := 3) (oi := { dst := some 39, op := .load 29 (.tmp 38), type := 29, pos := "ref.go:76", after := #[⟨2, .data⟩], guard := none }) (v := ?vv14) ?hy14 ?rest14
  case hy14 => (refine Or.inl ⟨by rfl, ?_⟩; intro W hSw; (try dsimp only at hSw); go_simp; (try with_reducible rfl))
  try simp only [Act.put, pzz]
  refine tkH (i := 4) (oi := { dst := some 40, op := .call { callee := .builtin .len, args := #[.tmp 39], argTypes := #[29] }, type := 3, pos := "ref.go:76", after := #[⟨3, .data⟩], guard := none }) (v := ?vv15) ?hy15 ?rest15
  case hy15 => (refine Or.inl ⟨by rfl, ?_⟩; intro W hSw; (try dsimp only at hSw); go_simp; (try with_reducible rfl))
  try simp only [Act.put, pzz]
  refine tkH (i := 5) (oi := { dst := some 41, op := .move (.tmp 0), type := 28, pos := "ref.go:76", after := #[], guard := none }) (v := ?vv16) ?hy16 ?rest16
  case hy16 => (refine Or.inl ⟨by rfl, ?_⟩; intro W hSw; (try dsimp only at hSw); go_simp; (try with_reducible rfl))
  try simp only [Act.put, pzz]
  refine tkH (i := 6) (oi := { dst := some 42, op := .nilCheck (.tmp 41), type := 0, pos := "ref.go:76", after := #[⟨5, .data⟩], guard := none }) (v := ?vv17) ?hy17 ?rest17
  case hy17 => (refine Or.inl ⟨by rfl, ?_⟩; intro W hSw; (try dsimp only at hSw); go_simp; (try with_reducible rfl))
  try simp only [Act.put, pzz]
  refine tkH (i := 7) (oi := { dst := some 43, op := .fieldAddr 32 (.tmp 42) 0, type := 0, pos := "ref.go:76", after := #[⟨6, .data⟩], guard := none }) (v := ?vv18) ?hy18 ?rest18
  case hy18 => (refine Or.inl ⟨by rfl, ?_⟩; intro W hSw; (try dsimp only at hSw); go_simp; (try with_reducible rfl))
  try simp only [Act.put, pzz]
  refine tkH (i := 8) (oi := { dst := some 44, op := .load 3 (.tmp 43), type := 3, pos := "ref.go:76", after := #[⟨7, .data⟩], guard := none }) (v := ?vv19) ?hy19 ?rest19
  case hy19 => (refine Or.inl ⟨by rfl, ?_⟩; intro W hSw; (try dsimp only at hSw); go_simp; (try with_reducible rfl))
  try simp only [Act.put, pzz]
  refine tkH (i := 9) (oi := { dst := some 45, op := .binOp .geq 3 (.tmp 40) (.tmp 44) 3, type := 4, pos := "ref.go:76", after := #[⟨4, .data⟩, ⟨8, .data⟩], guard := none }) (v := (.bool false)) ?hy20 ?rest20
  case hy20 => ((refine Or.inl ⟨by rfl, ?_⟩; intro W hSw; (try dsimp only at hSw); go_simp; (try exact hm); (try exact decide_eq_false hm); (try omega)))
  try simp only [Act.put, pzz]
  refine wpAnyH_done (by kernel_rfl) ?_ _
  clear hHeld
  dsimp only [onlyN]
  go_upto_region 11 with fail
  change Code.wp _ _ _ _ (World.drew (W0.setCell ⟨w.heap.size, 2, none⟩ (.int .i64 0)))
  generalize W0.setCell ⟨w.heap.size, 2, none⟩ (.int .i64 0) = W1 at *
  clear hf hc2
  refine wp_only ?_
  obtain ⟨p1, p2, p3, p4⟩ := HS1.out _ (below_drew (below_drew (Below.refl _ _)))
  refine wp_region_held_drew (S := fun _ => True) (by kernel_rfl) trivial (fun hHeld => ?_)
  refine tkH (i := 0) (oi := { dst := some 47, op := .move (.tmp 0), type := 28, pos := "ref.go:80", after := #[], guard := none }) (v := ?vv21) ?hy21 ?rest21
  case hy21 => (refine Or.inl ⟨by rfl, ?_⟩; intro W hSw; (try dsimp only at hSw); go_simp; (try with_reducible rfl))
  try simp only [Act.put, pzz]
  refine tkH (i := 1) (oi := { dst := some 48, op := .move (.tmp 0), type := 28, pos := "ref.go:80", after := #[], guard := none }) (v := ?vv22) ?hy22 ?rest22
  case hy22 => (refine Or.inl ⟨by rfl, ?_⟩; intro W hSw; (try dsimp only at hSw); go_simp; (try with_reducible rfl))
  try simp only [Act.put, pzz]
  refine tkH (i := 2) (oi := { dst := some 49, op := .nilCheck (.tmp 48), type := 0, pos := "ref.go:80", after := #[⟨1, .data⟩], guard := none }) (v := ?vv23) ?hy23 ?rest23
  case hy23 => (refine Or.inl ⟨by rfl, ?_⟩; intro W hSw; (try dsimp only at hSw); go_simp; (try with_reducible rfl))
  try simp only [Act.put, pzz]
  refine tkH (i := 3) (oi := { dst := some 50, op := .fieldAddr 32 (.tmp 49) 1, type := 0, pos := "ref.go:80", after := #[⟨2, .data⟩], guard := none }) (v := ?vv24) ?hy24 ?rest24
  case hy24 => (refine Or.inl ⟨by rfl, ?_⟩; intro W hSw; (try dsimp only at hSw); go_simp; (try with_reducible rfl))
  try simp only [Act.put, pzz]
  refine wpAnyH_ready (rs := [4, 6]) (by kernel_rfl) (by simp) ?_
  refine AllReadyH.cons (o := { dst := some 51, op := .load 29 (.tmp 50), type := 29, pos := "ref.go:80", after := #[⟨3, .data⟩], guard := none }) rfl (fun K hK => ?step25) ?more25
  ((go_simp; go_wp2_with fail))
  refine hK.out _ _ ?hS25 (fun hHeld => ?rr25)
  case hS25 => (exact trivial)
  clear hK K
  try simp only [Act.put, pzz]
  · refine tkH (i := 5) (oi := { dst := some 52, op := .call { callee := .builtin .len, args := #[.tmp 51], argTypes := #[29] }, type := 3, pos := "ref.go:80", after := #[⟨4, .data⟩], guard := none }) (v := ?vv26) ?hy26 ?rest26
    case hy26 => (refine Or.inl ⟨by rfl, ?_⟩; intro W hSw; (try dsimp only at hSw); go_simp; (try with_reducible rfl))
    try simp only [Act.put, pzz]
    refine wpAnyH_ready (rs := [6]) (by kernel_rfl) (by simp) ?_
    refine AllReadyH.cons (o := { dst := some 53, op := .load 102 (.tmp 9), type := 102, pos := "ref.go:80", after := #[], guard := none }) rfl (fun K hK => ?step27) ?more27
    case more27 => exact AllReadyH.nil
    ((go_simp; go_wp2_with fail))
    refine hK.out _ _ ?hS27 (fun hHeld => ?rr27)
    case hS27 => (exact trivial)
    clear hK K
    try simp only [Act.put, pzz]
    refine wpAnyH_ready (rs := [7]) (by kernel_rfl) (by simp) ?_
    refine AllReadyH.cons (o := { dst := some 54, op := .call { callee := .value (.func 96), args := #[.tmp 47, .tmp 52, .tmp 53], argTypes := #[28, 3, 102] }, type := 0, pos := "ref.go:80", after := #[⟨0, .data⟩, ⟨5, .data⟩, ⟨6, .data⟩], guard := none }) rfl (fun K hK => ?step28) ?more28
    case more28 => exact AllReadyH.nil
    ((go_simp; go_at_call 96; refine (HPU.out _ (below_drew (below_drew HB1.out))).mono ?_; rintro e w3 ⟨rfl, hp⟩; have HP := Lib.hid (RPost.ahead (below_drew (below_drew HB1.out)) hp); clear hp; go_wp2_with fail))
    refine hK.out _ _ ?hS28 (fun hHeld => ?rr28)
    case hS28 => (exact trivial)
    clear hK K
    try simp only [Act.put, pzz]
    refine wpAnyH_done (by kernel_rfl) ?_ _
    clear hHeld
    dsimp only [onlyN]
    go_wp2_with fail
    go_ret
    exact ⟨rfl, HP.out⟩
  · refine AllReadyH.cons (o := { dst := some 53, op := .load 102 (.tmp 9), type := 102, pos := "ref.go:80", after := #[], guard := none }) rfl (fun K hK => ?step29) ?more29
    case more29 => exact AllReadyH.nil
    ((go_simp; go_wp2_with fail))
    refine hK.out _ _ ?hS29 (fun hHeld => ?rr29)
    case hS29 => (exact trivial)
    clear hK K
    try simp only [Act.put, pzz]
    refine wpAnyH_ready (rs := [4]) (by kernel_rfl) (by simp) ?_
    refine AllReadyH.cons (o := { dst := some 51, op := .load 29 (.tmp 50), type := 29, pos := "ref.go:80", after := #[⟨3, .data⟩], guard := none }) rfl (fun K hK => ?step30) ?more30
    case more30 => exact AllReadyH.nil
    ((go_simp; go_wp2_with fail))
    refine hK.out _ _ ?hS30 (fun hHeld => ?rr30)
    case hS30 => (exact trivial)
    clear hK K
    try simp only [Act.put, pzz]
    refine tkH (i := 5) (oi := { dst := some 52, op := .call { callee := .builtin .len, args := #[.tmp 51], argTypes := #[29] }, type := 3, pos := "ref.go:80", after := #[⟨4, .data⟩], guard := none }) (v := ?vv31) ?hy31 ?rest31
    case hy31 => (refine Or.inl ⟨by rfl, ?_⟩; intro W hSw; (try dsimp only at hSw); go_simp; (try with_reducible rfl))
    try simp only [Act.put, pzz]
    refine wpAnyH_ready (rs := [7]) (by kernel_rfl) (by simp) ?_
    refine AllReadyH.cons (o := { dst := some 54, op := .call { callee := .value (.func 96), args := #[.tmp 47, .tmp 52, .tmp 53], argTypes := #[28, 3, 102] }, type := 0, pos := "ref.go:80", after := #[⟨0, .data⟩, ⟨5, .data⟩, ⟨6, .data⟩], guard := none }) rfl (fun K hK => ?step32) ?more32
    case more32 => exact AllReadyH.nil
    ((go_simp; go_at_call 96; refine (HPU.out _ (below_drew (below_drew HB1.out))).mono ?_; rintro e w3 ⟨rfl, hp⟩; have HP := Lib.hid (RPost.ahead (below_drew (below_drew HB1.out)) hp); clear hp; go_wp2_with fail))
    refine hK.out _ _ ?hS32 (fun hHeld => ?rr32)
    case hS32 => (exact trivial)
    clear hK K
    try simp only [Act.put, pzz]
    refine wpAnyH_done (by kernel_rfl) ?_ _
    clear hHeld
    dsimp only [onlyN]
    go_wp2_with fail
    go_ret
    exact ⟨rfl, HP.out⟩
end
end Go.Proofs.YtmbonngjkgcijaaGreatDoor
