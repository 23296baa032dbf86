/- A message that was cut stays readable beside a net. The document's own net in memory: take. The document's own net in memory: Tick, Part. The document's own letters, Key, May, Check of operations. The document's own May and Check of operations. (genmehb.py wrote it.) -/
import Derived.Test.YtmbonngjkgcijaaGreatDoorZNetM
import Derived.Test.YtmbonngjkgcijaaGreatDoorZMefD
import Derived.Test.YtmbonngjkgcijaaGreatDoorZNetAA
import Derived.Test.YtmbonngjkgcijaaGreatDoorZMeaP
set_option linter.unusedSimpArgs false
set_option linter.unusedVariables false
set_option linter.unnecessarySimpa false
namespace Go.Proofs.YtmbonngjkgcijaaGreatDoor
open Go.RowKit Go.Shelf
theorem row_cell {w : World} {z gs n m c : Nat} {l : List Value} (h : RowIs w z (.slice (some ⟨gs, 0, none⟩) n c) m l) {j : Nat} {u : Value} (hj : l[j]? = some u) : w.cell? ⟨gs, j, none⟩ = some u := by
  obtain ⟨A, cp, e, _, _, _, _, h5⟩ := h.form
  obtain ⟨g, h1, h2⟩ := h5 j u hj
  cases e
  cases h1
  exact h2
theorem nmsg_cut {m : MsgV} (h : MsgIn m) : MsgIn (cutM m) := by
  refine ⟨fun x hx => h.told x (List.mem_of_mem_take hx), fun o ho => ?_⟩
  obtain ⟨x, hx, rfl⟩ := List.mem_map.1 ho
  have := h.ops x (List.mem_of_mem_take hx)
  have e : (cutK x).k = x.k ∧ (cutK x).n = x.n ∧ (cutK x).lo = x.lo := by unfold cutK; split <;> exact ⟨rfl, rfl, rfl⟩
  exact ⟨by rw [e.1]; exact this.k, by rw [e.2.1]; exact this.n, by rw [e.2.2]; exact this.lo⟩
/-- A message that was cut stays readable while the net, and the row of what was sent, change. -/
theorem cut_stays {w0 W2 w3 W6 : World} {m : MsgV} {tA oB : Option Addr} {tc od : Nat} {F : Nat → Prop} {sv : Value} (hn : NumsAt w0 (.slice tA (cutM m).tl.length tc) (cutM m).tl) (hro : RowN w3 W2.heap.size 4 (.slice oB (cutM m).os.length od) (cutM m).os.length (opC (cutM m).os))
    (h02 : Below w0.heap.size w0 W6) (h36 : ∀ k, W2.heap.size ≤ k → k < w3.heap.size → W6.heap[k]? = w3.heap[k]?) (hs36 : w3.heap.size ≤ W6.heap.size) (hF : ∀ k, W2.heap.size ≤ k → k < w3.heap.size → F k) (hsv : ∀ k, sv.ownBlock = some k → w0.heap.size ≤ k ∧ k < W2.heap.size) :
    ∀ W', Touch (OrdT w0 F sv) W6 W' → MsgIs W' (.agg (cellM (cutM m) tA tc oB od)) (cutM m) := fun W' hW => by
  have hb : Below w0.heap.size w0 W' := h02.trans (hW.below (fun i e => by
    rcases e with e | e
    · exact e.1
    · exact (hsv i e).1) h02.size)
  have hlt : ∀ k, (Value.slice oB (cutM m).os.length od).ownBlock = some k → k < w3.heap.size := fun k hk => by
    rcases hro.1 with ⟨e, _⟩ | ⟨g, cap, e, _, _, hr⟩
    · rw [e] at hk; cases hk
    · rw [e] at hk; cases hk; exact hr.lt
  have h37 : ∀ k, W2.heap.size ≤ k → k < w3.heap.size → W'.heap[k]? = w3.heap[k]? := fun k h1 h2 => (hW.block k (Nat.lt_of_lt_of_le h2 hs36) (fun e => by
    rcases e with e | e
    · exact e.2 (hF k h1 h2)
    · have := (hsv k e).2; omega)).trans (h36 k h1 h2)
  refine ⟨tA, tc, oB, od, rfl, hn.below hb, RowIs.ops (w := W') ?_ rfl, nkeys_cut m⟩
  rcases hro.1 with ⟨e, h1, h2⟩ | ⟨g, cap, e, h1, h2, hr⟩
  · exact .inl ⟨e, h1, h2⟩
  · have hg := hro.2.1 g (by rw [e]; rfl)
    exact .inr ⟨g, cap, e, h1, h2, hr.keep (Nat.le_trans hs36 hW.size) (h37 g hg.1 hr.lt)⟩
end Go.Proofs.YtmbonngjkgcijaaGreatDoor

namespace Go.Proofs.YtmbonngjkgcijaaGreatDoor
open Go.RowKit Go.Shelf
section
variable {w : World} {r : Nat} {v : Value} {most : Int} {ct : Nat → Bool}
theorem RPost.touch {w' w2 : World} {L : List RP} {r : Nat} (h : ∃ v', RNt w' r v' most L ct ∧ Touch (fun k => k = r) w w' ∧ ∀ k, v'.ownBlock = some k → w.heap.size + 2 ≤ k) (hr : r < w.heap.size) (ht : Touch (fun k => k = w.heap.size) w' w2) : RPost w r most L ct w2 := by
  obtain ⟨v', h1, h2, h3⟩ := h
  exact ⟨v', h1.touch ht (by omega) (fun g e q => by have := h3 g e; omega), h2.trans ht (fun k hk e => by omega), fun k e => by have := h3 k e; omega⟩
abbrev zeroRP : Array Value := #[.slice none 0 0, .int .i64 0, .int .i64 0]
set_option maxRecDepth 100000 in
set_option maxHeartbeats 4000000 in
theorem rntake_any {A B : List RP} {x : RP} (h : RNt w r v most (A ++ x :: B) ct) (hl : (A ++ x :: B).length ≤ 2000) :
    Calls Tryz.prog 98 #[.pointer (some ⟨r, 0, none⟩), .int .i64 A.length] w fun e w' => e = .returned (.agg x.a) ∧ RPost w r most (A ++ B) ct w' := by
  have hr0 := heap_lt h.head
  have hb1 := below_new (w := w) (.cells zeroRP 102)
  have hat1 := alloc_at w (.cells zeroRP 102)
  obtain ⟨W1, hW1⟩ : ∃ W, W = w.alloc (.cells zeroRP 102) := ⟨_, rfl⟩
  have hs1 : W1.heap.size = w.heap.size + 1 := by rw [hW1, asz]
  rw [← hW1] at hb1 hat1
  have hb2 := below_new (w := W1) (.cells x.a 102)
  have hat2 := alloc_at W1 (.cells x.a 102)
  obtain ⟨W2, hW2⟩ : ∃ W, W = W1.alloc (.cells x.a 102) := ⟨_, rfl⟩
  have hs2 : W2.heap.size = w.heap.size + 2 := by rw [hW2, asz, hs1]
  rw [← hW2] at hb2 hat2
  have hb02 : Below w.heap.size w W2 := hb1.trans (hb2.mono hb1.size)
  obtain ⟨n, hn⟩ : ∃ n, (A ++ x :: B).length = n := ⟨_, rfl⟩
  obtain ⟨g, cp, rfl, h1, h2⟩ : ∃ g cp, v = .slice (some ⟨g, 0, none⟩) (A ++ x :: B).length cp ∧ (A ++ x :: B).length ≤ cp ∧ cp ≤ maxLen := by
    obtain ⟨vA, cp, e, h1, h2, _, _, h5⟩ := RowIs.form h.row
    have hx : (A ++ x :: B)[A.length]? = some x := by simp
    obtain ⟨g, hg, _⟩ := h5 (A.length * 3 + 0) _ ((rpC_get hx (by decide)).trans rfl)
    exact ⟨g, cp, by rw [e, hg], h1, h2⟩
  unfold maxLen at h2
  have hrow := h.row
  have hx : (A ++ x :: B)[A.length]? = some x := by simp
  have hcell : ∀ (i : Nat) (u : Value), i < 3 → x.c[i]? = some u → w.cell? ⟨g, A.length * 3 + i, none⟩ = some u := fun i u hi hu => row_cell hrow ((rpC_get hx hi).trans hu)
  have e0 : w.cell? ⟨g, A.length * 3, none⟩ = some x.v := hcell 0 _ (by decide) rfl
  have e1 : w.cell? ⟨g, A.length * 3 + 1, none⟩ = some (.int .i64 x.site) := hcell 1 _ (by decide) rfl
  have e2 : w.cell? ⟨g, A.length * 3 + 2, none⟩ = some (.int .i64 x.waits) := hcell 2 _ (by decide) rfl
  have hgw : g < w.heap.size := by
    rcases hrow with ⟨e, _⟩ | ⟨g', cp', e, _, _, hr⟩
    · cases e
    · cases e; exact hr.lt
  have k0 : W1.cell? ⟨g, A.length * 3, none⟩ = some x.v := (hb1.cell (p := ⟨g, A.length * 3, none⟩) hgw).trans e0
  have k1 : W1.cell? ⟨g, A.length * 3 + 1, none⟩ = some (.int .i64 x.site) := (hb1.cell (p := ⟨g, A.length * 3 + 1, none⟩) hgw).trans e1
  have k2 : W1.cell? ⟨g, A.length * 3 + 2, none⟩ = some (.int .i64 x.waits) := (hb1.cell (p := ⟨g, A.length * 3 + 2, none⟩) hgw).trans e2
  unfold RP.v at k0
  have hsA := fun W (hW : Below w.heap.size w W) => rp_front (A := A) (M := x :: B) (hrow.below hW) cp
  have hsB := fun W (hW : Below w.heap.size w W) => rp_end (A := A ++ [x]) (M := B) (w := W) (g := g) (n := (A ++ x :: B).length) (cap := cp) (by simpa using hrow.below hW) (by simp) h1 (cp - (A ++ [x]).length)
  obtain ⟨A3, c3, w3, hr3, hn3⟩ := (NewRow.nil W2).app (M := A) (hsA W2 hb02) (by rw [List.length_append] at hl; simp; omega)
  rw [List.length_nil, Nat.zero_add] at hr3 hn3
  rw [List.nil_append] at hn3
  have hb03 : Below w.heap.size w w3 := hb02.trans (hn3.bel.mono hb02.size)
  obtain ⟨A4, c4, w4, hr4, hn4⟩ := hn3.app (M := B) (hsB w3 hb03) (by rw [List.length_append, List.length_cons] at hl; omega)
  have hb04 : Below w.heap.size w w4 := hb02.trans (hn4.bel.mono hb02.size)
  have hst := (h.below hb02).store hn4
  have HF : Hid (∃ v', RNt (w4.setCell ⟨r, 1, none⟩ (.slice A4 (A.length + B.length) c4)) r v' most (A ++ B) ct ∧ Touch (fun k => k = r) w (w4.setCell ⟨r, 1, none⟩ (.slice A4 (A.length + B.length) c4)) ∧ ∀ k, v'.ownBlock = some k → w.heap.size + 2 ≤ k) := Lib.hid ⟨_, hst.1, (Touch.of_below hb02).trans hst.2 (fun _ _ e => e), fun k e => by have := hn4.new k e; omega⟩
  have kr1 : W1.cell? ⟨r, 1, none⟩ = some (.slice (some ⟨g, 0, none⟩) (A ++ x :: B).length cp) := cell_of ((hb1.block r hr0).trans h.head) 1
  have kr2 : W2.cell? ⟨r, 1, none⟩ = some (.slice (some ⟨g, 0, none⟩) (A ++ x :: B).length cp) := cell_of ((hb02.block r hr0).trans h.head) 1
  have kr3 : w3.cell? ⟨r, 1, none⟩ = some (.slice (some ⟨g, 0, none⟩) (A ++ x :: B).length cp) := cell_of ((hb03.block r hr0).trans h.head) 1
  have kr4 : w4.cell? ⟨r, 1, none⟩ = some (.slice (some ⟨g, 0, none⟩) (A ++ x :: B).length cp) := cell_of ((hb04.block r hr0).trans h.head) 1
  have fr4 := free0 ((hb04.block r hr0).trans h.head) 1
  -- the two blocks behind all
  obtain ⟨W5, hW5⟩ : ∃ W, W = w4.setCell ⟨r, 1, none⟩ (.slice A4 (A.length + B.length) c4) := ⟨_, rfl⟩
  rw [← hW5] at HF
  have hT5 : Touch (fun k => k = r) w4 W5 := by rw [hW5]; exact Touch.setCell (S := fun k => k = r) (Touch.refl _ w4) ⟨r, 1, none⟩ (fun _ => rfl) _
  have ha1 : W5.heap[w.heap.size]? = some (.cells zeroRP 102 (0, 0)) := ((hT5.block _ (by have := hn4.bel.size; omega) (by omega)).trans ((hn4.bel.block _ (by omega)).trans (hb2.block _ (heap_lt hat1)))).trans hat1
  have ha2 : W5.heap[W1.heap.size]? = some (.cells x.a 102 (0, 0)) := ((hT5.block _ (by have := hn4.bel.size; omega) (by omega)).trans (hn4.bel.block _ (by omega))).trans hat2
  have HA5 := Lib.hid (And.intro ha1 ha2)
  have hZ := setCells_at w.heap.size x.a.toList [] zeroRP.toList W5 rfl ha1
  have hTZ := setCells_touch (S := fun k => k = w.heap.size) (a := W5) w.heap.size (fun _ => rfl) x.a.toList 0 W5 (Touch.refl _ _)
  simp only [List.length_nil, List.nil_append] at hZ
  have HZ := Lib.hid (And.intro hZ (RPost.touch HF.out hr0 hTZ))
  obtain ⟨na, hna⟩ : ∃ n, A.length = n := ⟨_, rfl⟩
  obtain ⟨nb, hnb⟩ : ∃ n, B.length = n := ⟨_, rfl⟩
  have hnn : n = na + nb + 1 := by rw [← hn, List.length_append, List.length_cons, hna, hnb]; omega
  have hx1 : (A ++ [x]).length = na + 1 := by rw [List.length_append, hna]; rfl
  rw [hx1, hnb, hna] at hr4
  rw [hna] at hr3 k0 k1 k2 ⊢
  rw [hna, hnb] at hW5
  rw [hn] at kr1 kr2 kr3 kr4 h1
  have HR3 := Lib.hid hr3
  have HR4 := Lib.hid hr4
  have HW1 := Lib.hid hW1
  have HW2 := Lib.hid hW2
  have HW5 := Lib.hid hW5
  have q1 : na ≤ n := by omega
  have q2 : na + 1 ≤ n := by omega
  have q3 : n - (na + 1) = nb := by omega
  have q4 : na < n := by omega
  have q4I : (na : Int) < (n : Int) := by omega
  have hn2000 : n ≤ 2000 := by rw [← hn]; exact hl
  have q5 : IntKind.i64.wrap ((na : Int) + 1) = (na : Int) + 1 := IntWalk.i64_in _ (by omega)
  have HS1 := Lib.hid hs1
  clear hr3 hr4 hn3 hn4 hst hb1 hb2 hb02 hb03 hb04 hat1 hat2 hW1 hW2 hW5 hsA hsB h hl hn hnb hnn hx1 hna hr0 hs1 hs2 hT5 ha1 ha2 hZ hTZ hrow hx hcell e0 e1 e2 hgw HF
  go_enter Tryz.func98, Tryz.ntmps98
  go_upto_region 1 with fail
  change Code.wp _ _ _ _ (World.alloc w (.cells zeroRP 102))
  rw [← HW1.out]
  go_upto_region 2 with fail
  change Code.wp _ _ _ _ (World.alloc W1 (.cells x.a 102))
  rw [← HW2.out]
  by_cases hcp : cp = na + 1
  · subst hcp
    rw [if_pos rfl] at HR4
    go_upto_region 5 with (at_builtin; first | (refine wpList_app_run rfl _ _ _ _ rfl rfl rfl HR3.out ?_) | (refine wpList_app_run rfl _ _ _ _ rfl rfl rfl HR4.out ?_))
    rw [← HW5.out]
    have z0 : W5.cell? ⟨w.heap.size, 0, none⟩ = some (.slice none 0 0) := cell_of HA5.out.1 0
    have z1 : W5.cell? ⟨w.heap.size, 1, none⟩ = some (.int .i64 0) := cell_of HA5.out.1 1
    have z2 : W5.cell? ⟨w.heap.size, 2, none⟩ = some (.int .i64 0) := cell_of HA5.out.1 2
    have y0 := free0 HA5.out.1 0; have y1 := free0 HA5.out.1 1; have y2 := free0 HA5.out.1 2
    have m0 : W5.cell? ⟨W1.heap.size, 0, none⟩ = some x.v := cell_of HA5.out.2 0
    have m1 : W5.cell? ⟨W1.heap.size, 1, none⟩ = some (.int .i64 x.site) := cell_of HA5.out.2 1
    have m2 : W5.cell? ⟨W1.heap.size, 2, none⟩ = some (.int .i64 x.waits) := cell_of HA5.out.2 2
    unfold RP.v at m0
    have hz := HZ.out
    clear HR3 HR4
    go_wp2_with fail
    change bodyPost _ _ _ _ _ (World.setCells W5 w.heap.size 0 x.a.toList)
    clear z0 z1 z2 y0 y1 y2 m0 m1 m2
    generalize World.setCells W5 w.heap.size 0 x.a.toList = W6 at *
    have j0 : W6.cell? ⟨w.heap.size, 0, none⟩ = some x.v := cell_of hz.1 0
    have j1 : W6.cell? ⟨w.heap.size, 1, none⟩ = some (.int .i64 x.site) := cell_of hz.1 1
    have j2 : W6.cell? ⟨w.heap.size, 2, none⟩ = some (.int .i64 x.waits) := cell_of hz.1 2
    exact bodyPost_ret (v := .agg x.a) (by simp [results, Tryz.results98, go_sem, j0, j1, j2, RP.a]) rfl ⟨rfl, hz.2⟩
  · rw [if_neg hcp] at HR4
    have hcpP : (cp = na + 1) = False := eq_false hcp
    clear hcp
    go_upto_region 5 with (at_builtin; first | (refine wpList_app_run rfl _ _ _ _ rfl rfl rfl HR3.out ?_) | (refine wpList_app_run rfl _ _ _ _ rfl rfl rfl HR4.out ?_))
    rw [← HW5.out]
    have z0 : W5.cell? ⟨w.heap.size, 0, none⟩ = some (.slice none 0 0) := cell_of HA5.out.1 0
    have z1 : W5.cell? ⟨w.heap.size, 1, none⟩ = some (.int .i64 0) := cell_of HA5.out.1 1
    have z2 : W5.cell? ⟨w.heap.size, 2, none⟩ = some (.int .i64 0) := cell_of HA5.out.1 2
    have y0 := free0 HA5.out.1 0; have y1 := free0 HA5.out.1 1; have y2 := free0 HA5.out.1 2
    have m0 : W5.cell? ⟨W1.heap.size, 0, none⟩ = some x.v := cell_of HA5.out.2 0
    have m1 : W5.cell? ⟨W1.heap.size, 1, none⟩ = some (.int .i64 x.site) := cell_of HA5.out.2 1
    have m2 : W5.cell? ⟨W1.heap.size, 2, none⟩ = some (.int .i64 x.waits) := cell_of HA5.out.2 2
    unfold RP.v at m0
    have hz := HZ.out
    clear HR3 HR4
    go_wp2_with fail
    change bodyPost _ _ _ _ _ (World.setCells W5 w.heap.size 0 x.a.toList)
    clear z0 z1 z2 y0 y1 y2 m0 m1 m2
    generalize World.setCells W5 w.heap.size 0 x.a.toList = W6 at *
    have j0 : W6.cell? ⟨w.heap.size, 0, none⟩ = some x.v := cell_of hz.1 0
    have j1 : W6.cell? ⟨w.heap.size, 1, none⟩ = some (.int .i64 x.site) := cell_of hz.1 1
    have j2 : W6.cell? ⟨w.heap.size, 2, none⟩ = some (.int .i64 x.waits) := cell_of hz.1 2
    exact bodyPost_ret (v := .agg x.a) (by simp [results, Tryz.results98, go_sem, j0, j1, j2, RP.a]) rfl ⟨rfl, hz.2⟩
end
end Go.Proofs.YtmbonngjkgcijaaGreatDoor

namespace Go.Proofs.YtmbonngjkgcijaaGreatDoor
open Go.RowKit Go.Shelf
def RP.tick (x : RP) : RP := { x with waits := max (x.waits - 1) 0 }
section
variable {w : World} {r : Nat} {v : Value} {most : Int} {ct : Nat → Bool}
theorem rp_cells {w : World} {v : Value} {L : List RP} {n : Nat} (h : RowIs w 3 v n (rpC L)) {j : Nat} {x : RP} (hj : L[j]? = some x) : ∃ g cap, v = .slice (some ⟨g, 0, none⟩) n cap ∧ w.cell? ⟨g, j * 3, none⟩ = some x.v ∧ w.cell? ⟨g, j * 3 + 1, none⟩ = some (.int .i64 x.site) ∧ w.cell? ⟨g, j * 3 + 2, none⟩ = some (.int .i64 x.waits) := by
  obtain ⟨A, cp, e, _, _, _, _, h5⟩ := RowIs.form h
  obtain ⟨g, hg, h0⟩ := h5 (j * 3 + 0) _ ((rpC_get hj (by decide)).trans rfl)
  obtain ⟨g', hg', h1⟩ := h5 (j * 3 + 1) _ ((rpC_get hj (by decide)).trans rfl)
  obtain ⟨g'', hg'', h2⟩ := h5 (j * 3 + 2) _ ((rpC_get hj (by decide)).trans rfl)
  rw [hg] at hg' hg''
  cases hg'
  cases hg''
  exact ⟨g, cp, by rw [e, hg], h0, h1, h2⟩
set_option maxRecDepth 100000 in
set_option maxHeartbeats 4000000 in
theorem rntick_any {L : List RP} (h : RNt w r v most L ct) (hl : L.length ≤ 2000) (hw : ∀ x ∈ L, 0 ≤ x.waits ∧ x.waits ≤ 1000) :
    Calls Tryz.prog 53 #[.pointer (some ⟨r, 0, none⟩)] w fun e w' => e = .returned (.tuple #[]) ∧ RPost w r most (L.map RP.tick) ct w' := by
  have hr0 := heap_lt h.head
  have HH := Lib.hid h
  have HWA := Lib.hid hw
  obtain ⟨vA, cp, hv, h1, h2, _⟩ := id (RowIs.form h.row)
  unfold maxLen at h2
  obtain ⟨n, hn⟩ : ∃ n, L.length = n := ⟨_, rfl⟩
  have HN := Lib.hid hn
  have kr : w.cell? ⟨r, 1, none⟩ = some v := cell_of h.head 1
  rw [hn] at hv h1 hl
  rw [hv] at kr
  have HV := Lib.hid hv
  have hnI : (n : Int) ≤ 2000 := by omega
  clear h hw hn hv
  go_enter Tryz.func53, Tryz.ntmps53
  go_wp2_with fail
  go_loopw [2, 10] (fun lv iv wr => ∃ i : Nat, i ≤ n ∧ iv = .int .i64 i ∧ NewRow w wr lv ((L.take i).map RP.tick)) (fun _ iv _ => n - (intOf iv).toNat)
  case atStart => exact ⟨0, Nat.zero_le _, rfl, NewRow.nil w⟩
  case round =>
    obtain ⟨i, hi, rfl, hnr⟩ := hrel
    by_cases hlt : i < n
    · obtain ⟨x, hx⟩ : ∃ x, L[i]? = some x := ⟨_, List.getElem?_eq_getElem (by rw [HN.out]; exact hlt)⟩
      have hww := HWA.out x (List.mem_of_getElem? hx)
      obtain ⟨g, cp', e, c0, c1, c2⟩ := rp_cells (HH.out.row.below hnr.bel) hx
      rw [HV.out, HN.out] at e
      injection e with e1 _ e3
      subst e1 e3
      have hti : (L.take (i + 1)).map RP.tick = (L.take i).map RP.tick ++ [x.tick] := by rw [List.take_add_one, hx]; simp
      have hll : ((L.take i).map RP.tick).length = i := by rw [List.length_map, List.length_take, HN.out]; omega
      -- the copy behind its change
      have hb1 := below_new (w := wr) (.cells x.tick.a 102)
      have hb2 := below_new (w := wr.alloc (.cells x.tick.a 102)) (.cells x.tick.a 102)
      have hat2 := alloc_at (wr.alloc (.cells x.tick.a 102)) (.cells x.tick.a 102)
      obtain ⟨A3, c3, w3, hr3, hn3⟩ := (hnr.below (hb1.trans (hb2.mono hb1.size))).app (M := [x.tick]) (rp_one hat2) (by rw [hll]; simp; omega)
      rw [← hti] at hn3
      rw [hll, asz] at hr3
      rw [hll] at hn3
      obtain ⟨lA, lc, hlv, _⟩ := id (RowIs.form hnr.row)
      rw [hll] at hlv
      subst hlv
      have HN3 := Lib.hid (And.intro hn3 hlt)
      have hr3' : (Builtin.append_ #[29, 29] 29 #[.slice lA i lc, .slice (some ⟨wr.heap.size + 1, 0, none⟩) 1 1]).run Tryz.prog ((wr.alloc (.cells #[.slice x.A x.bs.length x.cap, .int .i64 x.site, .int .i64 x.tick.waits] 102)).alloc (.cells #[.slice x.A x.bs.length x.cap, .int .i64 x.site, .int .i64 x.tick.waits] 102)) = .ok (.slice A3 (i + 1) c3) w3 := hr3
      have htk : x.tick.waits = max (x.waits - 1) 0 := rfl
      have hiI : (i : Int) < (n : Int) := by omega
      have hwk : IntKind.i64.wrap ((i : Int) + 1) = (i : Int) + 1 := IntWalk.i64_in _ (by omega)
      unfold RP.v at c0
      by_cases h0 : 0 < x.waits
      · rw [show x.tick.waits = x.waits - 1 from by rw [htk]; omega] at hr3'
        have hws : IntKind.i64.wrap (x.waits - 1) = x.waits - 1 := IntWalk.i64_in _ (by omega)
        have h0b : decide (0 < x.waits) = true := decide_eq_true h0
        have HR3 := Lib.hid hr3'
        clear hr3 hr3' hn3 hb1 hb2 hat2 hti hll hnr hlt hi hx hww htk h0
        go_wp2_with (at_builtin; refine wpList_app_run rfl _ _ _ _ rfl rfl rfl HR3.out ?_)
        go_roundw
        case rel => exact ⟨i + 1, HN3.out.2, by go_num, HN3.out.1⟩
        case measure => have := HN3.out.2; simp [intOf]; omega
      · rw [show x.tick.waits = x.waits from by rw [htk]; omega] at hr3'
        have h0b : decide (0 < x.waits) = false := decide_eq_false h0
        have HR3 := Lib.hid hr3'
        clear hr3 hr3' hn3 hb1 hb2 hat2 hti hll hnr hlt hi hx hww htk h0
        go_wp2_with (at_builtin; refine wpList_app_run rfl _ _ _ _ rfl rfl rfl HR3.out ?_)
        go_roundw
        case rel => exact ⟨i + 1, HN3.out.2, by go_num, HN3.out.1⟩
        case measure => have := HN3.out.2; simp [intOf]; omega
    · obtain rfl : i = n := by omega
      have htk : L.take i = L := List.take_of_length_le (by rw [HN.out]; exact Nat.le_refl _)
      rw [htk] at hnr
      have hst := HH.out.store hnr
      obtain ⟨lA, lc, hlv, _⟩ := id (RowIs.form hnr.row)
      rw [List.length_map, HN.out] at hlv
      subst hlv
      have HF : Hid (RPost w r most (L.map RP.tick) ct (wr.setCell ⟨r, 1, none⟩ (.slice lA i lc))) := Lib.hid ⟨_, hst.1, hst.2, fun k e => hnr.new k e⟩
      have hhd := (hnr.bel.block r hr0).trans HH.out.head
      have kw : wr.cell? ⟨r, 1, none⟩ = some (.slice vA i cp) := (cell_of hhd 1).trans (congrArg some HV.out)
      have fw := free0 hhd 1
      clear hst hnr htk hhd hi hlt
      go_wp2_with fail
      go_end0
      exact ⟨rfl, HF.out⟩
/-- Part of a site. -/
def ctSet (ct : Nat → Bool) (s : Nat) (b : Bool) : Nat → Bool := fun k => if k = s then b else ct k
set_option maxRecDepth 100000 in
set_option maxHeartbeats 4000000 in
theorem rnpart_ok {L : List RP} (h : RNt w r v most L ct) {s : Nat} (hs : 1 ≤ s ∧ s ≤ 3) (b : Bool) :
    Calls Tryz.prog 52 #[.pointer (some ⟨r, 0, none⟩), .int .i64 s, .bool b] w fun e w' => e = .returned (.int .i64 0) ∧ RNt w' r v most L (ctSet ct s b) ∧ Touch (fun k => k = r) w w' := by
  have hr0 := heap_lt h.head
  obtain ⟨vA, cp, hv, _⟩ := id (RowIs.form h.row)
  have hT : Touch (fun k => k = r) w (w.setCell ⟨r, 2 + s, none⟩ (.bool b)) := Touch.setCell (S := fun k => k = r) (Touch.refl _ w) ⟨r, 2 + s, none⟩ (fun _ => rfl) _
  have hnew : RNt (w.setCell ⟨r, 2 + s, none⟩ (.bool b)) r v most L (ctSet ct s b) := by
    refine ⟨?_, RowIs.touch h.row hT (fun k e q => h.off (by rw [e, q])), h.off⟩
    have := set_at h.head (2 + s) (.bool b)
    rw [this]
    match s, hs with
    | 1, _ => simp [ctSet]
    | 2, _ => simp [ctSet]
    | 3, _ => simp [ctSet]
  have HF := Lib.hid (And.intro hnew hT)
  have q1 : decide ((s : Int) < 1) = false := decide_eq_false (by omega)
  have q2 : decide ((s : Int) > 3) = false := decide_eq_false (by omega)
  have hc : ∃ u, w.cell? ⟨r, 2 + s, none⟩ = some u := by
    match s, hs with
    | 1, _ => exact ⟨_, cell_of h.head 3⟩
    | 2, _ => exact ⟨_, cell_of h.head 4⟩
    | 3, _ => exact ⟨_, cell_of h.head 5⟩
  obtain ⟨u, hc⟩ := hc
  have hf := free0 h.head (2 + s)
  have q3 : (s : Int) < 4 := by omega
  have q4 : s < 4 := by omega
  clear h hnew hT hs hr0 hv
  go_enter Tryz.func52, Tryz.ntmps52
  go_wp2_with fail
  go_ret
  exact ⟨rfl, HF.out⟩
set_option maxRecDepth 100000 in
theorem rnpart_not {s : Int} (hs : ¬ (1 ≤ s ∧ s ≤ 3)) (b : Bool) :
    Calls Tryz.prog 52 #[.pointer (some ⟨r, 0, none⟩), .int .i64 s, .bool b] w fun e w' => e = .returned (.int .i64 2) ∧ w' = w := by
  by_cases h1 : s < 1
  · have q1 : decide (s < 1) = true := decide_eq_true h1
    clear hs h1
    go_enter Tryz.func52, Tryz.ntmps52
    go_wp2_with fail
    go_ret
    exact ⟨rfl, rfl⟩
  · have q1 : decide (s < 1) = false := decide_eq_false h1
    have q2 : decide (s > 3) = true := decide_eq_true (by omega)
    clear hs h1
    go_enter Tryz.func52, Tryz.ntmps52
    go_wp2_with fail
    go_ret
    exact ⟨rfl, rfl⟩
end
end Go.Proofs.YtmbonngjkgcijaaGreatDoor

namespace Go.Proofs.YtmbonngjkgcijaaGreatDoor
open Go.RowKit Go.Shelf

def lettersP (s : ByteArray) : Bool := plainL s.data.toList && decide (0 < s.size)
set_option maxRecDepth 100000 in
set_option maxHeartbeats 1000000 in
theorem rletters_any (s : ByteArray) (w : World) (hs : s.size ≤ 1073741824) :
    Calls Tryz.prog 181 #[.string s] w fun e w' => e = .returned (.bool (lettersP s)) ∧ w = w' := by
  go_enter Tryz.func181, Tryz.ntmps181
  go_wp2
  go_loop [3] (fun i => ∃ k : Nat, k ≤ s.size ∧ i = .int .i64 k ∧ plainL (s.data.toList.take k) = true) (fun i => s.size - (intOf i).toNat)
  case atStart => exact ⟨0, Nat.zero_le _, rfl, rfl⟩
  case round =>
    obtain ⟨k, hk, rfl, hp⟩ := hrel
    by_cases hlt : k < s.size
    · have HP := Lib.hid (plain_take hlt hp)
      have HN : Hid (okc s[k] = false → lettersP s = false) := Lib.hid (fun h => by unfold lettersP; rw [plain_no (s := s) hlt h]; rfl)
      have HO : Hid (okc s[k] = decide ((97 ≤ s[k].toNat ∧ s[k].toNat ≤ 122) ∨ (48 ≤ s[k].toNat ∧ s[k].toNat ≤ 57) ∨ s[k].toNat = 46 ∨ s[k].toNat = 95)) := Lib.hid rfl
      clear hp
      go_wp2
      all_goals first
        | (go_round
           case rel => exact ⟨k + 1, by omega, by go_num, by rw [HP.out, HO.out]; (try simp only [bne_iff_ne, ne_eq, bne_eq_false_iff_eq] at *); simp only [decide_eq_true_eq]; omega⟩
           case measure => simp [intOf]; omega)
        | (go_ret
           exact ⟨ret_bool (by rw [HN.out (by rw [HO.out]; (try simp only [bne_iff_ne, ne_eq, bne_eq_false_iff_eq] at *); simp only [decide_eq_false_iff_not]; omega)]), rfl⟩)
    · have HL : Hid (lettersP s = decide ((0 : Int) < (s.size : Int))) := Lib.hid (by
        rw [List.take_of_length_le (by simp; omega)] at hp
        unfold lettersP
        rw [hp]
        simp)
      clear hp
      go_wp2
      go_ret
      exact ⟨ret_bool (by rw [HL.out]; simp), rfl⟩
theorem keyP_letters (s : ByteArray) : keyP s = (decide (s.size ≤ 16) && lettersP s) := by
  unfold keyP lettersP
  by_cases h : s.size = 0
  · simp [h]
  · have : 0 < s.size := by omega
    simp [h, this]
set_option maxRecDepth 100000 in
set_option maxHeartbeats 1000000 in
theorem rkey_any (s : ByteArray) (w : World) (hs : s.size ≤ 1073741824) :
    Calls Tryz.prog 159 #[.string s] w fun e w' => e = .returned (.bool (keyP s)) ∧ w = w' := by
  have HP := Lib.hid (rletters_any s w hs)
  obtain ⟨b, hb⟩ : ∃ b, lettersP s = b := ⟨_, rfl⟩
  rw [hb] at HP
  have HK := Lib.hid (keyP_letters s)
  rw [hb] at HK
  clear hb
  by_cases h16 : s.size ≤ 16
  · have hI : (s.size : Int) ≤ 16 := by omega
    have HK2 : Hid (keyP s = b) := Lib.hid (by rw [HK.out]; simp [h16])
    go_enter Tryz.func159, Tryz.ntmps159
    go_wp2_with fail
    refine (HP.out).mono ?_
    rintro e w' ⟨rfl, rfl⟩
    go_wp2_with fail
    go_ret
    exact ⟨ret_bool HK2.out.symm, rfl⟩
  · have hI : ¬ (s.size : Int) ≤ 16 := by omega
    have HK2 : Hid (keyP s = false) := Lib.hid (by rw [HK.out]; simp [h16])
    clear HP
    go_enter Tryz.func159, Tryz.ntmps159
    go_wp2_with fail
    go_ret
    exact ⟨ret_bool HK2.out.symm, rfl⟩
/-- How a text is told to be one of the system's. -/
inductive SysWay (s : ByteArray) : Prop where
  | long (h : ¬ s.size ≤ 16) (hs : sysP s = false)
  | short (h : s.size ≤ 16) (h1 : ¬ 1 < s.size) (hs : sysP s = false)
  | other (h : s.size ≤ 16) (h1 : 1 < s.size) (hc : ¬ (s[0]'(Nat.lt_trans Nat.zero_lt_one h1)).toNat = 126) (hs : sysP s = false)
  | tilde (h : s.size ≤ 16) (h1 : 1 < s.size) (hc : (s[0]'(Nat.lt_trans Nat.zero_lt_one h1)).toNat = 126) (hs : sysP s = lettersP (s.extract 1 s.size)) (hl : (s.extract 1 s.size).size ≤ 1073741824)
theorem sysWay (s : ByteArray) : SysWay s := by
  have hsz := size_list s
  by_cases h16 : s.size ≤ 16
  · by_cases h1 : 1 < s.size
    · obtain ⟨c, d, r, hl⟩ : ∃ c d r, s.data.toList = c :: d :: r := by
        match hs' : s.data.toList with
        | [] => rw [hs'] at hsz; simp at hsz; omega
        | [_] => rw [hs'] at hsz; simp at hsz; omega
        | c :: d :: r => exact ⟨c, d, r, rfl⟩
      have hr : r.length + 2 = s.size := by rw [hl] at hsz; simpa using hsz
      have hc0 : s[0]'(Nat.lt_trans Nat.zero_lt_one h1) = c := by
        have : s.data.toList[0]? = some (s[0]'(Nat.lt_trans Nat.zero_lt_one h1)) := by
          rw [List.getElem?_eq_getElem (by simp; omega)]; rfl
        rw [hl] at this
        simpa using this.symm
      have hex : (s.extract 1 s.size).data.toList = d :: r := by
        rw [ext_toList, List.take_of_length_le (by simp), hl]
        rfl
      have hexs : (s.extract 1 s.size).size = r.length + 1 := by
        have := size_list (s.extract 1 s.size)
        rw [hex, List.length_cons] at this
        omega
      by_cases hc : c.toNat = 126
      · refine .tilde h16 h1 (by rw [hc0]; exact hc) ?_ (by omega)
        unfold sysP lettersP
        rw [hl, hex, hexs]
        simp only [sysL]
        have h14 : r.length ≤ 14 := by omega
        simp [hc, h14]
      · refine .other h16 h1 (by rw [hc0]; exact hc) ?_
        unfold sysP
        rw [hl]
        simp [sysL, hc]
    · refine .short h16 h1 ?_
      unfold sysP
      match hs' : s.data.toList with
      | [] => rfl
      | [_] => rfl
      | c :: d :: r => rw [hs'] at hsz; simp at hsz; omega
  · refine .long h16 ?_
    cases h : sysP s with
    | false => rfl
    | true => have := sysP_le h; omega
end Go.Proofs.YtmbonngjkgcijaaGreatDoor

namespace Go.Proofs.YtmbonngjkgcijaaGreatDoor
open Go.RowKit Go.Shelf

set_option maxRecDepth 100000 in
set_option maxHeartbeats 4000000 in
theorem ropmay_any (k : Int) (s : ByteArray) (n lo : Int) (w : World) (hs : s.size ≤ 1073741824) :
    Calls Tryz.prog 158 #[.agg #[.int .i64 k, .string s, .int .i64 n, .int .i64 lo]] w fun e w' => e = .returned (.bool (mayO ⟨k, s, n, lo⟩)) ∧ Below w.heap.size w w' := by
  have HKY := Lib.hid (fun W => rkey_any s W hs)
  have HB : Hid (Below w.heap.size w (w.alloc (.cells #[.int .i64 k, .string s, .int .i64 n, .int .i64 lo] 168))) := Lib.hid (below_new _)
  have HSW := Lib.hid (sysWay s)
  by_cases hk : kindO ⟨k, s, n, lo⟩ = true
  · have HM := Lib.hid (mayO_yes ((kindO_iff _).1 hk))
    obtain ⟨⟨h1, h6⟩, h5, h0⟩ := (kindO_iff _).1 hk
    simp only at h1 h6 h5 h0 HM
    obtain ⟨kb, hkb⟩ : ∃ b, keyP s = b := ⟨_, rfl⟩
    obtain ⟨sb, hsb⟩ : ∃ b, sysP s = b := ⟨_, rfl⟩
    rw [hkb] at HKY HM
    rw [hsb] at HM
    have HSB := Lib.hid hsb
    have a1 : ¬ k < 1 := by omega
    have a6 : ¬ 6 < k := by omega
    have hcs : (lo = 0 ∧ n = 0) ∨ (lo = 0 ∧ ¬ n = 0 ∧ ¬ k = 1 ∧ ¬ k = 3) ∨ (¬ lo = 0 ∧ k = 5 ∧ n = 0) ∨ (¬ lo = 0 ∧ k = 5 ∧ ¬ n = 0) := by omega
    clear hk hkb hsb h1 h6 h5 h0
    rcases hcs with ⟨rfl, rfl⟩ | ⟨rfl, hn, g1, g3⟩ | ⟨hlo, rfl, rfl⟩ | ⟨hlo, rfl, hn⟩
    all_goals
      try (have hnb : (n != 0) = true := by simpa using hn)
      try (have hlb : (lo != 0) = true := by simpa using hlo)
      try (have gb1 : (k == 1) = false := by simpa using g1)
      try (have gb3 : (k == 3) = false := by simpa using g3)
      go_enter Tryz.func158, Tryz.ntmps158
      go_wp2_with fail
      refine (HKY.out _).mono ?_
      rintro e w' ⟨rfl, rfl⟩
      cases kb with
      | true =>
        go_wp2_with fail
        go_ret
        exact ⟨ret_bool (by rw [HM.out]; rfl), HB.out⟩
      | false =>
        rcases HSW.out with ⟨h, e⟩ | ⟨h, h1, e⟩ | ⟨h, h1, hc, e⟩ | ⟨h, h1, hc, e, hl⟩
        · have hI : ¬ (s.size : Int) ≤ 16 := by omega
          have HE := Lib.hid (HSB.out.symm.trans e)
          clear e h
          go_wp2_with fail
          go_ret
          exact ⟨ret_bool (by rw [HM.out, HE.out]; rfl), HB.out⟩
        · have hI : (s.size : Int) ≤ 16 := by omega
          have hI1 : ¬ (1 : Int) < (s.size : Int) := by omega
          have HE := Lib.hid (HSB.out.symm.trans e)
          clear e h h1
          go_wp2_with fail
          go_ret
          exact ⟨ret_bool (by rw [HM.out, HE.out]; rfl), HB.out⟩
        · have hI : (s.size : Int) ≤ 16 := by omega
          have hI1 : (1 : Int) < (s.size : Int) := by omega
          have q0 : (((s[0]'(Nat.lt_trans Nat.zero_lt_one h1)).toNat : Int) == 126) = false := by simp; omega
          have HE := Lib.hid (HSB.out.symm.trans e)
          clear e h hc
          go_wp2_with fail
          go_ret
          exact ⟨ret_bool (by rw [HM.out, HE.out]; rfl), HB.out⟩
        · have hI : (s.size : Int) ≤ 16 := by omega
          have hI1 : (1 : Int) < (s.size : Int) := by omega
          have q0 : (((s[0]'(Nat.lt_trans Nat.zero_lt_one h1)).toNat : Int) == 126) = true := by rw [hc]; rfl
          have HE := Lib.hid (HSB.out.symm.trans e)
          have HLT := Lib.hid (fun W => rletters_any (s.extract 1 s.size) W hl)
          obtain ⟨lb, hlb2⟩ : ∃ b, lettersP (s.extract 1 s.size) = b := ⟨_, rfl⟩
          rw [hlb2] at HLT HE
          clear e h hc hlb2 hl
          go_wp2_with fail
          refine (HLT.out _).mono ?_
          rintro e w' ⟨rfl, rfl⟩
          go_wp2_with fail
          go_ret
          exact ⟨ret_bool (by rw [HM.out, HE.out]; rfl), HB.out⟩
  · have HM : Hid (mayO ⟨k, s, n, lo⟩ = false) := Lib.hid (mayO_not fun h => hk ((kindO_iff _).2 h))
    have hk2 : ¬ ((1 ≤ k ∧ k ≤ 6) ∧ (k = 5 ∨ lo = 0) ∧ ((k = 1 ∨ k = 3) → n = 0)) := fun h => hk ((kindO_iff _).2 h)
    clear HKY hk HSW
    have hcs : k < 1 ∨ 6 < k ∨ (1 ≤ k ∧ k ≤ 6 ∧ ¬ lo = 0 ∧ ¬ k = 5) ∨ (lo = 0 ∧ k = 1 ∧ ¬ n = 0) ∨ (lo = 0 ∧ k = 3 ∧ ¬ n = 0) := by omega
    clear hk2
    rcases hcs with h | h | ⟨h1, h6, h, h5⟩ | ⟨rfl, rfl, h⟩ | ⟨rfl, rfl, h⟩
    · go_enter Tryz.func158, Tryz.ntmps158
      go_wp2_with fail
      go_ret
      exact ⟨ret_bool HM.out.symm, HB.out⟩
    · have h' : ¬ k < 1 := by omega
      go_enter Tryz.func158, Tryz.ntmps158
      go_wp2_with fail
      go_ret
      exact ⟨ret_bool HM.out.symm, HB.out⟩
    · have h' : ¬ k < 1 := by omega
      have h6' : ¬ 6 < k := by omega
      have hb : (lo != 0) = true := by simpa using h
      have hb5 : (k != 5) = true := by simpa using h5
      go_enter Tryz.func158, Tryz.ntmps158
      go_wp2_with fail
      go_ret
      exact ⟨ret_bool HM.out.symm, HB.out⟩
    all_goals
      have hb : (n != 0) = true := by simpa using h
      go_enter Tryz.func158, Tryz.ntmps158
      go_wp2_with fail
      go_ret
      exact ⟨ret_bool HM.out.symm, HB.out⟩
set_option maxRecDepth 100000 in
set_option maxHeartbeats 2000000 in
theorem rcheck_any {w : World} {v : Value} {l : List OpV} (h : OpsAt w v l) (hk : KeysIn l) :
    Calls Tryz.prog 124 #[v] w fun e w' => e = .returned (.int .i64 (checkO l)) ∧ Below w.heap.size w w' := by
  obtain ⟨A, cap, rfl, hc1, hc2, hcell⟩ := h.form
  unfold maxLen at hc2
  by_cases h8 : 8 < l.length
  · have HP : Hid (checkO l = 7) := Lib.hid (by unfold checkO; rw [if_pos h8])
    have h8I : (8 : Int) < (l.length : Int) := by omega
    clear h hcell hk
    go_enter Tryz.func124, Tryz.ntmps124
    go_wp2_with fail
    go_ret
    exact ⟨ret_int' (by rw [HP.out]; rfl), Below.refl _ _⟩
  · have h8I : ¬ (8 : Int) < (l.length : Int) := by omega
    have hlI : (l.length : Int) ≤ 8 := by omega
    have HC := Lib.hid hcell
    have HK := Lib.hid hk
    obtain ⟨m, hm⟩ : ∃ m, l.length = m := ⟨_, rfl⟩
    have HM := Lib.hid hm
    rw [hm] at h8 h8I hlI hc1
    clear h hcell hk
    rw [hm]
    clear hm
    obtain ⟨ck, hck⟩ : ∃ c, checkO l = c := ⟨_, rfl⟩
    rw [hck]
    have HCK := Lib.hid hck
    clear hck
    go_enter Tryz.func124, Tryz.ntmps124
    go_wp2_with fail
    go_loopw [10] (fun iv wr => ∃ i : Nat, i ≤ m ∧ iv = .int .i64 i ∧ (l.take i).all askO = true ∧ Below w.heap.size w wr) (fun iv _ => m - (intOf iv).toNat)
    case atStart => exact ⟨0, Nat.zero_le _, rfl, rfl, Below.refl _ _⟩
    case round =>
      obtain ⟨i, hi, rfl, hall, hbw⟩ := hrel
      by_cases hlt : i < m
      · obtain ⟨o, ho⟩ : ∃ o, l[i]? = some o := ⟨_, List.getElem?_eq_getElem (by rw [HM.out]; exact hlt)⟩
        obtain ⟨a, rfl, q1, k0, k1, k2, k3⟩ := HC.out i o ho
        have hblk : (a.add (i * 4)).block < w.heap.size := by rw [add_block]; exact q1
        replace k0 := (hbw.cell hblk).trans k0
        replace k1 := (hbw.cell (p := ⟨(a.add (i * 4)).block, (a.add (i * 4)).off + 1, none⟩) hblk).trans k1
        replace k2 := (hbw.cell (p := ⟨(a.add (i * 4)).block, (a.add (i * 4)).off + 2, none⟩) hblk).trans k2
        replace k3 := (hbw.cell (p := ⟨(a.add (i * 4)).block, (a.add (i * 4)).off + 3, none⟩) hblk).trans k3
        have hsz := HK.out o (List.mem_of_getElem? ho)
        have HNX := Lib.hid (all_take ho hall)
        have HNO : Hid (askO o = false → ck = 2) := Lib.hid (fun h => by
          rw [← HCK.out]
          unfold checkO
          rw [HM.out, if_neg h8, if_neg]
          rw [Bool.not_eq_true, List.all_eq_false]
          exact ⟨o, List.mem_of_getElem? ho, by simp [h]⟩)
        obtain ⟨kd, s, n, lo⟩ := o
        simp only at k0 k1 k2 k3 hsz
        have HMY := Lib.hid (fun W => ropmay_any kd s n lo W hsz)
        have HKY := Lib.hid (fun W => rkey_any s W hsz)
        obtain ⟨mb, hmb⟩ : ∃ b, mayO ⟨kd, s, n, lo⟩ = b := ⟨_, rfl⟩
        obtain ⟨kb, hkb⟩ : ∃ b, keyP s = b := ⟨_, rfl⟩
        rw [hmb] at HMY
        rw [hkb] at HKY
        have hA : askO ⟨kd, s, n, lo⟩ = (mb && kb) := by unfold askO; rw [hmb]; simp only; rw [hkb]
        rw [hA] at HNX HNO
        have hiI : (i : Int) < (m : Int) := by omega
        have HLT := Lib.hid hlt
        have HBW := Lib.hid (hbw.trans ((below_new (w := wr) (.cells #[.int .i64 kd, .string s, .int .i64 n, .int .i64 lo] 168)).mono hbw.size))
        have HAT := Lib.hid (alloc_at wr (.cells #[.int .i64 kd, .string s, .int .i64 n, .int .i64 lo] 168))
        clear ho hall hbw hlt hblk q1 hi hmb hkb hA
        go_wp2_with fail
        refine (HMY.out _).mono ?_
        rintro e w1 ⟨rfl, hb1⟩
        have HB1 := Lib.hid (HBW.out.trans (hb1.mono HBW.out.size))
        have c1 : w1.cell? ⟨wr.heap.size, 1, none⟩ = some (.string s) := (hb1.cell (p := ⟨wr.heap.size, 1, none⟩) (by show wr.heap.size < _; rw [asz]; omega)).trans (cell_of HAT.out 1)
        clear hb1 k0 k1 k2 k3
        cases mb with
        | false =>
          have HE := Lib.hid (HNO.out rfl)
          clear HNO HNX
          go_wp2_with fail
          go_ret
          exact ⟨ret_int' (by rw [HE.out]; rfl), HB1.out⟩
        | true =>
          go_wp2_with fail
          refine (HKY.out _).mono ?_
          rintro e w2 ⟨rfl, rfl⟩
          cases kb with
          | false =>
            have HE := Lib.hid (HNO.out rfl)
            clear HNO HNX
            go_wp2_with fail
            go_ret
            exact ⟨ret_int' (by rw [HE.out]; rfl), HB1.out⟩
          | true =>
            have HX := Lib.hid (show (l.take (i + 1)).all askO = true from HNX.out)
            clear HNO HNX
            go_wp2_with fail
            go_roundw
            case rel => exact ⟨i + 1, HLT.out, by go_num, HX.out, HB1.out⟩
            case measure => have := HLT.out; simp [intOf]; omega
      · obtain rfl : i = m := by omega
        have HF : Hid (ck = 0) := Lib.hid (by
          rw [List.take_of_length_le (by rw [HM.out]; omega)] at hall
          rw [← HCK.out]
          unfold checkO
          rw [HM.out, if_neg h8, if_pos hall])
        have HB := Lib.hid hbw
        clear hall hbw
        go_wp2_with fail
        go_ret
        exact ⟨ret_int' (by rw [HF.out]; rfl), HB.out⟩
end Go.Proofs.YtmbonngjkgcijaaGreatDoor
