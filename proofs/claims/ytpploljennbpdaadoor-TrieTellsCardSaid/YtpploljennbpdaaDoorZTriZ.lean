/- trie: Build. -/
import Derived.Test.YtpploljennbpdaaDoorZTriY
set_option linter.unusedSimpArgs false
set_option linter.unusedVariables false
set_option linter.unnecessarySimpa false
namespace Go.Proofs.YtpploljennbpdaaDoor
open Go.RowKit Go.Shelf

theorem below_of_drew {w w' : World} (h : Below w.drew.heap.size w.drew w') : Below w.heap.size w w' := (below_drew (Below.refl _ w)).trans h
/-- What Build answers. -/
def BldP (L : List Pth) (w : World) (e : Ending) (w' : World) : Prop := Below w.heap.size w w' ∧ ((bcode L ≠ 0 ∧ e = .returned (.tuple #[.agg #[.slice none 0 0], .int .i64 (bcode L)])) ∨ (bcode L = 0 ∧ ∃ v N, e = .returned (.tuple #[.agg #[v], .int .i64 0]) ∧ TrAt w' v N (treeP L) ∧ ∀ g, TrOwn v N g → w.heap.size ≤ g))
/-- Both ways in one. -/
theorem built_one {L : List Pth} {w w1 : World} {e : Ending} (hG : Glob w) (h : BuiltP L w e w1) : ∃ A n c ev l, e = .returned (.tuple #[.agg #[.slice A n c], ev]) ∧ ErrIs w1 l ev ∧ NumOk l ∧ l.length < 1000 ∧ codeOf l = bcode L ∧ ((bcode L ≠ 0 ∧ A = none ∧ n = 0 ∧ c = 0) ∨ (bcode L = 0 ∧ ∃ N, TrAt w1 (.slice A n c) N (treeP L) ∧ ∀ g, TrOwn (.slice A n c) N g → w.heap.size < g)) := by
  obtain ⟨hb, h⟩ := h
  rcases h with ⟨h0, ev, rfl, he⟩ | ⟨h0, v, N, rfl, ht, ho⟩
  · obtain ⟨t, u, l, h1, h2, h3, h4, h5⟩ := he.is
    exact ⟨none, 0, 0, ev, l, rfl, h5, h3, by omega, h4, .inl ⟨h0, rfl, rfl, rfl⟩⟩
  · obtain ⟨g, cap, rfl, _⟩ := ht.form
    exact ⟨_, _, _, .nilIface, [], rfl, rfl, (fun e he => by cases he), by simp, by rw [h0]; rfl, .inr ⟨h0, N, ht, ho⟩⟩
set_option maxRecDepth 100000 in
set_option maxHeartbeats 4000000 in
theorem Build_any {w : World} {v : Value} {L : List Pth} (hG : Glob w) (h : PsIs w v L) (hL : L.length ≤ 1000) (hl : ∀ p ∈ L, p.length ≤ 1000) : Calls Tryd.prog 7 #[v] w (BldP L w) := by
  have hb0 := below_new (w := w) (.cells #[.slice none 0 0] 27)
  have hres0 := alloc_at w (.cells #[.slice none 0 0] 27)
  have HC := Lib.hid (build_any (h.below hb0) hL hl)
  have HG0 := Lib.hid (hG.below hb0)
  have HB0 := Lib.hid hb0
  have HR0 := Lib.hid hres0
  clear h hl hb0 hres0 hG
  go_enter Tryd.func7, Tryd.ntmps7
  go_wp2_with fail
  refine (HC.out).mono ?_
  rintro e w1 hp
  obtain ⟨A, n, c, ev, l, rfl, he, hno, hlen, hco, hend⟩ := built_one HG0.out hp
  have hb1 := hp.1
  have hg1 := HG0.out.below hb1
  have hres1 := (hb1.block _ (heap_lt HR0.out)).trans HR0.out
  have HCD : Hid (∀ W, Below w1.heap.size w1 W → Calls Tryd.prog 28 #[ev] W fun e w' => e = .returned (.int .i64 (bcode L)) ∧ Below W.heap.size W w') := Lib.hid (fun W hW => by
    rw [← hco]
    exact code_any hg1 he hno hlen hW)
  have HB1 := Lib.hid (HB0.out.trans (hb1.mono HB0.out.size))
  have HR1 := Lib.hid hres1
  have HEND := Lib.hid hend
  have hbx := alloc_at w1 (.cells #[.slice A n c] 27)
  have hb2 : Below w1.heap.size w1 (w1.alloc (.cells #[.slice A n c] 27)) := below_new _
  obtain ⟨w2, hw2⟩ : ∃ w2, w2 = w1.alloc (.cells #[.slice A n c] 27) := ⟨_, rfl⟩
  rw [← hw2] at hbx hb2
  have hs : w2.drew.cell? ⟨w1.heap.size, 0, none⟩ = some (.slice A n c) := cell_of hbx 0
  have HS := Lib.hid hs
  have HB2 := Lib.hid hb2
  have HW2 := Lib.hid hw2
  have HSW : Hid (∀ W, Below w2.heap.size w2 W → W.cell? ⟨w1.heap.size, 0, none⟩ = some (.slice A n c)) := Lib.hid (fun W hW => cell_of ((hW.block _ (heap_lt hbx)).trans hbx) 0)
  have HSZ := Lib.hid (heap_lt hres1)
  obtain ⟨b, hb⟩ : ∃ b, bcode L = b := ⟨_, rfl⟩
  rw [hb] at HCD HEND
  have HBB := Lib.hid hb
  clear hp he hno hlen hco hend hb1 hg1 hres1 hbx hb2 hw2 hs hb HC HG0 HB0 HR0
  go_wp2_with fail
  rw [← HW2.out]
  refine wp_only ?_
  refine wp_region_held_drew (S := fun W => W.cell? ⟨w1.heap.size, 0, none⟩ = some (.slice A n c)) (by kernel_rfl) HS.out (fun hHeld => ?_)
  refine wpAnyH_take (i := 0) (oi := { dst := some 11, op := Op.load 27 (Operand.tmp 4), type := 27, pos := "trie.go:24", after := #[], guard := none }) (v := ?vv1) rfl (by kernel_rfl) (by kernel_rfl) (by kernel_rfl) (fun _ _ _ h => h) ?hy1 (by assumption) ?rest1
  case hy1 => (refine Or.inl ⟨by rfl, ?_⟩; intro W hSw; (try dsimp only at hSw); go_simp; (try with_reducible rfl))
  try simp only [Act.put, List.setIfInBounds_toArray, List.set_cons_zero, List.set_cons_succ]
  refine wpAnyH_take (i := 1) (oi := { dst := some 12, op := Op.move (Operand.tmp 5), type := 46, pos := "trie.go:24", after := #[], guard := none }) (v := ?vv2) rfl (by kernel_rfl) (by kernel_rfl) (by kernel_rfl) (fun _ _ _ h => h) ?hy2 (by assumption) ?rest2
  case hy2 => (refine Or.inl ⟨by rfl, ?_⟩; intro W hSw; (try dsimp only at hSw); go_simp; (try with_reducible rfl))
  try simp only [Act.put, List.setIfInBounds_toArray, List.set_cons_zero, List.set_cons_succ]
  refine wpAnyH_ready (rs := [2]) (by kernel_rfl) (by simp) ?_
  refine AllReadyH.cons (o := { dst := some 13, op := Op.call { callee := Callee.value (Operand.func 28), args := #[Operand.tmp 12], argTypes := #[46] }, type := 28, pos := "trie.go:24", after := #[{ on := 1, ground := Ground.data }], guard := none }) rfl (fun K hK => ?step3) ?more3
  case more3 => exact AllReadyH.nil
  ((go_simp; go_at_call 28; refine (HCD.out _ (below_drew HB2.out)).mono ?_; rintro e w3 ⟨rfl, hb3⟩; go_wp2_with fail))
  refine hK.out _ _ ?hS3 (fun hHeld => ?rr3)
  case hS3 => (exact HSW.out _ (below_of_drew hb3))
  clear hK K
  try simp only [Act.put, List.setIfInBounds_toArray, List.set_cons_zero, List.set_cons_succ]
  have hbw3 : Below w1.heap.size w1 w3 := HB2.out.trans ((below_of_drew hb3).mono HB2.out.size)
  have hr3 := (hbw3.block _ HSZ.out).trans HR1.out
  have q0 := cell_of hr3 0
  have f0 := free0 hr3 0
  have HBW3 := Lib.hid hbw3
  have HR3 := Lib.hid hr3
  have HS3 := Lib.hid (HSW.out _ (below_of_drew hb3))
  clear hb3 hbw3 hr3
  refine wpAnyH_ready (rs := [3]) (by kernel_rfl) (by simp) ?_
  refine AllReadyH.cons (o := { dst := none, op := Op.store 27 (Operand.tmp 2) (Operand.tmp 11), type := 0, pos := "trie.go:24", after := #[{ on := 0, ground := Ground.data }, { on := 2, ground := Ground.chain }, { on := 0, ground := Ground.phase }, { on := 1, ground := Ground.textOnly Departure.lateStores }, { on := 2, ground := Ground.textOnly Departure.lateStoresUnsure }], guard := none }) rfl (fun K hK => ?step4) ?more4
  case more4 => exact AllReadyH.nil
  ((go_simp))
  refine hK.out _ _ ?hS4 (fun hHeld => ?rr4)
  case hS4 => (exact (World.cell?_of_block (a := ⟨w1.heap.size, 0, none⟩) (((Touch.refl (fun k => k = w.heap.size) w3).setCell ⟨w.heap.size, 0, none⟩ (fun _ => rfl) (.slice A n c)).block _ (heap_lt' HS3.out) (fun e => by have := HSZ.out; have e2 : w1.heap.size = w.heap.size := e; omega))).trans HS3.out)
  clear hK K
  try simp only [Act.put, List.setIfInBounds_toArray, List.set_cons_zero, List.set_cons_succ]
  refine wpAnyH_take (i := 4) (oi := { dst := some 3, op := Op.assign (Operand.tmp 13), type := 28, pos := "trie.go:24", after := #[{ on := 2, ground := Ground.data }, { on := 3, ground := Ground.chain }, { on := 0, ground := Ground.phase }, { on := 1, ground := Ground.phase }, { on := 2, ground := Ground.phase }, { on := 3, ground := Ground.phase }], guard := none }) (v := ?vv5) rfl (by kernel_rfl) (by kernel_rfl) (by kernel_rfl) (fun _ _ _ h => h) ?hy5 (by assumption) ?rest5
  case hy5 => (refine Or.inl ⟨by rfl, ?_⟩; intro W hSw; (try dsimp only at hSw); go_simp; (try with_reducible rfl))
  try simp only [Act.put, List.setIfInBounds_toArray, List.set_cons_zero, List.set_cons_succ]
  refine wpAnyH_done (by kernel_rfl) ?_ _
  have HB3 := Lib.hid (HB1.out.trans (HBW3.out.mono HB1.out.size))
  obtain ⟨hb4, ht4⟩ := told_below HR3.out HB3.out (.slice A n c)
  have hc4 := cell_of (told_cell HR3.out (.slice A n c)) 0
  have HB4 := Lib.hid hb4
  have HT4 := Lib.hid ht4
  clear hHeld HS HSW HCD HB2 hb4 ht4
  dsimp only [onlyN]
  go_wp2_with fail
  refine bodyPost_ret (v := .tuple #[.agg #[.slice A n c], .int .i64 b]) (by simp [results, Tryd.results7, go_sem, hc4]) rfl ?_
  refine ⟨HB4.out, ?_⟩
  rw [HBB.out]
  rcases HEND.out with ⟨h0, rfl, rfl, rfl⟩ | ⟨rfl, N, ht, ho⟩
  · exact .inl ⟨h0, rfl⟩
  · exact .inr ⟨rfl, _, N, rfl, (ht.below HBW3.out).touch HT4.out (fun g hg e => by have := ho g hg; rw [asz] at this; omega), fun g hg => by have := ho g hg; rw [asz] at this; omega⟩
end Go.Proofs.YtpploljennbpdaaDoor
