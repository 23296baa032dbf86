/- Two pages become one: the walk. -/
import Derived.Test.YtkkfgdibficifaaDoorZPagT
set_option linter.unusedSimpArgs false
set_option linter.unusedVariables false
set_option linter.unnecessarySimpa false
namespace Go.Proofs.YtkkfgdibficifaaDoor
open Go.RowKit Go.Shelf Go.Sort Go.Lib

/-- Page i and the next one are one. -/
def joinP (P : List (List Row)) (i : Nat) : List (List Row) := (P.set i (((P[i]?).getD []) ++ ((P[i + 1]?).getD []))).eraseIdx (i + 1)
set_option maxRecDepth 100000 in
set_option maxHeartbeats 4000000 in
theorem join_any {w : World} {s most i : Nat} {v : Value} {L : List Pl} {P : List (List Row)} {p q : List Row} (h : St w s most v L P) (hp : P[i]? = some p) (hq : P[i + 1]? = some q) (h1 : 1 ≤ p.length) (h2 : p.length + q.length ≤ 64) (hl : P.length ≤ 256) :
    Calls Tryd.prog 45 #[.pointer (some ⟨s, 0, none⟩), .int .i64 i] w fun e w' => e = .returned (.tuple #[]) ∧ StPost w s most v L (joinP P i) w' := by
  obtain ⟨a, g, c, ha, hv, hc1, hc2, kp, hA, hac⟩ := row_page h hp
  obtain ⟨d, g', c', hd, hv2, _, _, kq, hD, hdc⟩ := row_page h hq
  have hv4 := hv.symm.trans hv2
  injection hv4 with e1 _ e3
  injection e1 with e1
  injection e1 with e1
  subst e1 e3
  have ks : w.cell? ⟨s, 1, none⟩ = some v := cell_of h.head 1
  rw [hv] at ks
  have hil := (List.getElem?_eq_some_iff.1 hq).1
  have hmx := hA.max
  have hmd := hD.max
  have hvg : v.ownBlock = some g := by rw [hv]; rfl
  have hgs : g ≠ s := fun e => h.off (e ▸ hvg)
  have HJ : Hid (joinP P i = (P.set i (p ++ q)).eraseIdx (i + 1)) := Lib.hid (by unfold joinP; rw [hp, hq]; rfl)
  have HC : Hid (∀ W, Below w.heap.size w W → W.cell? ⟨s, 1, none⟩ = some (.slice (some ⟨g, 0, none⟩) P.length c) ∧ W.cell? ⟨g, i + 1, none⟩ = some (.slice (some ⟨d.g, d.o, none⟩) q.length d.cap)) := Lib.hid (fun W hW => ⟨(hW.cell (p := ⟨s, 1, none⟩) (World.block_lt_of_cell? _ _ ks)).trans ks, (hW.cell (p := ⟨g, i + 1, none⟩) (World.block_lt_of_cell? _ _ kq)).trans kq⟩)
  have HG : Hid (∀ W, Below w.heap.size w W → W.cell? ⟨g, i, none⟩ = some (.slice (some ⟨a.g, a.o, none⟩) p.length a.cap)) := Lib.hid (fun W hW => (hW.cell (p := ⟨g, i, none⟩) (World.block_lt_of_cell? _ _ kp)).trans kp)
  have HCON : Hid (∀ W4, Below w.heap.size w W4 → ∀ b, W4.heap[b]? = some (.cells #[.slice (some ⟨a.g, a.o, none⟩) p.length a.cap, .slice (some ⟨d.g, d.o, none⟩) q.length d.cap] 28 (0, 0)) →
      Calls Tryd.prog 46 #[.slice (some ⟨b, 0, none⟩) 2 2] W4 fun e W5 => ∃ a' : Pl, e = .returned (.slice (some ⟨a'.g, a'.o, none⟩) (p.length + q.length) a'.cap) ∧ a'.cap ≤ maxLen ∧ St (W5.setCell ⟨g, i, none⟩ (.slice (some ⟨a'.g, a'.o, none⟩) (p.length + q.length) a'.cap)) s most v (L.set i a') (P.set i (p ++ q)) ∧ Touch (Owns s v L) w (W5.setCell ⟨g, i, none⟩ (.slice (some ⟨a'.g, a'.o, none⟩) (p.length + q.length) a'.cap)) ∧ (∀ k, Owns s v (L.set i a') k → Owns s v L k ∨ w.heap.size ≤ k) ∧ Below w.heap.size w W5) := Lib.hid (fun W4 hb b hxb => by
    refine (Concat_any (p := p) (q := q) (a := a) (d := d) hxb (hA.below hb) (hD.below hb) hac ⟨hmd, hdc⟩ h1 (by omega)).mono ?_
    rintro e W5 ⟨G, hG, rfl, hA5, hb5⟩
    have hbw := hb.trans (hb5.mono hb.size)
    obtain ⟨h3, h4⟩ := h.upd (a' := ⟨W4.heap.size, 0, G⟩) (p' := p ++ q) hv ha hp hA5 (by rw [List.length_append]; exact hG) (.inr ⟨hb.size, hbw⟩)
    have hpv : plV ⟨W4.heap.size, 0, G⟩ (p ++ q) = .slice (some ⟨W4.heap.size, 0, none⟩) (p.length + q.length) G := by unfold plV; rw [List.length_append]
    rw [hpv] at h3 h4
    refine ⟨⟨W4.heap.size, 0, G⟩, rfl, hA5.max, h3, h4, fun k hk => ?_, hbw⟩
    rcases hk with rfl | hk | ⟨x, hx, rfl⟩
    · exact .inl (.inl rfl)
    · exact .inl (.inr (.inl hk))
    · rcases List.mem_or_eq_of_mem_set hx with hx | rfl
      · exact .inl (.inr (.inr ⟨x, hx, rfl⟩))
      · exact .inr hb.size)
  have hrow := h.row
  rw [hv] at hrow
  obtain ⟨hPA, _, _⟩ := hrow.area (pgsV_one L P)
  have HT : Hid (∀ W, Below w.heap.size w W → (W.cell? ⟨g, i, none⟩).isSome = true ∧ W.frozen? ⟨g, i, none⟩ = false) := Lib.hid (fun W hW => by
    obtain ⟨q1, q2⟩ := (hPA.below hW).there i (by omega)
    rw [Nat.zero_add] at q1 q2
    exact ⟨q1, q2⟩)
  have HDEL : Hid (∀ W (L' : List Pl), St W s most v L' (P.set i (p ++ q)) → Calls Tryd.prog 43 #[.slice (some ⟨g, 0, none⟩) P.length c, .int .i64 ((i : Int) + 1), .int .i64 ((i : Int) + 2)] W fun e W5 => e = .returned (.slice (some ⟨g, 0, none⟩) (P.length - 1) c) ∧ StPost W s most v L' ((P.set i (p ++ q)).eraseIdx (i + 1)) (W5.setCell ⟨s, 1, none⟩ (.slice (some ⟨g, 0, none⟩) (P.length - 1) c)) ∧ (W5.cell? ⟨s, 1, none⟩).isSome = true ∧ W5.frozen? ⟨s, 1, none⟩ = false) := Lib.hid (fun W L' h' => by
    have hlen : (P.set i (p ++ q)).length = P.length := List.length_set
    have hr := h'.row
    rw [hv, hlen] at hr
    obtain ⟨hPA', hn1, hl1⟩ := hr.area (pgsV_one _ _)
    have hD' := deleteP hPA' (k := i + 1) (n := P.length) (m := P.length - 1) (by omega) (by omega) (by omega) (by omega) (by omega)
    have e2 : (((i + 1 : Nat) : Int) + 1) = (i : Int) + 2 := by omega
    have e1 : ((i + 1 : Nat) : Int) = (i : Int) + 1 := by omega
    rw [e2, e1] at hD'
    refine hD'.mono ?_
    rintro e W5 ⟨rfl, hA5, hT5⟩
    rw [hv, ← hlen] at h'
    obtain ⟨_, h4, h5, h6⟩ := h'.erased (k := i + 1) (by omega) (Below.refl _ _) hA5 hT5 (by omega)
    rw [hlen] at h4
    rw [hv]
    exact ⟨rfl, h4, h5, h6⟩)
  have hiI : (i : Int) + 1 < (P.length : Int) := by omega
  have hi0 : (i : Int) < (P.length : Int) := by omega
  have hi00 : i < P.length := by omega
  have hlP : (P.length : Int) ≤ 256 := by omega
  unfold maxLen at hc2 hmx hmd
  have HNE : Hid (g ≠ s) := Lib.hid hgs
  have HKS : Hid (∀ (W : World) (u : Value), W.cell? ⟨s, 1, none⟩ = some (.slice (some ⟨g, 0, none⟩) P.length c) → (W.setCell ⟨g, i, none⟩ u).cell? ⟨s, 1, none⟩ = some (.slice (some ⟨g, 0, none⟩) P.length c)) := Lib.hid (fun W u hW => by rw [World.cell?_setCell_far _ _ _ _ (show g ≠ s from hgs)]; exact hW)
  have HKQ : Hid (∀ (W : World) (u : Value), W.cell? ⟨g, i + 1, none⟩ = some (.slice (some ⟨d.g, d.o, none⟩) q.length d.cap) → (W.setCell ⟨g, i, none⟩ u).cell? ⟨g, i + 1, none⟩ = some (.slice (some ⟨d.g, d.o, none⟩) q.length d.cap)) := Lib.hid (fun W u hW => by rw [World.cell?_setCell_other _ _ _ _ (by intro e; injection e with _ e; omega)]; exact hW)
  clear h hA hD hPA hrow hp hq ha hd hv hv2 hvg hgs kp kq ks
  have hw1 : IntKind.i64.wrap ((i : Int) + 1) = (i : Int) + 1 := IntWalk.i64_in _ (by omega)
  have hw2 : IntKind.i64.wrap ((i : Int) + 2) = (i : Int) + 2 := IntWalk.i64_in _ (by omega)
  go_enter Tryd.func45, Tryd.ntmps45
  go_wp2_with fail
  have hbn := below_new (w := w) (.cells #[.slice (some ⟨a.g, a.o, none⟩) p.length a.cap, .slice (some ⟨d.g, d.o, none⟩) q.length d.cap] 28)
  have HCALL := Lib.hid (HCON.out (w.alloc (.cells #[.slice (some ⟨a.g, a.o, none⟩) p.length a.cap, .slice (some ⟨d.g, d.o, none⟩) q.length d.cap] 28)).drew (below_drew hbn) w.heap.size (alloc_at w _))
  have hg1 := HG.out _ (below_drew (Below.refl _ w))
  have HKB := Lib.hid (HC.out _ hbn)
  clear hbn HCON
  refine wp_only ?_
  refine wp_region_held_drew (S := fun W => W.cell? ⟨s, 1, none⟩ = some (.slice (some ⟨g, 0, none⟩) P.length c) ∧ W.cell? ⟨g, i + 1, none⟩ = some (.slice (some ⟨d.g, d.o, none⟩) q.length d.cap)) (by kernel_rfl) (HC.out _ (below_drew (Below.refl _ _))) (fun hHeld => ?_)
  refine wpAnyH_take (i := 0) (oi := { dst := some 4, op := Op.move (Operand.tmp 0), type := 24, pos := "change.go:84", after := #[], guard := none }) (v := ?vv1) rfl (by kernel_rfl) (by kernel_rfl) (by kernel_rfl) (fun _ _ _ h => h) ?hy1 (by assumption) ?rest1
  case hy1 => (refine Or.inl ⟨by rfl, ?_⟩; intro W hSw; (try dsimp only at hSw); go_simp; (try with_reducible rfl))
  try simp only [Act.put, List.setIfInBounds_toArray, List.set_cons_zero, List.set_cons_succ]
  refine wpAnyH_take (i := 1) (oi := { dst := some 5, op := Op.nilCheck (Operand.tmp 4), type := 0, pos := "change.go:84", after := #[{ on := 0, ground := Ground.data }], guard := none }) (v := ?vv2) rfl (by kernel_rfl) (by kernel_rfl) (by kernel_rfl) (fun _ _ _ h => h) ?hy2 (by assumption) ?rest2
  case hy2 => (refine Or.inl ⟨by rfl, ?_⟩; intro W hSw; (try dsimp only at hSw); go_simp; (try with_reducible rfl))
  try simp only [Act.put, List.setIfInBounds_toArray, List.set_cons_zero, List.set_cons_succ]
  refine wpAnyH_take (i := 2) (oi := { dst := some 6, op := Op.fieldAddr 63 (Operand.tmp 5) 1, type := 0, pos := "change.go:84", after := #[{ on := 1, ground := Ground.data }], guard := none }) (v := ?vv3) rfl (by kernel_rfl) (by kernel_rfl) (by kernel_rfl) (fun _ _ _ h => h) ?hy3 (by assumption) ?rest3
  case hy3 => (refine Or.inl ⟨by rfl, ?_⟩; intro W hSw; (try dsimp only at hSw); go_simp; (try with_reducible rfl))
  try simp only [Act.put, List.setIfInBounds_toArray, List.set_cons_zero, List.set_cons_succ]
  refine wpAnyH_take (i := 3) (oi := { dst := some 7, op := Op.load 46 (Operand.tmp 6), type := 46, pos := "change.go:84", after := #[{ on := 2, ground := Ground.data }], guard := none }) (v := ?vv4) rfl (by kernel_rfl) (by kernel_rfl) (by kernel_rfl) (fun _ _ _ h => h) ?hy4 (by assumption) ?rest4
  case hy4 => (refine Or.inl ⟨by rfl, ?_⟩; intro W hSw; (try dsimp only at hSw); go_simp; (try with_reducible rfl))
  try simp only [Act.put, List.setIfInBounds_toArray, List.set_cons_zero, List.set_cons_succ]
  refine wpAnyH_take (i := 4) (oi := { dst := some 8, op := Op.move (Operand.tmp 1), type := 3, pos := "change.go:84", after := #[], guard := none }) (v := ?vv5) rfl (by kernel_rfl) (by kernel_rfl) (by kernel_rfl) (fun _ _ _ h => h) ?hy5 (by assumption) ?rest5
  case hy5 => (refine Or.inl ⟨by rfl, ?_⟩; intro W hSw; (try dsimp only at hSw); go_simp; (try with_reducible rfl))
  try simp only [Act.put, List.setIfInBounds_toArray, List.set_cons_zero, List.set_cons_succ]
  refine wpAnyH_take (i := 5) (oi := { dst := some 9, op := Op.move (Operand.tmp 0), type := 24, pos := "change.go:84", after := #[], guard := none }) (v := ?vv6) rfl (by kernel_rfl) (by kernel_rfl) (by kernel_rfl) (fun _ _ _ h => h) ?hy6 (by assumption) ?rest6
  case hy6 => (refine Or.inl ⟨by rfl, ?_⟩; intro W hSw; (try dsimp only at hSw); go_simp; (try with_reducible rfl))
  try simp only [Act.put, List.setIfInBounds_toArray, List.set_cons_zero, List.set_cons_succ]
  refine wpAnyH_take (i := 6) (oi := { dst := some 10, op := Op.nilCheck (Operand.tmp 9), type := 0, pos := "change.go:84", after := #[{ on := 5, ground := Ground.data }], guard := none }) (v := ?vv7) rfl (by kernel_rfl) (by kernel_rfl) (by kernel_rfl) (fun _ _ _ h => h) ?hy7 (by assumption) ?rest7
  case hy7 => (refine Or.inl ⟨by rfl, ?_⟩; intro W hSw; (try dsimp only at hSw); go_simp; (try with_reducible rfl))
  try simp only [Act.put, List.setIfInBounds_toArray, List.set_cons_zero, List.set_cons_succ]
  refine wpAnyH_take (i := 7) (oi := { dst := some 11, op := Op.fieldAddr 63 (Operand.tmp 10) 1, type := 0, pos := "change.go:84", after := #[{ on := 6, ground := Ground.data }], guard := none }) (v := ?vv8) rfl (by kernel_rfl) (by kernel_rfl) (by kernel_rfl) (fun _ _ _ h => h) ?hy8 (by assumption) ?rest8
  case hy8 => (refine Or.inl ⟨by rfl, ?_⟩; intro W hSw; (try dsimp only at hSw); go_simp; (try with_reducible rfl))
  try simp only [Act.put, List.setIfInBounds_toArray, List.set_cons_zero, List.set_cons_succ]
  refine wpAnyH_take (i := 8) (oi := { dst := some 12, op := Op.load 46 (Operand.tmp 11), type := 46, pos := "change.go:84", after := #[{ on := 7, ground := Ground.data }], guard := none }) (v := ?vv9) rfl (by kernel_rfl) (by kernel_rfl) (by kernel_rfl) (fun _ _ _ h => h) ?hy9 (by assumption) ?rest9
  case hy9 => (refine Or.inl ⟨by rfl, ?_⟩; intro W hSw; (try dsimp only at hSw); go_simp; (try with_reducible rfl))
  try simp only [Act.put, List.setIfInBounds_toArray, List.set_cons_zero, List.set_cons_succ]
  refine wpAnyH_take (i := 9) (oi := { dst := some 13, op := Op.move (Operand.tmp 1), type := 3, pos := "change.go:84", after := #[], guard := none }) (v := ?vv10) rfl (by kernel_rfl) (by kernel_rfl) (by kernel_rfl) (fun _ _ _ h => h) ?hy10 (by assumption) ?rest10
  case hy10 => (refine Or.inl ⟨by rfl, ?_⟩; intro W hSw; (try dsimp only at hSw); go_simp; (try with_reducible rfl))
  try simp only [Act.put, List.setIfInBounds_toArray, List.set_cons_zero, List.set_cons_succ]
  refine wpAnyH_take (i := 10) (oi := { dst := some 14, op := Op.indexAddr 46 (Operand.tmp 12) (Operand.tmp 13), type := 0, pos := "change.go:84", after := #[{ on := 8, ground := Ground.data }, { on := 9, ground := Ground.data }], guard := none }) (v := ?vv11) rfl (by kernel_rfl) (by kernel_rfl) (by kernel_rfl) (fun _ _ _ h => h) ?hy11 (by assumption) ?rest11
  case hy11 => (refine Or.inl ⟨by rfl, ?_⟩; intro W hSw; (try dsimp only at hSw); go_simp; (try with_reducible rfl))
  try simp only [Act.put, List.setIfInBounds_toArray, List.set_cons_zero, List.set_cons_succ]
  refine wpAnyH_take (i := 12) (oi := { dst := some 16, op := Op.move (Operand.tmp 0), type := 24, pos := "change.go:84", after := #[], guard := none }) (v := ?vv12) rfl (by kernel_rfl) (by kernel_rfl) (by kernel_rfl) (fun _ _ _ h => h) ?hy12 (by assumption) ?rest12
  case hy12 => (refine Or.inl ⟨by rfl, ?_⟩; intro W hSw; (try dsimp only at hSw); go_simp; (try with_reducible rfl))
  try simp only [Act.put, List.setIfInBounds_toArray, List.set_cons_zero, List.set_cons_succ]
  refine wpAnyH_take (i := 13) (oi := { dst := some 17, op := Op.nilCheck (Operand.tmp 16), type := 0, pos := "change.go:84", after := #[{ on := 12, ground := Ground.data }], guard := none }) (v := ?vv13) rfl (by kernel_rfl) (by kernel_rfl) (by kernel_rfl) (fun _ _ _ h => h) ?hy13 (by assumption) ?rest13
  case hy13 => (refine Or.inl ⟨by rfl, ?_⟩; intro W hSw; (try dsimp only at hSw); go_simp; (try with_reducible rfl))
  try simp only [Act.put, List.setIfInBounds_toArray, List.set_cons_zero, List.set_cons_succ]
  refine wpAnyH_take (i := 14) (oi := { dst := some 18, op := Op.fieldAddr 63 (Operand.tmp 17) 1, type := 0, pos := "change.go:84", after := #[{ on := 13, ground := Ground.data }], guard := none }) (v := ?vv14) rfl (by kernel_rfl) (by kernel_rfl) (by kernel_rfl) (fun _ _ _ h => h) ?hy14 (by assumption) ?rest14
  case hy14 => (refine Or.inl ⟨by rfl, ?_⟩; intro W hSw; (try dsimp only at hSw); go_simp; (try with_reducible rfl))
  try simp only [Act.put, List.setIfInBounds_toArray, List.set_cons_zero, List.set_cons_succ]
  refine wpAnyH_take (i := 15) (oi := { dst := some 19, op := Op.load 46 (Operand.tmp 18), type := 46, pos := "change.go:84", after := #[{ on := 14, ground := Ground.data }], guard := none }) (v := ?vv15) rfl (by kernel_rfl) (by kernel_rfl) (by kernel_rfl) (fun _ _ _ h => h) ?hy15 (by assumption) ?rest15
  case hy15 => (refine Or.inl ⟨by rfl, ?_⟩; intro W hSw; (try dsimp only at hSw); go_simp; (try with_reducible rfl))
  try simp only [Act.put, List.setIfInBounds_toArray, List.set_cons_zero, List.set_cons_succ]
  refine wpAnyH_take (i := 16) (oi := { dst := some 20, op := Op.move (Operand.tmp 1), type := 3, pos := "change.go:84", after := #[], guard := none }) (v := ?vv16) rfl (by kernel_rfl) (by kernel_rfl) (by kernel_rfl) (fun _ _ _ h => h) ?hy16 (by assumption) ?rest16
  case hy16 => (refine Or.inl ⟨by rfl, ?_⟩; intro W hSw; (try dsimp only at hSw); go_simp; (try with_reducible rfl))
  try simp only [Act.put, List.setIfInBounds_toArray, List.set_cons_zero, List.set_cons_succ]
  refine wpAnyH_take (i := 17) (oi := { dst := some 21, op := Op.binOp BinOp.add 3 (Operand.tmp 20) (Operand.const (Value.int IntKind.i64 1)) 3, type := 3, pos := "change.go:84", after := #[{ on := 16, ground := Ground.data }], guard := none }) (v := ?vv17) rfl (by kernel_rfl) (by kernel_rfl) (by kernel_rfl) (fun _ _ _ h => h) ?hy17 (by assumption) ?rest17
  case hy17 => (refine Or.inl ⟨by rfl, ?_⟩; intro W hSw; (try dsimp only at hSw); go_simp; (try with_reducible rfl))
  try simp only [Act.put, List.setIfInBounds_toArray, List.set_cons_zero, List.set_cons_succ]
  refine wpAnyH_take (i := 18) (oi := { dst := some 22, op := Op.indexAddr 46 (Operand.tmp 19) (Operand.tmp 21), type := 0, pos := "change.go:84", after := #[{ on := 15, ground := Ground.data }, { on := 17, ground := Ground.data }], guard := none }) (v := (.pointer (some ⟨g, i + 1, none⟩))) rfl (by kernel_rfl) (by kernel_rfl) (by kernel_rfl) (fun _ _ _ h => h) ?hy18 (by assumption) ?rest18
  case hy18 => ((refine Or.inl ⟨by rfl, ?_⟩; intro W hSw; go_simp; intro h; omega))
  try simp only [Act.put, List.setIfInBounds_toArray, List.set_cons_zero, List.set_cons_succ]
  refine wpAnyH_take (i := 19) (oi := { dst := some 23, op := Op.load 28 (Operand.tmp 22), type := 28, pos := "change.go:84", after := #[{ on := 18, ground := Ground.data }], guard := none }) (v := ?vv19) rfl (by kernel_rfl) (by kernel_rfl) (by kernel_rfl) (fun _ _ _ h => h) ?hy19 (by assumption) ?rest19
  case hy19 => (refine Or.inl ⟨by rfl, ?_⟩; intro W hSw; (try dsimp only at hSw); go_simp; (try with_reducible rfl))
  try simp only [Act.put, List.setIfInBounds_toArray, List.set_cons_zero, List.set_cons_succ]
  refine wpAnyH_ready (rs := [11]) (by kernel_rfl) (by simp) ?_
  refine AllReadyH.cons (o := { dst := some 15, op := Op.load 28 (Operand.tmp 14), type := 28, pos := "change.go:84", after := #[{ on := 10, ground := Ground.data }], guard := none }) rfl (fun K hK => ?step20) ?more20
  case more20 => exact AllReadyH.nil
  (go_simp)
  refine hK.out _ _ ?hS20 (fun hHeld => ?rr20)
  case hS20 => (exact HC.out _ (below_drew (Below.refl _ _)))
  clear hK K
  try simp only [Act.put, List.setIfInBounds_toArray, List.set_cons_zero, List.set_cons_succ]
  refine wpAnyH_ready (rs := [20]) (by kernel_rfl) (by simp) ?_
  refine AllReadyH.cons (o := { dst := some 24, op := Op.buildSlice 46 2 #[(0, Operand.tmp 15), (1, Operand.tmp 23)], type := 46, pos := "change.go:84", after := #[{ on := 11, ground := Ground.data }, { on := 19, ground := Ground.data }], guard := none }) rfl (fun K hK => ?step21) ?more21
  case more21 => exact AllReadyH.nil
  (go_simp)
  refine hK.out _ _ ?hS21 (fun hHeld => ?rr21)
  case hS21 => (exact HKB.out)
  clear hK K
  try simp only [Act.put, List.setIfInBounds_toArray, List.set_cons_zero, List.set_cons_succ]
  refine wpAnyH_ready (rs := [21]) (by kernel_rfl) (by simp) ?_
  refine AllReadyH.cons (o := { dst := some 25, op := Op.call { callee := Callee.value (Operand.func 46), args := #[Operand.tmp 24], argTypes := #[46] }, type := 28, pos := "change.go:84", after := #[{ on := 20, ground := Ground.data }], guard := none }) rfl (fun K hK => ?step22) ?more22
  case more22 => exact AllReadyH.nil
  ((go_simp; go_at_call 46; refine (HCALL.out).mono ?_; rintro e w5 ⟨a', rfl, h3, h4, h5, h6, h9⟩; have HB5 := Lib.hid h9; clear h9; go_wp2_with fail))
  refine hK.out _ _ ?hS22 (fun hHeld => ?rr22)
  case hS22 => (exact HC.out _ HB5.out)
  clear hK K
  try simp only [Act.put, List.setIfInBounds_toArray, List.set_cons_zero, List.set_cons_succ]
  obtain ⟨q1, q2⟩ := HT.out _ HB5.out
  obtain ⟨xx, q1⟩ := Option.isSome_iff_exists.1 q1
  obtain ⟨hk1, hk2⟩ := HC.out _ HB5.out
  have HK5 := Lib.hid (And.intro (HKS.out w5 (.slice (some ⟨a'.g, a'.o, none⟩) (p.length + q.length) a'.cap) hk1) (HKQ.out w5 (.slice (some ⟨a'.g, a'.o, none⟩) (p.length + q.length) a'.cap) hk2))
  have H4 := Lib.hid h4
  have H5 := Lib.hid h5
  have H6 := Lib.hid h6
  clear h4 h5 h6 hk1 hk2 HCALL
  refine wpAnyH_take (i := 22) (oi := { dst := some 26, op := Op.indexAddr 46 (Operand.tmp 7) (Operand.tmp 8), type := 0, pos := "change.go:84", after := #[{ on := 3, ground := Ground.data }, { on := 4, ground := Ground.data }, { on := 0, ground := Ground.phase }, { on := 1, ground := Ground.phase }, { on := 2, ground := Ground.phase }, { on := 3, ground := Ground.phase }, { on := 4, ground := Ground.phase }, { on := 5, ground := Ground.phase }, { on := 6, ground := Ground.phase }, { on := 7, ground := Ground.phase }, { on := 8, ground := Ground.phase }, { on := 9, ground := Ground.phase }, { on := 10, ground := Ground.phase }, { on := 11, ground := Ground.phase }, { on := 12, ground := Ground.phase }, { on := 13, ground := Ground.phase }, { on := 14, ground := Ground.phase }, { on := 15, ground := Ground.phase }, { on := 16, ground := Ground.phase }, { on := 17, ground := Ground.phase }, { on := 18, ground := Ground.phase }, { on := 19, ground := Ground.phase }, { on := 20, ground := Ground.phase }, { on := 21, ground := Ground.phase }], guard := none }) (v := ?vv23) rfl (by kernel_rfl) (by kernel_rfl) (by kernel_rfl) (fun _ _ _ h => h) ?hy23 (by assumption) ?rest23
  case hy23 => (refine Or.inl ⟨by rfl, ?_⟩; intro W hSw; (try dsimp only at hSw); go_simp; (try with_reducible rfl))
  try simp only [Act.put, List.setIfInBounds_toArray, List.set_cons_zero, List.set_cons_succ]
  refine wpAnyH_ready (rs := [23]) (by kernel_rfl) (by simp) ?_
  refine AllReadyH.cons (o := { dst := none, op := Op.store 28 (Operand.tmp 26) (Operand.tmp 25), type := 0, pos := "change.go:84", after := #[{ on := 22, ground := Ground.data }, { on := 21, ground := Ground.data }, { on := 21, ground := Ground.chain }, { on := 0, ground := Ground.phase }, { on := 1, ground := Ground.phase }, { on := 2, ground := Ground.phase }, { on := 3, ground := Ground.phase }, { on := 4, ground := Ground.phase }, { on := 5, ground := Ground.phase }, { on := 6, ground := Ground.phase }, { on := 7, ground := Ground.phase }, { on := 8, ground := Ground.phase }, { on := 9, ground := Ground.phase }, { on := 10, ground := Ground.phase }, { on := 11, ground := Ground.phase }, { on := 12, ground := Ground.phase }, { on := 13, ground := Ground.phase }, { on := 14, ground := Ground.phase }, { on := 15, ground := Ground.phase }, { on := 16, ground := Ground.phase }, { on := 17, ground := Ground.phase }, { on := 18, ground := Ground.phase }, { on := 19, ground := Ground.phase }, { on := 20, ground := Ground.phase }, { on := 21, ground := Ground.phase }], guard := none }) rfl (fun K hK => ?step24) ?more24
  case more24 => exact AllReadyH.nil
  (go_simp)
  refine hK.out _ _ ?hS24 (fun hHeld => ?rr24)
  case hS24 => (exact HK5.out)
  clear hK K
  try simp only [Act.put, List.setIfInBounds_toArray, List.set_cons_zero, List.set_cons_succ]
  refine wpAnyH_done (by kernel_rfl) ?_ _
  clear hHeld q1 q2 HC HG HT HKS HKQ HKB hg1
  dsimp only [onlyN]
  obtain ⟨d2, _⟩ := HK5.out
  obtain ⟨W6, hW6⟩ : ∃ W6, W6 = w5.setCell ⟨g, i, none⟩ (.slice (some ⟨a'.g, a'.o, none⟩) (p.length + q.length) a'.cap) := ⟨_, rfl⟩
  rw [← hW6] at d2 H4 H5 ⊢
  have HD := Lib.hid (HDEL.out W6 _ H4.out)
  have HFIN := Lib.hid (fun (W : World) (hq : StPost W6 s most v (L.set i a') ((P.set i (p ++ q)).eraseIdx (i + 1)) W) => StPost.trans H5.out H6.out hq)
  clear hW6 HDEL HK5 H4 H5 H6 HB5
  go_wp2_with fail
  refine (HD.out).mono ?_
  rintro e w7 ⟨rfl, hpost, q1, q2⟩
  obtain ⟨xx, q1⟩ := Option.isSome_iff_exists.1 q1
  have HF7 := Lib.hid (HFIN.out _ hpost)
  clear hpost HFIN HD
  go_wp2_with fail
  go_end0
  exact ⟨rfl, by rw [HJ.out]; exact HF7.out⟩
end Go.Proofs.YtkkfgdibficifaaDoor
