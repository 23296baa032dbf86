/- The document's own net in memory: Deliver of a packet that there is. (gennraf.py wrote it.) -/
import Derived.Test.YtmbonngjkgcijaaGreatDoorZMeiD
set_option linter.unusedSimpArgs false
set_option linter.unusedVariables false
set_option linter.unnecessarySimpa false
namespace Go.Proofs.YtmbonngjkgcijaaGreatDoor
open Go.RowKit Go.Shelf
section
variable {w : World} {r : Nat} {v : Value} {most : Int} {ct : Nat → Bool}
theorem rp_field (a b c : Value) (W : World) : (Instr.field 102 (.agg #[a, b, c]) 0).run Tryz.prog W = .ok a W := by kernel_rfl
/-- What Deliver of a packet that may come leaves and answers. -/
def RDelOk (w : World) (r : Nat) (most : Int) (L : List RP) (ct : Nat → Bool) (j : Nat) (bs : List UInt8) (e : Ending) (w' : World) : Prop := RPost w r most (L.eraseIdx j) ct w' ∧ ((decM bs = none ∧ e = .returned (.tuple #[.agg (cellM zM none 0 none 0), .int .i64 6])) ∨ ∃ m tA tc oA oc, decM bs = some m ∧ e = .returned (.tuple #[.agg (cellM m tA tc oA oc), .int .i64 0]) ∧ MsgIs w' (.agg (cellM m tA tc oA oc)) m)
set_option maxRecDepth 100000 in
set_option maxHeartbeats 4000000 in
theorem rndel_busy {L : List RP} (h : RNt w r v most L ct) {j s : Nat} {x : RP} (hj : L[j]? = some x) (hs : x.site = (s : Int)) (hs4 : s < 4) (hw : 0 ≤ x.waits) (hb : 0 < x.waits ∨ ct s = true) :
    Calls Tryz.prog 50 #[.pointer (some ⟨r, 0, none⟩), .int .i64 j] w fun e w' => e = .returned (.tuple #[.agg (cellM zM none 0 none 0), .int .i64 20]) ∧ Below w.heap.size w w' := by
  have HSI := Lib.hid hs
  have hb0 := below_new (w := w) (.cells zeroC 37)
  have hat0 := alloc_at w (.cells zeroC 37)
  obtain ⟨W0, hW0⟩ : ∃ W, W = w.alloc (.cells zeroC 37) := ⟨_, rfl⟩
  have hs0 : W0.heap.size = w.heap.size + 1 := by rw [hW0, asz]
  rw [← hW0] at hb0 hat0
  have hjl := (List.getElem?_eq_some_iff.1 hj).1
  obtain ⟨g, cp, rfl, e0, e1, e2⟩ := rp_cells h.row hj
  have HC : Hid (∀ W, Below w.heap.size w W → W.cell? ⟨r, 1, none⟩ = some (.slice (some ⟨g, 0, none⟩) L.length cp) ∧ W.cell? ⟨g, j * 3 + 1, none⟩ = some (.int .i64 x.site) ∧ W.cell? ⟨g, j * 3 + 2, none⟩ = some (.int .i64 x.waits) ∧ W.cell? ⟨r, 2 + s, none⟩ = some (.bool (ct s))) := Lib.hid (fun W hW => by
    have e := (h.below hW).head
    have e' := rp_cells (h.below hW).row hj
    obtain ⟨g', cp', q, q0, q1, q2⟩ := e'
    cases q
    refine ⟨cell_of e 1, q1, q2, ?_⟩
    match s, hs4 with
    | 0, _ => exact cell_of e 2
    | 1, _ => exact cell_of e 3
    | 2, _ => exact cell_of e 4
    | 3, _ => exact cell_of e 5)
  have HW0 := Lib.hid hW0
  have HA0 := Lib.hid (And.intro hat0 (And.intro hb0 hs0))
  have HZ := Lib.hid (box_end (m := zM) (tA := none) (oA := none) (tc := 0) (oc := 0) (W := W0) hat0)
  have HH := Lib.hid (And.intro h (And.intro hj hjl))
  have q0 : (s : Int) < 4 := by omega
  have q1 : decide ((j : Int) < 0) = false := decide_eq_false (by omega)
  have q2 : decide ((j : Int) ≥ (L.length : Int)) = false := decide_eq_false (by omega)
  have q3 : (j : Int) < (L.length : Int) := by omega
  have hcase : 0 < x.waits ∨ (¬ 0 < x.waits ∧ ct s = true) := by
    by_cases h0 : 0 < x.waits
    · exact .inl h0
    · exact .inr ⟨h0, hb.resolve_left h0⟩
  clear h hj hs hb hb0 hat0 hs0 hW0 hjl e0 e1 e2 hw
  go_enter Tryz.func50, Tryz.ntmps50
  go_upto_region 1 with fail
  change Code.wp _ _ _ _ (World.alloc w (.cells zeroC 37))
  rw [← HW0.out]
  have kr0 := (HC.out _ HA0.out.2.1).1
  go_upto_region 3 with fail
  clear kr0
  refine wp_only ?_
  refine wp_region_held_drew (S := fun W => W.cell? ⟨r, 1, none⟩ = some (.slice (some ⟨g, 0, none⟩) L.length cp) ∧ W.cell? ⟨g, j * 3 + 1, none⟩ = some (.int .i64 (s : Int)) ∧ W.cell? ⟨g, j * 3 + 2, none⟩ = some (.int .i64 x.waits) ∧ W.cell? ⟨r, 2 + s, none⟩ = some (.bool (ct s))) (by kernel_rfl) (by have := HC.out _ (below_drew HA0.out.2.1); rw [HSI.out] at this; exact this) (fun hHeld => ?_)
  refine tkH (i := 0) (oi := { dst := some 20, op := .move (.tmp 0), type := 28, pos := "ref.go:56", after := #[], guard := none }) (v := ?vv1) ?hy1 ?rest1
  case hy1 => (refine Or.inl ⟨by rfl, ?_⟩; intro W hSw; (try dsimp only at hSw); go_simp; (try with_reducible rfl))
  try simp only [Act.put, pzz]
  refine tkH (i := 1) (oi := { dst := some 21, op := .nilCheck (.tmp 20), type := 0, pos := "ref.go:56", after := #[⟨0, .data⟩], guard := none }) (v := ?vv2) ?hy2 ?rest2
  case hy2 => (refine Or.inl ⟨by rfl, ?_⟩; intro W hSw; (try dsimp only at hSw); go_simp; (try with_reducible rfl))
  try simp only [Act.put, pzz]
  refine tkH (i := 2) (oi := { dst := some 22, op := .fieldAddr 32 (.tmp 21) 1, type := 0, pos := "ref.go:56", after := #[⟨1, .data⟩], guard := none }) (v := ?vv3) ?hy3 ?rest3
  case hy3 => (refine Or.inl ⟨by rfl, ?_⟩; intro W hSw; (try dsimp only at hSw); go_simp; (try with_reducible rfl))
  try simp only [Act.put, pzz]
  refine tkH (i := 3) (oi := { dst := some 23, op := .load 29 (.tmp 22), type := 29, pos := "ref.go:56", after := #[⟨2, .data⟩], guard := none }) (v := ?vv4) ?hy4 ?rest4
  case hy4 => (refine Or.inl ⟨by rfl, ?_⟩; intro W hSw; (try dsimp only at hSw); go_simp; (try with_reducible rfl))
  try simp only [Act.put, pzz]
  refine tkH (i := 4) (oi := { dst := some 24, op := .move (.tmp 1), type := 3, pos := "ref.go:56", after := #[], guard := none }) (v := ?vv5) ?hy5 ?rest5
  case hy5 => (refine Or.inl ⟨by rfl, ?_⟩; intro W hSw; (try dsimp only at hSw); go_simp; (try with_reducible rfl))
  try simp only [Act.put, pzz]
  refine tkH (i := 5) (oi := { dst := some 25, op := .indexAddr 29 (.tmp 23) (.tmp 24), type := 0, pos := "ref.go:56", after := #[⟨3, .data⟩, ⟨4, .data⟩], guard := none }) (v := ?vv6) ?hy6 ?rest6
  case hy6 => (refine Or.inl ⟨by rfl, ?_⟩; intro W hSw; (try dsimp only at hSw); go_simp; (try with_reducible rfl))
  try simp only [Act.put, pzz]
  refine tkH (i := 6) (oi := { dst := some 26, op := .fieldAddr 102 (.tmp 25) 2, type := 0, pos := "ref.go:56", after := #[⟨5, .data⟩], guard := none }) (v := ?vv7) ?hy7 ?rest7
  case hy7 => (refine Or.inl ⟨by rfl, ?_⟩; intro W hSw; (try dsimp only at hSw); go_simp; (try with_reducible rfl))
  try simp only [Act.put, pzz]
  refine tkH (i := 7) (oi := { dst := some 27, op := .load 3 (.tmp 26), type := 3, pos := "ref.go:56", after := #[⟨6, .data⟩], guard := none }) (v := ?vv8) ?hy8 ?rest8
  case hy8 => (refine Or.inl ⟨by rfl, ?_⟩; intro W hSw; (try dsimp only at hSw); go_simp; (try with_reducible rfl))
  try simp only [Act.put, pzz]
  obtain ⟨W6, hW6, h6, hT6⟩ := HZ.out
  rcases hcase with h0 | ⟨h0, h1⟩
  · refine tkH (i := 8) (oi := { dst := some 28, op := .binOp .gtr 3 (.tmp 27) (.const (.int .i64 0)) 3, type := 4, pos := "ref.go:56", after := #[⟨7, .data⟩], guard := none }) (v := (.bool true)) ?hy9 ?rest9
    case hy9 => ((refine Or.inl ⟨by rfl, ?_⟩; intro W hSw; (try dsimp only at hSw); go_simp; (try exact h0); (try exact decide_eq_true h0)))
    try simp only [Act.put, pzz]
    refine tkH (i := 9) (oi := { dst := some 29, op := .move (.tmp 28), type := 4, pos := "ref.go:56", after := #[⟨8, .data⟩], guard := none }) (v := ?vv10) ?hy10 ?rest10
    case hy10 => (refine Or.inl ⟨by rfl, ?_⟩; intro W hSw; (try dsimp only at hSw); go_simp; (try with_reducible rfl))
    try simp only [Act.put, pzz]
    refine tkH (i := 10) (oi := { dst := some 30, op := .move (.tmp 0), type := 28, pos := "ref.go:56", after := #[⟨9, .guard⟩], guard := some (9, false) }) (v := undef) ?hy11 ?rest11
    case hy11 => (exact Or.inr ⟨by rfl, rfl⟩)
    try simp only [Act.put, pzz]
    refine tkH (i := 11) (oi := { dst := some 31, op := .move (.tmp 0), type := 28, pos := "ref.go:56", after := #[⟨9, .guard⟩], guard := some (9, false) }) (v := undef) ?hy12 ?rest12
    case hy12 => (exact Or.inr ⟨by rfl, rfl⟩)
    try simp only [Act.put, pzz]
    refine tkH (i := 12) (oi := { dst := some 32, op := .nilCheck (.tmp 31), type := 0, pos := "ref.go:56", after := #[⟨11, .data⟩, ⟨9, .guard⟩], guard := some (9, false) }) (v := undef) ?hy13 ?rest13
    case hy13 => (exact Or.inr ⟨by rfl, rfl⟩)
    try simp only [Act.put, pzz]
    refine tkH (i := 13) (oi := { dst := some 33, op := .fieldAddr 32 (.tmp 32) 1, type := 0, pos := "ref.go:56", after := #[⟨12, .data⟩, ⟨9, .guard⟩], guard := some (9, false) }) (v := undef) ?hy14 ?rest14
    case hy14 => (exact Or.inr ⟨by rfl, rfl⟩)
    try simp only [Act.put, pzz]
    refine tkH (i := 14) (oi := { dst := some 34, op := .load 29 (.tmp 33), type := 29, pos := "ref.go:56", after := #[⟨13, .data⟩, ⟨9, .guard⟩], guard := some (9, false) }) (v := undef) ?hy15 ?rest15
    case hy15 => (exact Or.inr ⟨by rfl, rfl⟩)
    try simp only [Act.put, pzz]
    refine tkH (i := 15) (oi := { dst := some 35, op := .move (.tmp 1), type := 3, pos := "ref.go:56", after := #[⟨9, .guard⟩], guard := some (9, false) }) (v := undef) ?hy16 ?rest16
    case hy16 => (exact Or.inr ⟨by rfl, rfl⟩)
    try simp only [Act.put, pzz]
    refine tkH (i := 16) (oi := { dst := some 36, op := .indexAddr 29 (.tmp 34) (.tmp 35), type := 0, pos := "ref.go:56", after := #[⟨14, .data⟩, ⟨15, .data⟩, ⟨9, .guard⟩], guard := some (9, false) }) (v := undef) ?hy17 ?rest17
    case hy17 => (exact Or.inr ⟨by rfl, rfl⟩)
    try simp only [Act.put, pzz]
    refine tkH (i := 17) (oi := { dst := some 37, op := .fieldAddr 102 (.tmp 36) 1, type := 0, pos := "ref.go:56", after := #[⟨16, .data⟩, ⟨9, .guard⟩], guard := some (9, false) }) (v := undef) ?hy18 ?rest18
    case hy18 => (exact Or.inr ⟨by rfl, rfl⟩)
    try simp only [Act.put, pzz]
    refine tkH (i := 18) (oi := { dst := some 38, op := .load 3 (.tmp 37), type := 3, pos := "ref.go:56", after := #[⟨17, .data⟩, ⟨9, .guard⟩], guard := some (9, false) }) (v := undef) ?hy19 ?rest19
    case hy19 => (exact Or.inr ⟨by rfl, rfl⟩)
    try simp only [Act.put, pzz]
    refine tkH (i := 19) (oi := { dst := some 39, op := .nilCheck (.tmp 30), type := 0, pos := "ref.go:56", after := #[⟨10, .data⟩, ⟨9, .guard⟩], guard := some (9, false) }) (v := undef) ?hy20 ?rest20
    case hy20 => (exact Or.inr ⟨by rfl, rfl⟩)
    try simp only [Act.put, pzz]
    refine tkH (i := 20) (oi := { dst := some 40, op := .fieldAddr 32 (.tmp 39) 2, type := 0, pos := "ref.go:56", after := #[⟨19, .data⟩, ⟨9, .guard⟩], guard := some (9, false) }) (v := undef) ?hy21 ?rest21
    case hy21 => (exact Or.inr ⟨by rfl, rfl⟩)
    try simp only [Act.put, pzz]
    refine tkH (i := 21) (oi := { dst := some 41, op := .indexAddr 30 (.tmp 40) (.tmp 38), type := 0, pos := "ref.go:56", after := #[⟨20, .data⟩, ⟨18, .data⟩, ⟨9, .guard⟩], guard := some (9, false) }) (v := undef) ?hy22 ?rest22
    case hy22 => (exact Or.inr ⟨by rfl, rfl⟩)
    try simp only [Act.put, pzz]
    refine tkH (i := 22) (oi := { dst := some 42, op := .load 4 (.tmp 41), type := 4, pos := "ref.go:56", after := #[⟨21, .data⟩, ⟨9, .guard⟩], guard := some (9, false) }) (v := undef) ?hy23 ?rest23
    case hy23 => (exact Or.inr ⟨by rfl, rfl⟩)
    try simp only [Act.put, pzz]
    refine tkH (i := 23) (oi := { dst := some 43, op := .pick (.tmp 29) (.const (.bool true)) (.tmp 42), type := 4, pos := "ref.go:56", after := #[⟨9, .data⟩, ⟨22, .data⟩], guard := none }) (v := ?vv24) ?hy24 ?rest24
    case hy24 => (refine Or.inl ⟨by rfl, ?_⟩; intro W hSw; (try dsimp only at hSw); go_simp; (try with_reducible rfl))
    try simp only [Act.put, pzz]
    refine wpAnyH_done (by kernel_rfl) ?_ _
    clear hHeld
    dsimp only [onlyN]
    have c0 := cell_of HA0.out.1 0; have c1 := cell_of HA0.out.1 1; have c2 := cell_of HA0.out.1 2; have c3 := cell_of HA0.out.1 3; have c4 := cell_of HA0.out.1 4; have c5 := cell_of HA0.out.1 5; have c6 := cell_of HA0.out.1 6; have c7 := cell_of HA0.out.1 7; have c8 := cell_of HA0.out.1 8; have c9 := cell_of HA0.out.1 9; have c10 := cell_of HA0.out.1 10
    simp at c0 c1 c2 c3 c4 c5 c6 c7 c8 c9 c10
    have f0 := free0 HA0.out.1 0; have f1 := free0 HA0.out.1 1; have f2 := free0 HA0.out.1 2; have f3 := free0 HA0.out.1 3; have f4 := free0 HA0.out.1 4; have f5 := free0 HA0.out.1 5; have f6 := free0 HA0.out.1 6; have f7 := free0 HA0.out.1 7; have f8 := free0 HA0.out.1 8; have f9 := free0 HA0.out.1 9; have f10 := free0 HA0.out.1 10
    go_wp2_with fail
    change bodyPost _ _ _ _ _ (World.drew (World.setCells _ w.heap.size 0 (cellM zM none 0 none 0).toList))
    rw [← hW6]
    clear c0 c1 c2 c3 c4 c5 c6 c7 c8 c9 c10 f0 f1 f2 f3 f4 f5 f6 f7 f8 f9 f10
    have j0 := cell_of h6 0; have j1 := cell_of h6 1; have j2 := cell_of h6 2; have j3 := cell_of h6 3; have j4 := cell_of h6 4; have j5 := cell_of h6 5; have j6 := cell_of h6 6; have j7 := cell_of h6 7; have j8 := cell_of h6 8; have j9 := cell_of h6 9; have j10 := cell_of h6 10
    simp at j0 j1 j2 j3 j4 j5 j6 j7 j8 j9 j10
    refine bodyPost_ret (v := .tuple #[.agg (cellM zM none 0 none 0), .int .i64 20]) (by simp [results, Tryz.results50, go_sem, j0, j1, j2, j3, j4, j5, j6, j7, j8, j9, j10]) rfl ?_
    exact ⟨rfl, below_drew (HA0.out.2.1.trans (hT6.below (fun i e => by rw [e]; exact Nat.le_refl _) HA0.out.2.1.size))⟩
  · refine tkH (i := 8) (oi := { dst := some 28, op := .binOp .gtr 3 (.tmp 27) (.const (.int .i64 0)) 3, type := 4, pos := "ref.go:56", after := #[⟨7, .data⟩], guard := none }) (v := (.bool false)) ?hy25 ?rest25
    case hy25 => ((refine Or.inl ⟨by rfl, ?_⟩; intro W hSw; (try dsimp only at hSw); go_simp; (try exact h0); (try exact decide_eq_false h0); (try omega)))
    try simp only [Act.put, pzz]
    refine tkH (i := 9) (oi := { dst := some 29, op := .move (.tmp 28), type := 4, pos := "ref.go:56", after := #[⟨8, .data⟩], guard := none }) (v := ?vv26) ?hy26 ?rest26
    case hy26 => (refine Or.inl ⟨by rfl, ?_⟩; intro W hSw; (try dsimp only at hSw); go_simp; (try with_reducible rfl))
    try simp only [Act.put, pzz]
    refine tkH (i := 10) (oi := { dst := some 30, op := .move (.tmp 0), type := 28, pos := "ref.go:56", after := #[⟨9, .guard⟩], guard := some (9, false) }) (v := ?vv27) ?hy27 ?rest27
    case hy27 => (refine Or.inl ⟨by rfl, ?_⟩; intro W hSw; (try dsimp only at hSw); go_simp; (try with_reducible rfl))
    try simp only [Act.put, pzz]
    refine tkH (i := 11) (oi := { dst := some 31, op := .move (.tmp 0), type := 28, pos := "ref.go:56", after := #[⟨9, .guard⟩], guard := some (9, false) }) (v := ?vv28) ?hy28 ?rest28
    case hy28 => (refine Or.inl ⟨by rfl, ?_⟩; intro W hSw; (try dsimp only at hSw); go_simp; (try with_reducible rfl))
    try simp only [Act.put, pzz]
    refine tkH (i := 12) (oi := { dst := some 32, op := .nilCheck (.tmp 31), type := 0, pos := "ref.go:56", after := #[⟨11, .data⟩, ⟨9, .guard⟩], guard := some (9, false) }) (v := ?vv29) ?hy29 ?rest29
    case hy29 => (refine Or.inl ⟨by rfl, ?_⟩; intro W hSw; (try dsimp only at hSw); go_simp; (try with_reducible rfl))
    try simp only [Act.put, pzz]
    refine tkH (i := 13) (oi := { dst := some 33, op := .fieldAddr 32 (.tmp 32) 1, type := 0, pos := "ref.go:56", after := #[⟨12, .data⟩, ⟨9, .guard⟩], guard := some (9, false) }) (v := ?vv30) ?hy30 ?rest30
    case hy30 => (refine Or.inl ⟨by rfl, ?_⟩; intro W hSw; (try dsimp only at hSw); go_simp; (try with_reducible rfl))
    try simp only [Act.put, pzz]
    refine tkH (i := 14) (oi := { dst := some 34, op := .load 29 (.tmp 33), type := 29, pos := "ref.go:56", after := #[⟨13, .data⟩, ⟨9, .guard⟩], guard := some (9, false) }) (v := ?vv31) ?hy31 ?rest31
    case hy31 => (refine Or.inl ⟨by rfl, ?_⟩; intro W hSw; (try dsimp only at hSw); go_simp; (try with_reducible rfl))
    try simp only [Act.put, pzz]
    refine tkH (i := 15) (oi := { dst := some 35, op := .move (.tmp 1), type := 3, pos := "ref.go:56", after := #[⟨9, .guard⟩], guard := some (9, false) }) (v := ?vv32) ?hy32 ?rest32
    case hy32 => (refine Or.inl ⟨by rfl, ?_⟩; intro W hSw; (try dsimp only at hSw); go_simp; (try with_reducible rfl))
    try simp only [Act.put, pzz]
    refine tkH (i := 16) (oi := { dst := some 36, op := .indexAddr 29 (.tmp 34) (.tmp 35), type := 0, pos := "ref.go:56", after := #[⟨14, .data⟩, ⟨15, .data⟩, ⟨9, .guard⟩], guard := some (9, false) }) (v := ?vv33) ?hy33 ?rest33
    case hy33 => (refine Or.inl ⟨by rfl, ?_⟩; intro W hSw; (try dsimp only at hSw); go_simp; (try with_reducible rfl))
    try simp only [Act.put, pzz]
    refine tkH (i := 17) (oi := { dst := some 37, op := .fieldAddr 102 (.tmp 36) 1, type := 0, pos := "ref.go:56", after := #[⟨16, .data⟩, ⟨9, .guard⟩], guard := some (9, false) }) (v := ?vv34) ?hy34 ?rest34
    case hy34 => (refine Or.inl ⟨by rfl, ?_⟩; intro W hSw; (try dsimp only at hSw); go_simp; (try with_reducible rfl))
    try simp only [Act.put, pzz]
    refine tkH (i := 18) (oi := { dst := some 38, op := .load 3 (.tmp 37), type := 3, pos := "ref.go:56", after := #[⟨17, .data⟩, ⟨9, .guard⟩], guard := some (9, false) }) (v := ?vv35) ?hy35 ?rest35
    case hy35 => (refine Or.inl ⟨by rfl, ?_⟩; intro W hSw; (try dsimp only at hSw); go_simp; (try with_reducible rfl))
    try simp only [Act.put, pzz]
    refine tkH (i := 19) (oi := { dst := some 39, op := .nilCheck (.tmp 30), type := 0, pos := "ref.go:56", after := #[⟨10, .data⟩, ⟨9, .guard⟩], guard := some (9, false) }) (v := ?vv36) ?hy36 ?rest36
    case hy36 => (refine Or.inl ⟨by rfl, ?_⟩; intro W hSw; (try dsimp only at hSw); go_simp; (try with_reducible rfl))
    try simp only [Act.put, pzz]
    refine tkH (i := 20) (oi := { dst := some 40, op := .fieldAddr 32 (.tmp 39) 2, type := 0, pos := "ref.go:56", after := #[⟨19, .data⟩, ⟨9, .guard⟩], guard := some (9, false) }) (v := ?vv37) ?hy37 ?rest37
    case hy37 => (refine Or.inl ⟨by rfl, ?_⟩; intro W hSw; (try dsimp only at hSw); go_simp; (try with_reducible rfl))
    try simp only [Act.put, pzz]
    refine tkH (i := 21) (oi := { dst := some 41, op := .indexAddr 30 (.tmp 40) (.tmp 38), type := 0, pos := "ref.go:56", after := #[⟨20, .data⟩, ⟨18, .data⟩, ⟨9, .guard⟩], guard := some (9, false) }) (v := ?vv38) ?hy38 ?rest38
    case hy38 => (refine Or.inl ⟨by rfl, ?_⟩; intro W hSw; (try dsimp only at hSw); go_simp; (try with_reducible rfl))
    try simp only [Act.put, pzz]
    refine tkH (i := 22) (oi := { dst := some 42, op := .load 4 (.tmp 41), type := 4, pos := "ref.go:56", after := #[⟨21, .data⟩, ⟨9, .guard⟩], guard := some (9, false) }) (v := (.bool true)) ?hy39 ?rest39
    case hy39 => ((refine Or.inl ⟨by rfl, ?_⟩; intro W hSw; (try dsimp only at hSw); have hSx := hSw.2.2.2; rw [h1] at hSx; clear hSw; go_simp; (try with_reducible rfl)))
    try simp only [Act.put, pzz]
    refine tkH (i := 23) (oi := { dst := some 43, op := .pick (.tmp 29) (.const (.bool true)) (.tmp 42), type := 4, pos := "ref.go:56", after := #[⟨9, .data⟩, ⟨22, .data⟩], guard := none }) (v := ?vv40) ?hy40 ?rest40
    case hy40 => (refine Or.inl ⟨by rfl, ?_⟩; intro W hSw; (try dsimp only at hSw); go_simp; (try with_reducible rfl))
    try simp only [Act.put, pzz]
    refine wpAnyH_done (by kernel_rfl) ?_ _
    clear hHeld
    dsimp only [onlyN]
    have c0 := cell_of HA0.out.1 0; have c1 := cell_of HA0.out.1 1; have c2 := cell_of HA0.out.1 2; have c3 := cell_of HA0.out.1 3; have c4 := cell_of HA0.out.1 4; have c5 := cell_of HA0.out.1 5; have c6 := cell_of HA0.out.1 6; have c7 := cell_of HA0.out.1 7; have c8 := cell_of HA0.out.1 8; have c9 := cell_of HA0.out.1 9; have c10 := cell_of HA0.out.1 10
    simp at c0 c1 c2 c3 c4 c5 c6 c7 c8 c9 c10
    have f0 := free0 HA0.out.1 0; have f1 := free0 HA0.out.1 1; have f2 := free0 HA0.out.1 2; have f3 := free0 HA0.out.1 3; have f4 := free0 HA0.out.1 4; have f5 := free0 HA0.out.1 5; have f6 := free0 HA0.out.1 6; have f7 := free0 HA0.out.1 7; have f8 := free0 HA0.out.1 8; have f9 := free0 HA0.out.1 9; have f10 := free0 HA0.out.1 10
    go_wp2_with fail
    change bodyPost _ _ _ _ _ (World.drew (World.setCells _ w.heap.size 0 (cellM zM none 0 none 0).toList))
    rw [← hW6]
    clear c0 c1 c2 c3 c4 c5 c6 c7 c8 c9 c10 f0 f1 f2 f3 f4 f5 f6 f7 f8 f9 f10
    have j0 := cell_of h6 0; have j1 := cell_of h6 1; have j2 := cell_of h6 2; have j3 := cell_of h6 3; have j4 := cell_of h6 4; have j5 := cell_of h6 5; have j6 := cell_of h6 6; have j7 := cell_of h6 7; have j8 := cell_of h6 8; have j9 := cell_of h6 9; have j10 := cell_of h6 10
    simp at j0 j1 j2 j3 j4 j5 j6 j7 j8 j9 j10
    refine bodyPost_ret (v := .tuple #[.agg (cellM zM none 0 none 0), .int .i64 20]) (by simp [results, Tryz.results50, go_sem, j0, j1, j2, j3, j4, j5, j6, j7, j8, j9, j10]) rfl ?_
    exact ⟨rfl, below_drew (HA0.out.2.1.trans (hT6.below (fun i e => by rw [e]; exact Nat.le_refl _) HA0.out.2.1.size))⟩
set_option maxRecDepth 100000 in
set_option maxHeartbeats 4000000 in
theorem rndel_ok {L : List RP} (h : RNt w r v most L ct) (hl : L.length ≤ 1000) {j s : Nat} {x : RP} (hj : L[j]? = some x) (hs : x.site = (s : Int)) (hs4 : s < 4) (hw : x.waits = 0) (hb : ct s = false) (hby : ∀ W, Touch (fun k => k = r) w W → BIs W x.v x.bs) :
    Calls Tryz.prog 50 #[.pointer (some ⟨r, 0, none⟩), .int .i64 j] w (RDelOk w r most L ct j x.bs) := by
  have HSI := Lib.hid hs
  have hb0 := below_new (w := w) (.cells zeroC 37)
  have hat0 := alloc_at w (.cells zeroC 37)
  obtain ⟨W0, hW0⟩ : ∃ W, W = w.alloc (.cells zeroC 37) := ⟨_, rfl⟩
  have hs0 : W0.heap.size = w.heap.size + 1 := by rw [hW0, asz]
  rw [← hW0] at hb0 hat0
  have hjl := (List.getElem?_eq_some_iff.1 hj).1
  obtain ⟨g, cp, rfl, e0, e1, e2⟩ := rp_cells h.row hj
  have HC : Hid (∀ W, Below w.heap.size w W → W.cell? ⟨r, 1, none⟩ = some (.slice (some ⟨g, 0, none⟩) L.length cp) ∧ W.cell? ⟨g, j * 3 + 1, none⟩ = some (.int .i64 x.site) ∧ W.cell? ⟨g, j * 3 + 2, none⟩ = some (.int .i64 x.waits) ∧ W.cell? ⟨r, 2 + s, none⟩ = some (.bool (ct s))) := Lib.hid (fun W hW => by
    have e := (h.below hW).head
    have e' := rp_cells (h.below hW).row hj
    obtain ⟨g', cp', q, q0, q1, q2⟩ := e'
    cases q
    refine ⟨cell_of e 1, q1, q2, ?_⟩
    match s, hs4 with
    | 0, _ => exact cell_of e 2
    | 1, _ => exact cell_of e 3
    | 2, _ => exact cell_of e 4
    | 3, _ => exact cell_of e 5)
  have HW0 := Lib.hid hW0
  have HA0 := Lib.hid (And.intro hat0 (And.intro hb0 hs0))
  have HZ := Lib.hid (box_end (m := zM) (tA := none) (oA := none) (tc := 0) (oc := 0) (W := W0) hat0)
  have HH := Lib.hid (And.intro h (And.intro hj hjl))
  have q0 : (s : Int) < 4 := by omega
  have q1 : decide ((j : Int) < 0) = false := decide_eq_false (by omega)
  have q2 : decide ((j : Int) ≥ (L.length : Int)) = false := decide_eq_false (by omega)
  have q3 : (j : Int) < (L.length : Int) := by omega
  have hLe : L = L.take j ++ x :: L.drop (j + 1) := by
    rw [← (List.getElem?_eq_some_iff.1 hj).2, List.getElem_cons_drop, List.take_append_drop]
  have hLr : L.eraseIdx j = L.take j ++ L.drop (j + 1) := List.eraseIdx_eq_take_drop_succ L j
  have hTK := rntake_any (w := W0.drew) (A := L.take j) (B := L.drop (j + 1)) (x := x) (by rw [← hLe]; exact h.below (below_drew hb0)) (by rw [← hLe]; omega)
  rw [← hLr, List.length_take, Nat.min_eq_left (Nat.le_of_lt hjl)] at hTK
  have hxa : x.a = #[.slice x.A x.bs.length x.cap, .int .i64 x.site, .int .i64 x.waits] := rfl
  rw [hxa] at hTK
  have HTK := Lib.hid hTK
  have HBY := Lib.hid hby
  have hr0 := heap_lt h.head
  have HR0 := Lib.hid hr0
  have h0 : ¬ 0 < x.waits := by omega
  clear h hj hs hb0 hat0 hs0 hW0 hjl e0 e1 e2 hw hTK hby hLe hLr hr0 HZ hxa
  go_enter Tryz.func50, Tryz.ntmps50
  go_upto_region 1 with fail
  change Code.wp _ _ _ _ (World.alloc w (.cells zeroC 37))
  rw [← HW0.out]
  have kr0 := (HC.out _ HA0.out.2.1).1
  go_upto_region 3 with fail
  clear kr0
  refine wp_only ?_
  refine wp_region_held_drew (S := fun W => W.cell? ⟨r, 1, none⟩ = some (.slice (some ⟨g, 0, none⟩) L.length cp) ∧ W.cell? ⟨g, j * 3 + 1, none⟩ = some (.int .i64 (s : Int)) ∧ W.cell? ⟨g, j * 3 + 2, none⟩ = some (.int .i64 x.waits) ∧ W.cell? ⟨r, 2 + s, none⟩ = some (.bool (ct s))) (by kernel_rfl) (by have := HC.out _ (below_drew HA0.out.2.1); rw [HSI.out] at this; exact this) (fun hHeld => ?_)
  refine tkH (i := 0) (oi := { dst := some 20, op := .move (.tmp 0), type := 28, pos := "ref.go:56", after := #[], guard := none }) (v := ?vv41) ?hy41 ?rest41
  case hy41 => (refine Or.inl ⟨by rfl, ?_⟩; intro W hSw; (try dsimp only at hSw); go_simp; (try with_reducible rfl))
  try simp only [Act.put, pzz]
  refine tkH (i := 1) (oi := { dst := some 21, op := .nilCheck (.tmp 20), type := 0, pos := "ref.go:56", after := #[⟨0, .data⟩], guard := none }) (v := ?vv42) ?hy42 ?rest42
  case hy42 => (refine Or.inl ⟨by rfl, ?_⟩; intro W hSw; (try dsimp only at hSw); go_simp; (try with_reducible rfl))
  try simp only [Act.put, pzz]
  refine tkH (i := 2) (oi := { dst := some 22, op := .fieldAddr 32 (.tmp 21) 1, type := 0, pos := "ref.go:56", after := #[⟨1, .data⟩], guard := none }) (v := ?vv43) ?hy43 ?rest43
  case hy43 => (refine Or.inl ⟨by rfl, ?_⟩; intro W hSw; (try dsimp only at hSw); go_simp; (try with_reducible rfl))
  try simp only [Act.put, pzz]
  refine tkH (i := 3) (oi := { dst := some 23, op := .load 29 (.tmp 22), type := 29, pos := "ref.go:56", after := #[⟨2, .data⟩], guard := none }) (v := ?vv44) ?hy44 ?rest44
  case hy44 => (refine Or.inl ⟨by rfl, ?_⟩; intro W hSw; (try dsimp only at hSw); go_simp; (try with_reducible rfl))
  try simp only [Act.put, pzz]
  refine tkH (i := 4) (oi := { dst := some 24, op := .move (.tmp 1), type := 3, pos := "ref.go:56", after := #[], guard := none }) (v := ?vv45) ?hy45 ?rest45
  case hy45 => (refine Or.inl ⟨by rfl, ?_⟩; intro W hSw; (try dsimp only at hSw); go_simp; (try with_reducible rfl))
  try simp only [Act.put, pzz]
  refine tkH (i := 5) (oi := { dst := some 25, op := .indexAddr 29 (.tmp 23) (.tmp 24), type := 0, pos := "ref.go:56", after := #[⟨3, .data⟩, ⟨4, .data⟩], guard := none }) (v := ?vv46) ?hy46 ?rest46
  case hy46 => (refine Or.inl ⟨by rfl, ?_⟩; intro W hSw; (try dsimp only at hSw); go_simp; (try with_reducible rfl))
  try simp only [Act.put, pzz]
  refine tkH (i := 6) (oi := { dst := some 26, op := .fieldAddr 102 (.tmp 25) 2, type := 0, pos := "ref.go:56", after := #[⟨5, .data⟩], guard := none }) (v := ?vv47) ?hy47 ?rest47
  case hy47 => (refine Or.inl ⟨by rfl, ?_⟩; intro W hSw; (try dsimp only at hSw); go_simp; (try with_reducible rfl))
  try simp only [Act.put, pzz]
  refine tkH (i := 7) (oi := { dst := some 27, op := .load 3 (.tmp 26), type := 3, pos := "ref.go:56", after := #[⟨6, .data⟩], guard := none }) (v := ?vv48) ?hy48 ?rest48
  case hy48 => (refine Or.inl ⟨by rfl, ?_⟩; intro W hSw; (try dsimp only at hSw); go_simp; (try with_reducible rfl))
  try simp only [Act.put, pzz]
  refine tkH (i := 8) (oi := { dst := some 28, op := .binOp .gtr 3 (.tmp 27) (.const (.int .i64 0)) 3, type := 4, pos := "ref.go:56", after := #[⟨7, .data⟩], guard := none }) (v := (.bool false)) ?hy49 ?rest49
  case hy49 => ((refine Or.inl ⟨by rfl, ?_⟩; intro W hSw; (try dsimp only at hSw); go_simp; (try exact h0); (try exact decide_eq_false h0); (try omega)))
  try simp only [Act.put, pzz]
  refine tkH (i := 9) (oi := { dst := some 29, op := .move (.tmp 28), type := 4, pos := "ref.go:56", after := #[⟨8, .data⟩], guard := none }) (v := ?vv50) ?hy50 ?rest50
  case hy50 => (refine Or.inl ⟨by rfl, ?_⟩; intro W hSw; (try dsimp only at hSw); go_simp; (try with_reducible rfl))
  try simp only [Act.put, pzz]
  refine tkH (i := 10) (oi := { dst := some 30, op := .move (.tmp 0), type := 28, pos := "ref.go:56", after := #[⟨9, .guard⟩], guard := some (9, false) }) (v := ?vv51) ?hy51 ?rest51
  case hy51 => (refine Or.inl ⟨by rfl, ?_⟩; intro W hSw; (try dsimp only at hSw); go_simp; (try with_reducible rfl))
  try simp only [Act.put, pzz]
  refine tkH (i := 11) (oi := { dst := some 31, op := .move (.tmp 0), type := 28, pos := "ref.go:56", after := #[⟨9, .guard⟩], guard := some (9, false) }) (v := ?vv52) ?hy52 ?rest52
  case hy52 => (refine Or.inl ⟨by rfl, ?_⟩; intro W hSw; (try dsimp only at hSw); go_simp; (try with_reducible rfl))
  try simp only [Act.put, pzz]
  refine tkH (i := 12) (oi := { dst := some 32, op := .nilCheck (.tmp 31), type := 0, pos := "ref.go:56", after := #[⟨11, .data⟩, ⟨9, .guard⟩], guard := some (9, false) }) (v := ?vv53) ?hy53 ?rest53
  case hy53 => (refine Or.inl ⟨by rfl, ?_⟩; intro W hSw; (try dsimp only at hSw); go_simp; (try with_reducible rfl))
  try simp only [Act.put, pzz]
  refine tkH (i := 13) (oi := { dst := some 33, op := .fieldAddr 32 (.tmp 32) 1, type := 0, pos := "ref.go:56", after := #[⟨12, .data⟩, ⟨9, .guard⟩], guard := some (9, false) }) (v := ?vv54) ?hy54 ?rest54
  case hy54 => (refine Or.inl ⟨by rfl, ?_⟩; intro W hSw; (try dsimp only at hSw); go_simp; (try with_reducible rfl))
  try simp only [Act.put, pzz]
  refine tkH (i := 14) (oi := { dst := some 34, op := .load 29 (.tmp 33), type := 29, pos := "ref.go:56", after := #[⟨13, .data⟩, ⟨9, .guard⟩], guard := some (9, false) }) (v := ?vv55) ?hy55 ?rest55
  case hy55 => (refine Or.inl ⟨by rfl, ?_⟩; intro W hSw; (try dsimp only at hSw); go_simp; (try with_reducible rfl))
  try simp only [Act.put, pzz]
  refine tkH (i := 15) (oi := { dst := some 35, op := .move (.tmp 1), type := 3, pos := "ref.go:56", after := #[⟨9, .guard⟩], guard := some (9, false) }) (v := ?vv56) ?hy56 ?rest56
  case hy56 => (refine Or.inl ⟨by rfl, ?_⟩; intro W hSw; (try dsimp only at hSw); go_simp; (try with_reducible rfl))
  try simp only [Act.put, pzz]
  refine tkH (i := 16) (oi := { dst := some 36, op := .indexAddr 29 (.tmp 34) (.tmp 35), type := 0, pos := "ref.go:56", after := #[⟨14, .data⟩, ⟨15, .data⟩, ⟨9, .guard⟩], guard := some (9, false) }) (v := ?vv57) ?hy57 ?rest57
  case hy57 => (refine Or.inl ⟨by rfl, ?_⟩; intro W hSw; (try dsimp only at hSw); go_simp; (try with_reducible rfl))
  try simp only [Act.put, pzz]
  refine tkH (i := 17) (oi := { dst := some 37, op := .fieldAddr 102 (.tmp 36) 1, type := 0, pos := "ref.go:56", after := #[⟨16, .data⟩, ⟨9, .guard⟩], guard := some (9, false) }) (v := ?vv58) ?hy58 ?rest58
  case hy58 => (refine Or.inl ⟨by rfl, ?_⟩; intro W hSw; (try dsimp only at hSw); go_simp; (try with_reducible rfl))
  try simp only [Act.put, pzz]
  refine tkH (i := 18) (oi := { dst := some 38, op := .load 3 (.tmp 37), type := 3, pos := "ref.go:56", after := #[⟨17, .data⟩, ⟨9, .guard⟩], guard := some (9, false) }) (v := ?vv59) ?hy59 ?rest59
  case hy59 => (refine Or.inl ⟨by rfl, ?_⟩; intro W hSw; (try dsimp only at hSw); go_simp; (try with_reducible rfl))
  try simp only [Act.put, pzz]
  refine tkH (i := 19) (oi := { dst := some 39, op := .nilCheck (.tmp 30), type := 0, pos := "ref.go:56", after := #[⟨10, .data⟩, ⟨9, .guard⟩], guard := some (9, false) }) (v := ?vv60) ?hy60 ?rest60
  case hy60 => (refine Or.inl ⟨by rfl, ?_⟩; intro W hSw; (try dsimp only at hSw); go_simp; (try with_reducible rfl))
  try simp only [Act.put, pzz]
  refine tkH (i := 20) (oi := { dst := some 40, op := .fieldAddr 32 (.tmp 39) 2, type := 0, pos := "ref.go:56", after := #[⟨19, .data⟩, ⟨9, .guard⟩], guard := some (9, false) }) (v := ?vv61) ?hy61 ?rest61
  case hy61 => (refine Or.inl ⟨by rfl, ?_⟩; intro W hSw; (try dsimp only at hSw); go_simp; (try with_reducible rfl))
  try simp only [Act.put, pzz]
  refine tkH (i := 21) (oi := { dst := some 41, op := .indexAddr 30 (.tmp 40) (.tmp 38), type := 0, pos := "ref.go:56", after := #[⟨20, .data⟩, ⟨18, .data⟩, ⟨9, .guard⟩], guard := some (9, false) }) (v := ?vv62) ?hy62 ?rest62
  case hy62 => (refine Or.inl ⟨by rfl, ?_⟩; intro W hSw; (try dsimp only at hSw); go_simp; (try with_reducible rfl))
  try simp only [Act.put, pzz]
  refine tkH (i := 22) (oi := { dst := some 42, op := .load 4 (.tmp 41), type := 4, pos := "ref.go:56", after := #[⟨21, .data⟩, ⟨9, .guard⟩], guard := some (9, false) }) (v := (.bool false)) ?hy63 ?rest63
  case hy63 => ((refine Or.inl ⟨by rfl, ?_⟩; intro W hSw; (try dsimp only at hSw); have hSx := hSw.2.2.2; rw [hb] at hSx; clear hSw; go_simp; (try with_reducible rfl)))
  try simp only [Act.put, pzz]
  refine tkH (i := 23) (oi := { dst := some 43, op := .pick (.tmp 29) (.const (.bool true)) (.tmp 42), type := 4, pos := "ref.go:56", after := #[⟨9, .data⟩, ⟨22, .data⟩], guard := none }) (v := ?vv64) ?hy64 ?rest64
  case hy64 => (refine Or.inl ⟨by rfl, ?_⟩; intro W hSw; (try dsimp only at hSw); go_simp; (try with_reducible rfl))
  try simp only [Act.put, pzz]
  refine wpAnyH_done (by kernel_rfl) ?_ _
  clear hHeld
  dsimp only [onlyN]
  go_wp2_with fail
  refine (HTK.out).mono ?_
  rintro e w2 ⟨rfl, v2, hn2, ht2, hv2⟩
  have hT02 : Touch (fun k => k = r) w w2 := (Touch.of_below (below_drew HA0.out.2.1)).trans ht2 (fun _ _ e => e)
  have HDE := Lib.hid (rdec_own (HBY.out w2 hT02))
  rw [decR_eq] at HDE
  have hat2 : w2.heap[w.heap.size]? = some (.cells zeroC 37 (0, 0)) := (ht2.block _ (by show w.heap.size < W0.heap.size; rw [HA0.out.2.2]; omega) (by have := HR0.out; omega)).trans HA0.out.1
  have hsz2 : w.heap.size < w2.heap.size := heap_lt hat2
  have hv2' : ∀ k, v2.ownBlock = some k → w.heap.size + 1 ≤ k := fun k e => by have := hv2 k e; rw [show W0.drew.heap.size = W0.heap.size from rfl, HA0.out.2.2] at this; exact this
  have HFIN : Hid (∀ W3 W4, Below w2.heap.size w2 W3 → Touch (fun k => k = w.heap.size) W3 W4 → RPost w r most (L.eraseIdx j) ct W4) := Lib.hid (fun W3 W4 h3 h4 => ⟨v2, (hn2.below h3).touch h4 (by have := HR0.out; omega) (fun k e q => by have := hv2' k e; omega), (hT02.trans (Touch.of_below h3) (fun _ _ e => e)).trans h4 (fun k hk e => by omega), fun k e => by have := hv2' k e; omega⟩)
  have HA2 := Lib.hid (And.intro hat2 hsz2)
  unfold RP.v at HDE
  have hfd := fun (a b c : Value) (W : World) => rp_field a b c W
  clear hn2 ht2 hv2 hT02 hat2 hsz2 hv2'
  go_wp2_with fail
  refine (HDE.out).mono ?_
  rintro e w3 ⟨hb3, hcs⟩
  have HB3 := Lib.hid hb3
  clear hb3
  rcases hcs with ⟨hd, rfl⟩ | ⟨m, v5, hd, rfl, hm⟩
  · have HD := Lib.hid hd
    clear hd
    have hb4 := below_new (w := w3) (.cells zeroC 37)
    obtain ⟨W4, hW4⟩ : ∃ W, W = w3.alloc (.cells zeroC 37) := ⟨_, rfl⟩
    rw [← hW4] at hb4
    have hb24 : Below w2.heap.size w2 W4 := HB3.out.trans (hb4.mono HB3.out.size)
    have hat4 := (hb24.block _ HA2.out.2).trans HA2.out.1
    obtain ⟨W6, hW6, h6, hT6⟩ := box_end (m := zM) (tA := none) (oA := none) (tc := 0) (oc := 0) hat4
    have HF := Lib.hid (HFIN.out W4 W6 hb24 hT6)
    have HW4 := Lib.hid hW4
    clear hb4 hW4 hb24
    go_upto_region 6 with fail
    change Code.wp _ _ _ _ (World.alloc w3 (.cells zeroC 37))
    rw [← HW4.out]
    have c0 := cell_of hat4 0; have c1 := cell_of hat4 1; have c2 := cell_of hat4 2; have c3 := cell_of hat4 3; have c4 := cell_of hat4 4; have c5 := cell_of hat4 5; have c6 := cell_of hat4 6; have c7 := cell_of hat4 7; have c8 := cell_of hat4 8; have c9 := cell_of hat4 9; have c10 := cell_of hat4 10
    simp at c0 c1 c2 c3 c4 c5 c6 c7 c8 c9 c10
    have f0 := free0 hat4 0; have f1 := free0 hat4 1; have f2 := free0 hat4 2; have f3 := free0 hat4 3; have f4 := free0 hat4 4; have f5 := free0 hat4 5; have f6 := free0 hat4 6; have f7 := free0 hat4 7; have f8 := free0 hat4 8; have f9 := free0 hat4 9; have f10 := free0 hat4 10
    go_wp2_with fail
    change bodyPost _ _ _ _ _ (World.setCells _ w.heap.size 0 (cellM zM none 0 none 0).toList)
    rw [← hW6]
    clear c0 c1 c2 c3 c4 c5 c6 c7 c8 c9 c10 f0 f1 f2 f3 f4 f5 f6 f7 f8 f9 f10
    have j0 := cell_of h6 0; have j1 := cell_of h6 1; have j2 := cell_of h6 2; have j3 := cell_of h6 3; have j4 := cell_of h6 4; have j5 := cell_of h6 5; have j6 := cell_of h6 6; have j7 := cell_of h6 7; have j8 := cell_of h6 8; have j9 := cell_of h6 9; have j10 := cell_of h6 10
    simp at j0 j1 j2 j3 j4 j5 j6 j7 j8 j9 j10
    refine bodyPost_ret (v := .tuple #[.agg (cellM zM none 0 none 0), .int .i64 6]) (by simp [results, Tryz.results50, go_sem, j0, j1, j2, j3, j4, j5, j6, j7, j8, j9, j10]) rfl ?_
    exact ⟨HF.out, .inl ⟨HD.out, rfl⟩⟩
  · obtain ⟨tA, tc, oA, oc, rfl, _⟩ := hm w3 (Touch.refl _ _)
    have HD := Lib.hid (And.intro hd hm)
    clear hd hm
    have hb4 := below_new (w := w3) (.cells (cellM m tA tc oA oc) 37)
    have hat4m := alloc_at w3 (.cells (cellM m tA tc oA oc) 37)
    obtain ⟨W4, hW4⟩ : ∃ W, W = w3.alloc (.cells (cellM m tA tc oA oc) 37) := ⟨_, rfl⟩
    rw [← hW4] at hb4 hat4m
    have hb24 : Below w2.heap.size w2 W4 := HB3.out.trans (hb4.mono HB3.out.size)
    have hat4 := (hb24.block _ HA2.out.2).trans HA2.out.1
    obtain ⟨W6, hW6, h6, hT6⟩ := box_end (m := m) (tA := tA) (oA := oA) (tc := tc) (oc := oc) hat4
    have HF := Lib.hid (HFIN.out W4 W6 hb24 hT6)
    have HMS := Lib.hid (HD.out.2 W6 ((Touch.of_below hb4 : Touch (fun k => k < w2.heap.size) _ _).trans hT6 (fun k hk e => by rw [e]; exact HA2.out.2)))
    have HW4 := Lib.hid hW4
    clear hb4 hW4 hb24
    go_upto_region 6 with fail
    change Code.wp _ _ _ _ (World.alloc w3 (.cells (cellM m tA tc oA oc) 37))
    rw [← HW4.out]
    have c0 := cell_of hat4 0; have c1 := cell_of hat4 1; have c2 := cell_of hat4 2; have c3 := cell_of hat4 3; have c4 := cell_of hat4 4; have c5 := cell_of hat4 5; have c6 := cell_of hat4 6; have c7 := cell_of hat4 7; have c8 := cell_of hat4 8; have c9 := cell_of hat4 9; have c10 := cell_of hat4 10
    simp at c0 c1 c2 c3 c4 c5 c6 c7 c8 c9 c10
    have f0 := free0 hat4 0; have f1 := free0 hat4 1; have f2 := free0 hat4 2; have f3 := free0 hat4 3; have f4 := free0 hat4 4; have f5 := free0 hat4 5; have f6 := free0 hat4 6; have f7 := free0 hat4 7; have f8 := free0 hat4 8; have f9 := free0 hat4 9; have f10 := free0 hat4 10; have d0 := cell_of hat4m 0; have d1 := cell_of hat4m 1; have d2 := cell_of hat4m 2; have d3 := cell_of hat4m 3; have d4 := cell_of hat4m 4; have d5 := cell_of hat4m 5; have d6 := cell_of hat4m 6; have d7 := cell_of hat4m 7; have d8 := cell_of hat4m 8; have d9 := cell_of hat4m 9; have d10 := cell_of hat4m 10
    simp at d0 d1 d2 d3 d4 d5 d6 d7 d8 d9 d10
    go_wp2_with fail
    change bodyPost _ _ _ _ _ (World.setCells _ w.heap.size 0 (cellM m tA tc oA oc).toList)
    rw [← hW6]
    clear c0 c1 c2 c3 c4 c5 c6 c7 c8 c9 c10 f0 f1 f2 f3 f4 f5 f6 f7 f8 f9 f10 d0 d1 d2 d3 d4 d5 d6 d7 d8 d9 d10
    have j0 := cell_of h6 0; have j1 := cell_of h6 1; have j2 := cell_of h6 2; have j3 := cell_of h6 3; have j4 := cell_of h6 4; have j5 := cell_of h6 5; have j6 := cell_of h6 6; have j7 := cell_of h6 7; have j8 := cell_of h6 8; have j9 := cell_of h6 9; have j10 := cell_of h6 10
    simp at j0 j1 j2 j3 j4 j5 j6 j7 j8 j9 j10
    refine bodyPost_ret (v := .tuple #[.agg (cellM m tA tc oA oc), .int .i64 0]) (by simp [results, Tryz.results50, go_sem, j0, j1, j2, j3, j4, j5, j6, j7, j8, j9, j10]) rfl ?_
    exact ⟨HF.out, .inr ⟨m, tA, tc, oA, oc, HD.out.1, rfl, HMS.out⟩⟩
end
end Go.Proofs.YtmbonngjkgcijaaGreatDoor
