/- write: between others, or behind the last one. -/
import Derived.Test.YtmaokoekbjjgfaaDoorZChaY
set_option linter.unusedSimpArgs false
set_option linter.unusedVariables false
set_option linter.unnecessarySimpa false
namespace Go.Proofs.YtmaokoekbjjgfaaDoor
open Go.RowKit Go.Shelf

theorem put_fin2 {w WI w2 : World} {c g cap : Nat} {v' : Value} {L L2 : List Ver} (hl2 : L2.length = L.length + 1) (hoff : (Value.slice (some ⟨g, 0, none⟩) L.length cap).ownBlock ≠ some c) (hc2 : w2.heap[c]? = some (.cells #[.slice (some ⟨g, 0, none⟩) L.length cap] 58 (0, 0))) (hrow : RowIs w2 5 v' (L.length + 1) (verC L2)) (hb : Below w.heap.size w WI) (hg : WI.grownBy w2 (some g)) (hblk : v'.ownBlock = some g ∨ v'.ownBlock = some WI.heap.size) (hcl : c < WI.heap.size) :
    ChAt (w2.setCell ⟨c, 0, none⟩ v') c v' L2 ∧ Touch (fun b => b = c ∨ some g = some b) w (w2.setCell ⟨c, 0, none⟩ v') ∧ (v'.ownBlock = some g ∨ ∃ b, v'.ownBlock = some b ∧ w.heap.size ≤ b) := by
  have hgc : g ≠ c := fun e => hoff (by rw [e]; rfl)
  have hne : ∀ b, v'.ownBlock = some b → b ≠ c := fun b hb2 e => by
    rcases hblk with h | h
    · rw [h] at hb2; injection hb2 with hb2; omega
    · rw [h] at hb2; injection hb2 with hb2; omega
  refine ⟨⟨?_, ?_, fun e => hne c e rfl⟩, ?_, ?_⟩
  · have := set_at hc2 0 v'
    simpa using this
  · rw [hl2]
    exact hrow.keep (by simp [World.setCell]) (fun b hb2 => Below.heap_setCell _ _ _ _ (hne b hb2))
  · exact ((Touch.of_below hb).grown hg (fun k hk _ => .inr hk)).setCell ⟨c, 0, none⟩ (fun _ => .inl rfl) v'
  · rcases hblk with h | h
    · exact .inl h
    · exact .inr ⟨_, h, hb.size⟩
set_option maxRecDepth 100000 in
set_option maxHeartbeats 1000000 in
theorem write_in {w : World} {c : Nat} {v : Value} {L : List Ver} {t m : Int} {th : Bool} {k : Nat} {u : Ver} (h : ChAt w c v L) (hr : Ris L) (hl : L.length ≤ 1000000) (ht : InR64 t) (ho : okT t = true) (hk : cnt L t = k + 1) (hu : L[k]? = some u) (hrd : ¬ t < u.read) (hut : u.at_ ≠ t) :
    Calls Tryd.prog 31 #[.pointer (some ⟨c, 0, none⟩), .agg #[.int .i64 t, .int .i64 m, .bool th, .int .i64 0, .bool false]] w fun e w' => ∃ v', e = .returned .nilIface ∧ ChAt w' c v' (L.take (k + 1) ++ ⟨t, m, th, 0, true⟩ :: L.drop (k + 1)) ∧ Touch (fun b => b = c ∨ v.ownBlock = some b) w w' ∧ (v'.ownBlock = v.ownBlock ∨ ∃ b, v'.ownBlock = some b ∧ w.heap.size ≤ b) := by
  have hf := findE_nil ho (L := L) (by omega)
  have HF := Lib.hid (fun (W : World) (hb : Below w.heap.size w W) => find_any (t := t) (h.below hb) hr hl ht)
  rw [hf] at HF
  have HC := Lib.hid h
  have hkl := (List.getElem?_eq_some_iff.1 hu).1
  have hkI : (k : Int) < (L.length : Int) := by omega
  have hlI : (L.length : Int) ≤ 1000000 := by omega
  have q0 : (t < u.read) = False := eq_false hrd
  have q1 : (u.at_ == t) = false := by simpa using hut
  clear h hf
  go_enter Tryd.func31, Tryd.ntmps31
  go_wp2_with fail
  refine (HF.out _ (below_new _)).mono ?_
  rintro e w1 ⟨i, ev, rfl, he, hi, hb⟩
  obtain rfl : ev = .nilIface := he.is
  replace hi := hi trivial
  rw [hk] at hi
  obtain rfl : i = (k : Int) := by rw [hi]; omega
  have hz := box_cells hb
  have HB := Lib.hid ((below_new (w := w) _).trans (hb.mono (by rw [asz]; omega)))
  have hC := HC.out.below HB.out
  obtain ⟨g, cap, rfl, hc1, hc2, _, k0, k1, k2, k3, k4⟩ := hC.row.ver hu
  have kc : w1.cell? ⟨c, 0, none⟩ = some (.slice (some ⟨g, 0, none⟩) L.length cap) := cell_of hC.head 0
  have b0 : w1.cell? ⟨w.heap.size, 0, none⟩ = some (.int .i64 t) := cell_of hz 0
  have hgl : g < w.heap.size := HC.out.row.lt g rfl
  have hcl : c < w.heap.size := heap_lt HC.out.head
  have HZ := Lib.hid hz
  have HU := Lib.hid hu
  have HCW := Lib.hid hC
  have HGL := Lib.hid hgl
  have HCL := Lib.hid hcl
  have z4 : w1.cell? ⟨w.heap.size, 4, none⟩ = some (.bool false) := cell_of hz 4
  have f4 := free0 hz 4
  have hS0 : (w1.setCell ⟨w.heap.size, 4, none⟩ (.bool true)).heap[w.heap.size]? = some (.cells #[.int .i64 t, .int .i64 m, .bool th, .int .i64 0, .bool true] 47 (0, 0)) := set_at hz 4 (.bool true)
  have HSA : Hid ((w1.setCell ⟨w.heap.size, 4, none⟩ (.bool true)).drew.drew.drew.heap[w.heap.size]? = some (.cells #[.int .i64 t, .int .i64 m, .bool th, .int .i64 0, .bool true] 47 (0, 0))) := Lib.hid hS0
  have hcn : (c = w.heap.size) = False := eq_false (by omega)
  have hcn2 : (w.heap.size = c) = False := eq_false (by omega)
  have hwr : IntKind.i64.wrap ((k : Int) + 1) = (k : Int) + 1 := IntWalk.i64_in _ (by omega)
  have hb1 : w.heap.size < w1.heap.size := heap_lt hz
  have hsz : (w1.setCell ⟨w.heap.size, 4, none⟩ (.bool true)).heap.size = w1.heap.size := by simp [World.setCell]
  obtain ⟨WI, hWI⟩ : ∃ WI, WI = ((w1.setCell ⟨w.heap.size, 4, none⟩ (.bool true)).alloc (.cells #[.int .i64 t, .int .i64 m, .bool th, .int .i64 0, .bool true] 47)).drew.drew.drew := ⟨_, rfl⟩
  have hbI : Below (w1.setCell ⟨w.heap.size, 4, none⟩ (.bool true)).heap.size (w1.setCell ⟨w.heap.size, 4, none⟩ (.bool true)) WI := by rw [hWI]; exact below_drew (below_drew (below_drew (below_new _)))
  have HBI : Hid (Below w.heap.size w WI) := Lib.hid ((HB.out.setCell (p := ⟨w.heap.size, 4, none⟩) (Nat.le_refl _) (.bool true)).trans (hbI.mono (by rw [hsz]; omega)))
  have hWb := (hbI.block w.heap.size (by rw [hsz]; exact hb1)).trans hS0
  have HWB := Lib.hid hWb
  have hWx : WI.heap[w1.heap.size]? = some (.cells #[.int .i64 t, .int .i64 m, .bool th, .int .i64 0, .bool true] 47 (0, 0)) := by
    have h3 := alloc_at (w1.setCell ⟨w.heap.size, 4, none⟩ (.bool true)) (.cells #[.int .i64 t, .int .i64 m, .bool th, .int .i64 0, .bool true] 47)
    rw [hsz] at h3
    rw [hWI]
    exact h3
  have hCI : ChAt WI c (.slice (some ⟨g, 0, none⟩) L.length cap) L := HC.out.below HBI.out
  have hLk : ((k + 1 : Nat) : Int) = (k : Int) + 1 := by omega
  have hIN := insert_any (i := k + 1) (x := ⟨t, m, th, 0, true⟩) hCI.row hl (by omega) (by omega) hWx (by omega)
  rw [hLk] at hIN
  have HIN := Lib.hid hIN
  have HLL : Hid ((L.take (k + 1) ++ (⟨t, m, th, 0, true⟩ : Ver) :: L.drop (k + 1)).length = L.length + 1) := Lib.hid (by rw [List.length_append, List.length_cons, List.length_take, List.length_drop, Nat.min_eq_left (by omega)]; omega)
  have hWl : w.heap.size < WI.heap.size := heap_lt hWb
  have HSI : Hid (∀ w2, WI.grownBy w2 (some g) → w2.heap[w.heap.size]? = some (.cells #[.int .i64 t, .int .i64 m, .bool th, .int .i64 0, .bool true] 47 (0, 0))) := Lib.hid (fun w2 hg => (hg.block w.heap.size hWl (fun e => by injection e with e; omega)).trans hWb)
  have hgc : g ≠ c := fun e => HC.out.off (by rw [e]; rfl)
  have HCI : Hid (∀ w2, WI.grownBy w2 (some g) → w2.heap[c]? = some (.cells #[.slice (some ⟨g, 0, none⟩) L.length cap] 58 (0, 0))) := Lib.hid (fun w2 hg => (hg.block c (by omega) (fun e => by injection e with e; exact hgc e.symm)).trans hCI.head)
  have KCI : Hid (WI.cell? ⟨c, 0, none⟩ = some (.slice (some ⟨g, 0, none⟩) L.length cap)) := Lib.hid (cell_of hCI.head 0)
  have HNE : Hid (w.heap.size ≠ c) := Lib.hid (by omega)
  have HWI := Lib.hid hWI
  clear hS0 hb1 hsz hWI hbI hWb hWx hCI hLk hIN hWl hgc
  have H5 : Hid (w1.drew.cell? ⟨g, k * 5, none⟩ = some (.int .i64 u.at_) ∧ w1.drew.cell? ⟨w.heap.size, 0, none⟩ = some (.int .i64 t)) := Lib.hid ⟨k0, b0⟩
  have H8 : Hid (∀ W : World, W.heap = w1.heap → W.cell? ⟨g, k * 5, none⟩ = some (.int .i64 u.at_) ∧ W.cell? ⟨w.heap.size, 0, none⟩ = some (.int .i64 t) ∧ W.cell? ⟨g, k * 5 + 3, none⟩ = some (.int .i64 u.read) ∧ W.cell? ⟨g, k * 5 + 4, none⟩ = some (.bool u.opn)) := Lib.hid (fun W hW => by
    unfold World.cell? at k0 b0 k3 k4 ⊢
    rw [hW]
    exact ⟨k0, b0, k3, k4⟩)
  have HSW : Hid (∀ W : World, Below w1.heap.size w1 W → W.cell? ⟨g, k * 5, none⟩ = some (.int .i64 u.at_) ∧ W.cell? ⟨w.heap.size, 0, none⟩ = some (.int .i64 t) ∧ W.cell? ⟨g, k * 5 + 3, none⟩ = some (.int .i64 u.read) ∧ W.cell? ⟨g, k * 5 + 4, none⟩ = some (.bool u.opn)) := Lib.hid (fun W hW => by
    have e1 : g < w1.heap.size := Nat.lt_of_lt_of_le hgl HB.out.size
    exact ⟨(hW.cell (p := ⟨g, k * 5, none⟩) e1).trans k0, (hW.cell (p := ⟨w.heap.size, 0, none⟩) (heap_lt hz)).trans b0, (hW.cell (p := ⟨g, k * 5 + 3, none⟩) e1).trans k3, (hW.cell (p := ⟨g, k * 5 + 4, none⟩) e1).trans k4⟩)
  clear he hb hz HF hi hC hc1 hc2 hu hr hl ht ho hk hkl hgl hcl hut
  go_wp2_with fail
  refine wp_only ?_
  refine wp_region_held_drew (S := fun W => W.cell? ⟨g, k * 5, none⟩ = some (.int .i64 u.at_) ∧ W.cell? ⟨w.heap.size, 0, none⟩ = some (.int .i64 t)) (by kernel_rfl) H5.out (fun hHeld => ?_)
  refine wpAnyH_take (i := 0) (oi := { dst := some 25, op := Op.move (Operand.tmp 7), type := 81, pos := "chain.go:146", after := #[], guard := none }) (v := ?vv1) rfl (by kernel_rfl) (by kernel_rfl) (by kernel_rfl) (fun _ _ _ h => h) ?hy1 (by assumption) ?rest1
  case hy1 => (refine Or.inl ⟨by rfl, ?_⟩; intro W hSw; (try dsimp only at hSw); go_simp; (try with_reducible rfl))
  try simp only [Act.put, List.setIfInBounds_toArray, List.set_cons_zero, List.set_cons_succ]
  refine wpAnyH_take (i := 1) (oi := { dst := some 26, op := Op.nilCheck (Operand.tmp 25), type := 0, pos := "chain.go:146", after := #[{ on := 0, ground := Ground.data }], guard := none }) (v := ?vv2) rfl (by kernel_rfl) (by kernel_rfl) (by kernel_rfl) (fun _ _ _ h => h) ?hy2 (by assumption) ?rest2
  case hy2 => (refine Or.inl ⟨by rfl, ?_⟩; intro W hSw; (try dsimp only at hSw); go_simp; (try with_reducible rfl))
  try simp only [Act.put, List.setIfInBounds_toArray, List.set_cons_zero, List.set_cons_succ]
  refine wpAnyH_take (i := 2) (oi := { dst := some 27, op := Op.fieldAddr 47 (Operand.tmp 26) 0, type := 0, pos := "chain.go:146", after := #[{ on := 1, ground := Ground.data }], guard := none }) (v := ?vv3) rfl (by kernel_rfl) (by kernel_rfl) (by kernel_rfl) (fun _ _ _ h => h) ?hy3 (by assumption) ?rest3
  case hy3 => (refine Or.inl ⟨by rfl, ?_⟩; intro W hSw; (try dsimp only at hSw); go_simp; (try with_reducible rfl))
  try simp only [Act.put, List.setIfInBounds_toArray, List.set_cons_zero, List.set_cons_succ]
  refine wpAnyH_take (i := 3) (oi := { dst := some 28, op := Op.load 3 (Operand.tmp 27), type := 3, pos := "chain.go:146", after := #[{ on := 2, ground := Ground.data }], guard := none }) (v := ?vv4) rfl (by kernel_rfl) (by kernel_rfl) (by kernel_rfl) (fun _ _ _ h => h) ?hy4 (by assumption) ?rest4
  case hy4 => (refine Or.inl ⟨by rfl, ?_⟩; intro W hSw; (try dsimp only at hSw); go_simp; (try with_reducible rfl))
  try simp only [Act.put, List.setIfInBounds_toArray, List.set_cons_zero, List.set_cons_succ]
  refine wpAnyH_take (i := 4) (oi := { dst := some 29, op := Op.fieldAddr 47 (Operand.tmp 3) 0, type := 0, pos := "chain.go:146", after := #[], guard := none }) (v := ?vv5) rfl (by kernel_rfl) (by kernel_rfl) (by kernel_rfl) (fun _ _ _ h => h) ?hy5 (by assumption) ?rest5
  case hy5 => (refine Or.inl ⟨by rfl, ?_⟩; intro W hSw; (try dsimp only at hSw); go_simp; (try with_reducible rfl))
  try simp only [Act.put, List.setIfInBounds_toArray, List.set_cons_zero, List.set_cons_succ]
  refine wpAnyH_take (i := 5) (oi := { dst := some 30, op := Op.load 3 (Operand.tmp 29), type := 3, pos := "chain.go:146", after := #[{ on := 4, ground := Ground.data }], guard := none }) (v := ?vv6) rfl (by kernel_rfl) (by kernel_rfl) (by kernel_rfl) (fun _ _ _ h => h) ?hy6 (by assumption) ?rest6
  case hy6 => (refine Or.inl ⟨by rfl, ?_⟩; intro W hSw; (try dsimp only at hSw); go_simp; (try with_reducible rfl))
  try simp only [Act.put, List.setIfInBounds_toArray, List.set_cons_zero, List.set_cons_succ]
  refine wpAnyH_take (i := 6) (oi := { dst := some 31, op := Op.binOp BinOp.eql 3 (Operand.tmp 28) (Operand.tmp 30) 3, type := 4, pos := "chain.go:146", after := #[{ on := 3, ground := Ground.data }, { on := 5, ground := Ground.data }], guard := none }) (v := ?vv7) rfl (by kernel_rfl) (by kernel_rfl) (by kernel_rfl) (fun _ _ _ h => h) ?hy7 (by assumption) ?rest7
  case hy7 => (refine Or.inl ⟨by rfl, ?_⟩; intro W hSw; (try dsimp only at hSw); go_simp; (try with_reducible rfl))
  try simp only [Act.put, List.setIfInBounds_toArray, List.set_cons_zero, List.set_cons_succ]
  refine wpAnyH_take (i := 7) (oi := { dst := some 8, op := Op.assign (Operand.tmp 31), type := 4, pos := "chain.go:146", after := #[{ on := 6, ground := Ground.data }, { on := 0, ground := Ground.phase }, { on := 1, ground := Ground.phase }, { on := 2, ground := Ground.phase }, { on := 3, ground := Ground.phase }, { on := 4, ground := Ground.phase }, { on := 5, ground := Ground.phase }, { on := 6, ground := Ground.phase }], guard := none }) (v := ?vv8) rfl (by kernel_rfl) (by kernel_rfl) (by kernel_rfl) (fun _ _ _ h => h) ?hy8 (by assumption) ?rest8
  case hy8 => (refine Or.inl ⟨by rfl, ?_⟩; intro W hSw; (try dsimp only at hSw); go_simp; (try with_reducible rfl))
  try simp only [Act.put, List.setIfInBounds_toArray, List.set_cons_zero, List.set_cons_succ]
  refine wpAnyH_done (by kernel_rfl) ?_ _
  clear hHeld
  dsimp only [onlyN]
  go_wp2_with fail
  refine wp_only ?_
  refine wp_region_held_drew (S := fun W => W.cell? ⟨g, k * 5, none⟩ = some (.int .i64 u.at_) ∧ W.cell? ⟨w.heap.size, 0, none⟩ = some (.int .i64 t) ∧ W.cell? ⟨g, k * 5 + 3, none⟩ = some (.int .i64 u.read) ∧ W.cell? ⟨g, k * 5 + 4, none⟩ = some (.bool u.opn)) (by kernel_rfl) (H8.out _ rfl) (fun hHeld => ?_)
  refine wpAnyH_take (i := 0) (oi := { dst := some 46, op := Op.move (Operand.tmp 7), type := 81, pos := "chain.go:148", after := #[], guard := none }) (v := ?vv9) rfl (by kernel_rfl) (by kernel_rfl) (by kernel_rfl) (fun _ _ _ h => h) ?hy9 (by assumption) ?rest9
  case hy9 => (refine Or.inl ⟨by rfl, ?_⟩; intro W hSw; (try dsimp only at hSw); go_simp; (try with_reducible rfl))
  try simp only [Act.put, List.setIfInBounds_toArray, List.set_cons_zero, List.set_cons_succ]
  refine wpAnyH_take (i := 1) (oi := { dst := some 47, op := Op.nilCheck (Operand.tmp 46), type := 0, pos := "chain.go:148", after := #[{ on := 0, ground := Ground.data }], guard := none }) (v := ?vv10) rfl (by kernel_rfl) (by kernel_rfl) (by kernel_rfl) (fun _ _ _ h => h) ?hy10 (by assumption) ?rest10
  case hy10 => (refine Or.inl ⟨by rfl, ?_⟩; intro W hSw; (try dsimp only at hSw); go_simp; (try with_reducible rfl))
  try simp only [Act.put, List.setIfInBounds_toArray, List.set_cons_zero, List.set_cons_succ]
  refine wpAnyH_take (i := 2) (oi := { dst := some 48, op := Op.fieldAddr 47 (Operand.tmp 47) 3, type := 0, pos := "chain.go:148", after := #[{ on := 1, ground := Ground.data }], guard := none }) (v := ?vv11) rfl (by kernel_rfl) (by kernel_rfl) (by kernel_rfl) (fun _ _ _ h => h) ?hy11 (by assumption) ?rest11
  case hy11 => (refine Or.inl ⟨by rfl, ?_⟩; intro W hSw; (try dsimp only at hSw); go_simp; (try with_reducible rfl))
  try simp only [Act.put, List.setIfInBounds_toArray, List.set_cons_zero, List.set_cons_succ]
  refine wpAnyH_take (i := 3) (oi := { dst := some 49, op := Op.load 3 (Operand.tmp 48), type := 3, pos := "chain.go:148", after := #[{ on := 2, ground := Ground.data }], guard := none }) (v := ?vv12) rfl (by kernel_rfl) (by kernel_rfl) (by kernel_rfl) (fun _ _ _ h => h) ?hy12 (by assumption) ?rest12
  case hy12 => (refine Or.inl ⟨by rfl, ?_⟩; intro W hSw; (try dsimp only at hSw); go_simp; (try with_reducible rfl))
  try simp only [Act.put, List.setIfInBounds_toArray, List.set_cons_zero, List.set_cons_succ]
  refine wpAnyH_take (i := 4) (oi := { dst := some 50, op := Op.fieldAddr 47 (Operand.tmp 3) 0, type := 0, pos := "chain.go:148", after := #[], guard := none }) (v := ?vv13) rfl (by kernel_rfl) (by kernel_rfl) (by kernel_rfl) (fun _ _ _ h => h) ?hy13 (by assumption) ?rest13
  case hy13 => (refine Or.inl ⟨by rfl, ?_⟩; intro W hSw; (try dsimp only at hSw); go_simp; (try with_reducible rfl))
  try simp only [Act.put, List.setIfInBounds_toArray, List.set_cons_zero, List.set_cons_succ]
  refine wpAnyH_take (i := 5) (oi := { dst := some 51, op := Op.load 3 (Operand.tmp 50), type := 3, pos := "chain.go:148", after := #[{ on := 4, ground := Ground.data }], guard := none }) (v := ?vv14) rfl (by kernel_rfl) (by kernel_rfl) (by kernel_rfl) (fun _ _ _ h => h) ?hy14 (by assumption) ?rest14
  case hy14 => (refine Or.inl ⟨by rfl, ?_⟩; intro W hSw; (try dsimp only at hSw); go_simp; (try with_reducible rfl))
  try simp only [Act.put, List.setIfInBounds_toArray, List.set_cons_zero, List.set_cons_succ]
  refine wpAnyH_take (i := 6) (oi := { dst := some 52, op := Op.binOp BinOp.gtr 3 (Operand.tmp 49) (Operand.tmp 51) 3, type := 4, pos := "chain.go:148", after := #[{ on := 3, ground := Ground.data }, { on := 5, ground := Ground.data }], guard := none }) (v := ?vv15) rfl (by kernel_rfl) (by kernel_rfl) (by kernel_rfl) (fun _ _ _ h => h) ?hy15 (by assumption) ?rest15
  case hy15 => (refine Or.inl ⟨by rfl, ?_⟩; intro W hSw; (try dsimp only at hSw); go_simp; (try with_reducible rfl))
  try simp only [Act.put, List.setIfInBounds_toArray, List.set_cons_zero, List.set_cons_succ]
  refine wpAnyH_take (i := 7) (oi := { dst := some 53, op := Op.move (Operand.tmp 52), type := 4, pos := "chain.go:148", after := #[{ on := 6, ground := Ground.data }], guard := none }) (v := ?vv16) rfl (by kernel_rfl) (by kernel_rfl) (by kernel_rfl) (fun _ _ _ h => h) ?hy16 (by assumption) ?rest16
  case hy16 => (refine Or.inl ⟨by rfl, ?_⟩; intro W hSw; (try dsimp only at hSw); go_simp; (try with_reducible rfl))
  try simp only [Act.put, List.setIfInBounds_toArray, List.set_cons_zero, List.set_cons_succ]
  refine wpAnyH_take (i := 8) (oi := { dst := some 54, op := Op.move (Operand.tmp 8), type := 4, pos := "chain.go:148", after := #[{ on := 7, ground := Ground.guard }], guard := some (7, false) }) (v := ?vv17) rfl (by kernel_rfl) (by kernel_rfl) (by kernel_rfl) (fun _ _ _ h => h) ?hy17 (by assumption) ?rest17
  case hy17 => (refine Or.inl ⟨by rfl, ?_⟩; intro W hSw; (try dsimp only at hSw); go_simp; (try with_reducible rfl))
  try simp only [Act.put, List.setIfInBounds_toArray, List.set_cons_zero, List.set_cons_succ]
  refine wpAnyH_take (i := 9) (oi := { dst := some 55, op := Op.move (Operand.tmp 54), type := 4, pos := "chain.go:148", after := #[{ on := 8, ground := Ground.data }, { on := 7, ground := Ground.chain }, { on := 7, ground := Ground.guard }], guard := some (7, false) }) (v := ?vv18) rfl (by kernel_rfl) (by kernel_rfl) (by kernel_rfl) (fun _ _ _ h => h) ?hy18 (by assumption) ?rest18
  case hy18 => (refine Or.inl ⟨by rfl, ?_⟩; intro W hSw; (try dsimp only at hSw); go_simp; (try with_reducible rfl))
  try simp only [Act.put, List.setIfInBounds_toArray, List.set_cons_zero, List.set_cons_succ]
  refine wpAnyH_take (i := 10) (oi := { dst := some 56, op := Op.move (Operand.tmp 7), type := 81, pos := "chain.go:148", after := #[{ on := 9, ground := Ground.guard }], guard := some (9, true) }) (v := undef) rfl (by kernel_rfl) (by kernel_rfl) (by kernel_rfl) (fun _ _ _ h => h) ?hy19 (by assumption) ?rest19
  case hy19 => (exact Or.inr ⟨by rfl, rfl⟩)
  try simp only [Act.put, List.setIfInBounds_toArray, List.set_cons_zero, List.set_cons_succ]
  refine wpAnyH_take (i := 11) (oi := { dst := some 57, op := Op.nilCheck (Operand.tmp 56), type := 0, pos := "chain.go:148", after := #[{ on := 10, ground := Ground.data }, { on := 9, ground := Ground.guard }], guard := some (9, true) }) (v := undef) rfl (by kernel_rfl) (by kernel_rfl) (by kernel_rfl) (fun _ _ _ h => h) ?hy20 (by assumption) ?rest20
  case hy20 => (exact Or.inr ⟨by rfl, rfl⟩)
  try simp only [Act.put, List.setIfInBounds_toArray, List.set_cons_zero, List.set_cons_succ]
  refine wpAnyH_take (i := 12) (oi := { dst := some 58, op := Op.fieldAddr 47 (Operand.tmp 57) 4, type := 0, pos := "chain.go:148", after := #[{ on := 11, ground := Ground.data }, { on := 9, ground := Ground.guard }], guard := some (9, true) }) (v := undef) rfl (by kernel_rfl) (by kernel_rfl) (by kernel_rfl) (fun _ _ _ h => h) ?hy21 (by assumption) ?rest21
  case hy21 => (exact Or.inr ⟨by rfl, rfl⟩)
  try simp only [Act.put, List.setIfInBounds_toArray, List.set_cons_zero, List.set_cons_succ]
  refine wpAnyH_take (i := 13) (oi := { dst := some 59, op := Op.load 4 (Operand.tmp 58), type := 4, pos := "chain.go:148", after := #[{ on := 12, ground := Ground.data }, { on := 9, ground := Ground.guard }], guard := some (9, true) }) (v := undef) rfl (by kernel_rfl) (by kernel_rfl) (by kernel_rfl) (fun _ _ _ h => h) ?hy22 (by assumption) ?rest22
  case hy22 => (exact Or.inr ⟨by rfl, rfl⟩)
  try simp only [Act.put, List.setIfInBounds_toArray, List.set_cons_zero, List.set_cons_succ]
  refine wpAnyH_take (i := 14) (oi := { dst := some 60, op := Op.unOp UnOp.not 4 (Operand.tmp 59), type := 4, pos := "chain.go:148", after := #[{ on := 13, ground := Ground.data }, { on := 9, ground := Ground.guard }], guard := some (9, true) }) (v := undef) rfl (by kernel_rfl) (by kernel_rfl) (by kernel_rfl) (fun _ _ _ h => h) ?hy23 (by assumption) ?rest23
  case hy23 => (exact Or.inr ⟨by rfl, rfl⟩)
  try simp only [Act.put, List.setIfInBounds_toArray, List.set_cons_zero, List.set_cons_succ]
  refine wpAnyH_take (i := 15) (oi := { dst := some 61, op := Op.pick (Operand.tmp 55) (Operand.tmp 60) (Operand.const (Value.bool false)), type := 4, pos := "chain.go:148", after := #[{ on := 9, ground := Ground.data }, { on := 14, ground := Ground.data }, { on := 7, ground := Ground.guard }], guard := some (7, false) }) (v := ?vv24) rfl (by kernel_rfl) (by kernel_rfl) (by kernel_rfl) (fun _ _ _ h => h) ?hy24 (by assumption) ?rest24
  case hy24 => (refine Or.inl ⟨by rfl, ?_⟩; intro W hSw; (try dsimp only at hSw); go_simp; (try with_reducible rfl))
  try simp only [Act.put, List.setIfInBounds_toArray, List.set_cons_zero, List.set_cons_succ]
  refine wpAnyH_take (i := 16) (oi := { dst := some 62, op := Op.pick (Operand.tmp 53) (Operand.const (Value.bool true)) (Operand.tmp 61), type := 4, pos := "chain.go:148", after := #[{ on := 7, ground := Ground.data }, { on := 15, ground := Ground.data }], guard := none }) (v := ?vv25) rfl (by kernel_rfl) (by kernel_rfl) (by kernel_rfl) (fun _ _ _ h => h) ?hy25 (by assumption) ?rest25
  case hy25 => (refine Or.inl ⟨by rfl, ?_⟩; intro W hSw; (try dsimp only at hSw); go_simp; (try with_reducible rfl))
  try simp only [Act.put, List.setIfInBounds_toArray, List.set_cons_zero, List.set_cons_succ]
  refine wpAnyH_take (i := 17) (oi := { dst := some 45, op := Op.assign (Operand.tmp 62), type := 4, pos := "chain.go:148", after := #[{ on := 16, ground := Ground.data }, { on := 9, ground := Ground.chain }], guard := none }) (v := ?vv26) rfl (by kernel_rfl) (by kernel_rfl) (by kernel_rfl) (fun _ _ _ h => h) ?hy26 (by assumption) ?rest26
  case hy26 => (refine Or.inl ⟨by rfl, ?_⟩; intro W hSw; (try dsimp only at hSw); go_simp; (try with_reducible rfl))
  try simp only [Act.put, List.setIfInBounds_toArray, List.set_cons_zero, List.set_cons_succ]
  refine wpAnyH_done (by kernel_rfl) ?_ _
  clear hHeld
  dsimp only [onlyN]
  go_wp2_with fail
  refine wp_only ?_
  refine wp_region_held_drew (S := fun W => W.cell? ⟨w.heap.size, 0, none⟩ = some (.int .i64 t) ∧ W.cell? ⟨w.heap.size, 1, none⟩ = some (.int .i64 m) ∧ W.cell? ⟨w.heap.size, 2, none⟩ = some (.bool th) ∧ W.cell? ⟨w.heap.size, 3, none⟩ = some (.int .i64 0) ∧ W.cell? ⟨w.heap.size, 4, none⟩ = some (.bool true)) (by kernel_rfl) (five_cells HSA.out) (fun hHeld => ?_)
  refine wpAnyH_take (i := 0) (oi := { dst := some 33, op := Op.move (Operand.tmp 0), type := 23, pos := "chain.go:154", after := #[], guard := none }) (v := ?vv27) rfl (by kernel_rfl) (by kernel_rfl) (by kernel_rfl) (fun _ _ _ h => h) ?hy27 (by assumption) ?rest27
  case hy27 => (refine Or.inl ⟨by rfl, ?_⟩; intro W hSw; (try dsimp only at hSw); go_simp; (try with_reducible rfl))
  try simp only [Act.put, List.setIfInBounds_toArray, List.set_cons_zero, List.set_cons_succ]
  refine wpAnyH_take (i := 1) (oi := { dst := some 34, op := Op.move (Operand.tmp 0), type := 23, pos := "chain.go:154", after := #[], guard := none }) (v := ?vv28) rfl (by kernel_rfl) (by kernel_rfl) (by kernel_rfl) (fun _ _ _ h => h) ?hy28 (by assumption) ?rest28
  case hy28 => (refine Or.inl ⟨by rfl, ?_⟩; intro W hSw; (try dsimp only at hSw); go_simp; (try with_reducible rfl))
  try simp only [Act.put, List.setIfInBounds_toArray, List.set_cons_zero, List.set_cons_succ]
  refine wpAnyH_take (i := 2) (oi := { dst := some 35, op := Op.nilCheck (Operand.tmp 34), type := 0, pos := "chain.go:154", after := #[{ on := 1, ground := Ground.data }], guard := none }) (v := ?vv29) rfl (by kernel_rfl) (by kernel_rfl) (by kernel_rfl) (fun _ _ _ h => h) ?hy29 (by assumption) ?rest29
  case hy29 => (refine Or.inl ⟨by rfl, ?_⟩; intro W hSw; (try dsimp only at hSw); go_simp; (try with_reducible rfl))
  try simp only [Act.put, List.setIfInBounds_toArray, List.set_cons_zero, List.set_cons_succ]
  refine wpAnyH_take (i := 3) (oi := { dst := some 36, op := Op.fieldAddr 58 (Operand.tmp 35) 0, type := 0, pos := "chain.go:154", after := #[{ on := 2, ground := Ground.data }], guard := none }) (v := ?vv30) rfl (by kernel_rfl) (by kernel_rfl) (by kernel_rfl) (fun _ _ _ h => h) ?hy30 (by assumption) ?rest30
  case hy30 => (refine Or.inl ⟨by rfl, ?_⟩; intro W hSw; (try dsimp only at hSw); go_simp; (try with_reducible rfl))
  try simp only [Act.put, List.setIfInBounds_toArray, List.set_cons_zero, List.set_cons_succ]
  refine wpAnyH_take (i := 5) (oi := { dst := some 38, op := Op.move (Operand.tmp 5), type := 3, pos := "chain.go:154", after := #[], guard := none }) (v := ?vv31) rfl (by kernel_rfl) (by kernel_rfl) (by kernel_rfl) (fun _ _ _ h => h) ?hy31 (by assumption) ?rest31
  case hy31 => (refine Or.inl ⟨by rfl, ?_⟩; intro W hSw; (try dsimp only at hSw); go_simp; (try with_reducible rfl))
  try simp only [Act.put, List.setIfInBounds_toArray, List.set_cons_zero, List.set_cons_succ]
  refine wpAnyH_take (i := 6) (oi := { dst := some 39, op := Op.binOp BinOp.add 3 (Operand.tmp 38) (Operand.const (Value.int IntKind.i64 1)) 3, type := 3, pos := "chain.go:154", after := #[{ on := 5, ground := Ground.data }], guard := none }) (v := ?vv32) rfl (by kernel_rfl) (by kernel_rfl) (by kernel_rfl) (fun _ _ _ h => h) ?hy32 (by assumption) ?rest32
  case hy32 => (refine Or.inl ⟨by rfl, ?_⟩; intro W hSw; (try dsimp only at hSw); go_simp; (try with_reducible rfl))
  try simp only [Act.put, List.setIfInBounds_toArray, List.set_cons_zero, List.set_cons_succ]
  refine wpAnyH_take (i := 7) (oi := { dst := some 40, op := Op.load 47 (Operand.tmp 3), type := 47, pos := "chain.go:154", after := #[], guard := none }) (v := ?vv33) rfl (by kernel_rfl) (by kernel_rfl) (by kernel_rfl) (fun _ _ _ h => h) ?hy33 (by assumption) ?rest33
  case hy33 => (refine Or.inl ⟨by rfl, ?_⟩; intro W hSw; (try dsimp only at hSw); go_simp; (try with_reducible rfl))
  try simp only [Act.put, List.setIfInBounds_toArray, List.set_cons_zero, List.set_cons_succ]
  refine wpAnyH_ready (rs := [4, 8]) (by kernel_rfl) (by simp) ?_
  refine AllReadyH.cons (o := { dst := some 37, op := Op.load 48 (Operand.tmp 36), type := 48, pos := "chain.go:154", after := #[{ on := 3, ground := Ground.data }], guard := none }) rfl (fun K hK => ?step34) ?more34
  ((go_simp; go_wp2_with fail))
  refine hK.out _ _ ?hS34 (fun hHeld => ?rr34)
  case hS34 => (exact five_cells HSA.out)
  clear hK K
  try simp only [Act.put, List.setIfInBounds_toArray, List.set_cons_zero, List.set_cons_succ]
  · refine wpAnyH_ready (rs := [8]) (by kernel_rfl) (by simp) ?_
    refine AllReadyH.cons (o := { dst := some 41, op := Op.buildSlice 48 1 #[(0, Operand.tmp 40)], type := 48, pos := "chain.go:154", after := #[{ on := 7, ground := Ground.data }], guard := none }) rfl (fun K hK => ?step35) ?more35
    case more35 => exact AllReadyH.nil
    ((go_simp; go_wp2_with fail))
    refine hK.out _ _ ?hS35 (fun hHeld => ?rr35)
    case hS35 => (exact HWI.out ▸ five_cells HWB.out)
    clear hK K
    try simp only [Act.put, List.setIfInBounds_toArray, List.set_cons_zero, List.set_cons_succ]
    rw [← HWI.out]
    refine wpAnyH_ready (rs := [9]) (by kernel_rfl) (by simp) ?_
    refine AllReadyH.cons (o := { dst := some 42, op := Op.call { callee := Callee.value (Operand.func 44), args := #[Operand.tmp 37, Operand.tmp 39, Operand.tmp 41], argTypes := #[48, 3, 48] }, type := 48, pos := "chain.go:154", after := #[{ on := 4, ground := Ground.data }, { on := 6, ground := Ground.data }, { on := 8, ground := Ground.data }], guard := none }) rfl (fun K hK => ?step36) ?more36
    case more36 => exact AllReadyH.nil
    ((go_simp; go_at_call 44; refine (HIN.out).mono ?_; rintro e w2 ⟨v', rfl, hrow, hgrow, hblk⟩; obtain ⟨A2, cap2, rfl, _⟩ := id hrow.form; go_wp2_with fail))
    refine hK.out _ _ ?hS36 (fun hHeld => ?rr36)
    case hS36 => (exact (five_cells (HSI.out w2 hgrow)))
    clear hK K
    try simp only [Act.put, List.setIfInBounds_toArray, List.set_cons_zero, List.set_cons_succ]
    have hc2 := HCI.out w2 hgrow
    have kc2 : w2.cell? ⟨c, 0, none⟩ = some (.slice (some ⟨g, 0, none⟩) L.length cap) := cell_of hc2 0
    have fc2 : w2.frozen? ⟨c, 0, none⟩ = false := free0 hc2 0
    have HSN := Lib.hid ((Below.heap_setCell w2 ⟨c, 0, none⟩ (.slice A2 (L.length + 1) cap2) w.heap.size HNE.out).trans (HSI.out w2 hgrow))
    have HFIN : Hid (ChAt (w2.setCell ⟨c, 0, none⟩ (.slice A2 (L.length + 1) cap2)) c (.slice A2 (L.length + 1) cap2) (L.take (k + 1) ++ ⟨t, m, th, 0, true⟩ :: L.drop (k + 1)) ∧ Touch (fun b => b = c ∨ some g = some b) w (w2.setCell ⟨c, 0, none⟩ (.slice A2 (L.length + 1) cap2)) ∧ ((Value.slice A2 (L.length + 1) cap2).ownBlock = some g ∨ ∃ b, (Value.slice A2 (L.length + 1) cap2).ownBlock = some b ∧ w.heap.size ≤ b)) := Lib.hid (put_fin2 HLL.out (HCW.out.off) hc2 hrow HBI.out hgrow hblk (Nat.lt_of_lt_of_le HCL.out HBI.out.size))
    clear hc2 hrow hgrow hblk
    refine wpAnyH_take (i := 10) (oi := { dst := some 43, op := Op.nilCheck (Operand.tmp 33), type := 0, pos := "chain.go:154", after := #[{ on := 0, ground := Ground.data }, { on := 0, ground := Ground.phase }, { on := 1, ground := Ground.phase }, { on := 2, ground := Ground.phase }, { on := 3, ground := Ground.phase }, { on := 4, ground := Ground.phase }, { on := 5, ground := Ground.phase }, { on := 6, ground := Ground.phase }, { on := 7, ground := Ground.phase }, { on := 8, ground := Ground.phase }, { on := 9, ground := Ground.phase }], guard := none }) (v := ?vv37) rfl (by kernel_rfl) (by kernel_rfl) (by kernel_rfl) (fun _ _ _ h => h) ?hy37 (by assumption) ?rest37
    case hy37 => (refine Or.inl ⟨by rfl, ?_⟩; intro W hSw; (try dsimp only at hSw); go_simp; (try with_reducible rfl))
    try simp only [Act.put, List.setIfInBounds_toArray, List.set_cons_zero, List.set_cons_succ]
    refine wpAnyH_take (i := 11) (oi := { dst := some 44, op := Op.fieldAddr 58 (Operand.tmp 43) 0, type := 0, pos := "chain.go:154", after := #[{ on := 10, ground := Ground.data }, { on := 0, ground := Ground.phase }, { on := 1, ground := Ground.phase }, { on := 2, ground := Ground.phase }, { on := 3, ground := Ground.phase }, { on := 4, ground := Ground.phase }, { on := 5, ground := Ground.phase }, { on := 6, ground := Ground.phase }, { on := 7, ground := Ground.phase }, { on := 8, ground := Ground.phase }, { on := 9, ground := Ground.phase }], guard := none }) (v := ?vv38) rfl (by kernel_rfl) (by kernel_rfl) (by kernel_rfl) (fun _ _ _ h => h) ?hy38 (by assumption) ?rest38
    case hy38 => (refine Or.inl ⟨by rfl, ?_⟩; intro W hSw; (try dsimp only at hSw); go_simp; (try with_reducible rfl))
    try simp only [Act.put, List.setIfInBounds_toArray, List.set_cons_zero, List.set_cons_succ]
    refine wpAnyH_ready (rs := [12]) (by kernel_rfl) (by simp) ?_
    refine AllReadyH.cons (o := { dst := none, op := Op.store 48 (Operand.tmp 44) (Operand.tmp 42), type := 0, pos := "chain.go:154", after := #[{ on := 11, ground := Ground.data }, { on := 9, ground := Ground.data }, { on := 9, ground := Ground.chain }, { on := 0, ground := Ground.phase }, { on := 1, ground := Ground.phase }, { on := 2, ground := Ground.phase }, { on := 3, ground := Ground.phase }, { on := 4, ground := Ground.phase }, { on := 5, ground := Ground.phase }, { on := 6, ground := Ground.phase }, { on := 7, ground := Ground.phase }, { on := 8, ground := Ground.phase }, { on := 9, ground := Ground.phase }], guard := none }) rfl (fun K hK => ?step39) ?more39
    case more39 => exact AllReadyH.nil
    ((go_simp; go_wp2_with fail))
    refine hK.out _ _ ?hS39 (fun hHeld => ?rr39)
    case hS39 => (exact five_cells HSN.out)
    clear hK K
    try simp only [Act.put, List.setIfInBounds_toArray, List.set_cons_zero, List.set_cons_succ]
    refine wpAnyH_done (by kernel_rfl) ?_ _
    clear hHeld kc2 fc2
    dsimp only [onlyN]
    go_wp2_with fail
    go_ret
    exact ⟨_, rfl, HFIN.out⟩
  · refine AllReadyH.cons (o := { dst := some 41, op := Op.buildSlice 48 1 #[(0, Operand.tmp 40)], type := 48, pos := "chain.go:154", after := #[{ on := 7, ground := Ground.data }], guard := none }) rfl (fun K hK => ?step40) ?more40
    case more40 => exact AllReadyH.nil
    ((go_simp; go_wp2_with fail))
    refine hK.out _ _ ?hS40 (fun hHeld => ?rr40)
    case hS40 => (exact HWI.out ▸ five_cells HWB.out)
    clear hK K
    try simp only [Act.put, List.setIfInBounds_toArray, List.set_cons_zero, List.set_cons_succ]
    rw [← HWI.out]
    have kcI : WI.cell? ⟨c, 0, none⟩ = some (.slice (some ⟨g, 0, none⟩) L.length cap) := KCI.out
    refine wpAnyH_ready (rs := [4]) (by kernel_rfl) (by simp) ?_
    refine AllReadyH.cons (o := { dst := some 37, op := Op.load 48 (Operand.tmp 36), type := 48, pos := "chain.go:154", after := #[{ on := 3, ground := Ground.data }], guard := none }) rfl (fun K hK => ?step41) ?more41
    case more41 => exact AllReadyH.nil
    ((go_simp; go_wp2_with fail))
    refine hK.out _ _ ?hS41 (fun hHeld => ?rr41)
    case hS41 => (exact five_cells HWB.out)
    clear hK K
    try simp only [Act.put, List.setIfInBounds_toArray, List.set_cons_zero, List.set_cons_succ]
    refine wpAnyH_ready (rs := [9]) (by kernel_rfl) (by simp) ?_
    refine AllReadyH.cons (o := { dst := some 42, op := Op.call { callee := Callee.value (Operand.func 44), args := #[Operand.tmp 37, Operand.tmp 39, Operand.tmp 41], argTypes := #[48, 3, 48] }, type := 48, pos := "chain.go:154", after := #[{ on := 4, ground := Ground.data }, { on := 6, ground := Ground.data }, { on := 8, ground := Ground.data }], guard := none }) rfl (fun K hK => ?step42) ?more42
    case more42 => exact AllReadyH.nil
    ((go_simp; go_at_call 44; refine (HIN.out).mono ?_; rintro e w2 ⟨v', rfl, hrow, hgrow, hblk⟩; obtain ⟨A2, cap2, rfl, _⟩ := id hrow.form; go_wp2_with fail))
    refine hK.out _ _ ?hS42 (fun hHeld => ?rr42)
    case hS42 => (exact (five_cells (HSI.out w2 hgrow)))
    clear hK K
    try simp only [Act.put, List.setIfInBounds_toArray, List.set_cons_zero, List.set_cons_succ]
    have hc2 := HCI.out w2 hgrow
    have kc2 : w2.cell? ⟨c, 0, none⟩ = some (.slice (some ⟨g, 0, none⟩) L.length cap) := cell_of hc2 0
    have fc2 : w2.frozen? ⟨c, 0, none⟩ = false := free0 hc2 0
    have HSN := Lib.hid ((Below.heap_setCell w2 ⟨c, 0, none⟩ (.slice A2 (L.length + 1) cap2) w.heap.size HNE.out).trans (HSI.out w2 hgrow))
    have HFIN : Hid (ChAt (w2.setCell ⟨c, 0, none⟩ (.slice A2 (L.length + 1) cap2)) c (.slice A2 (L.length + 1) cap2) (L.take (k + 1) ++ ⟨t, m, th, 0, true⟩ :: L.drop (k + 1)) ∧ Touch (fun b => b = c ∨ some g = some b) w (w2.setCell ⟨c, 0, none⟩ (.slice A2 (L.length + 1) cap2)) ∧ ((Value.slice A2 (L.length + 1) cap2).ownBlock = some g ∨ ∃ b, (Value.slice A2 (L.length + 1) cap2).ownBlock = some b ∧ w.heap.size ≤ b)) := Lib.hid (put_fin2 HLL.out (HCW.out.off) hc2 hrow HBI.out hgrow hblk (Nat.lt_of_lt_of_le HCL.out HBI.out.size))
    clear hc2 hrow hgrow hblk
    refine wpAnyH_take (i := 10) (oi := { dst := some 43, op := Op.nilCheck (Operand.tmp 33), type := 0, pos := "chain.go:154", after := #[{ on := 0, ground := Ground.data }, { on := 0, ground := Ground.phase }, { on := 1, ground := Ground.phase }, { on := 2, ground := Ground.phase }, { on := 3, ground := Ground.phase }, { on := 4, ground := Ground.phase }, { on := 5, ground := Ground.phase }, { on := 6, ground := Ground.phase }, { on := 7, ground := Ground.phase }, { on := 8, ground := Ground.phase }, { on := 9, ground := Ground.phase }], guard := none }) (v := ?vv43) rfl (by kernel_rfl) (by kernel_rfl) (by kernel_rfl) (fun _ _ _ h => h) ?hy43 (by assumption) ?rest43
    case hy43 => (refine Or.inl ⟨by rfl, ?_⟩; intro W hSw; (try dsimp only at hSw); go_simp; (try with_reducible rfl))
    try simp only [Act.put, List.setIfInBounds_toArray, List.set_cons_zero, List.set_cons_succ]
    refine wpAnyH_take (i := 11) (oi := { dst := some 44, op := Op.fieldAddr 58 (Operand.tmp 43) 0, type := 0, pos := "chain.go:154", after := #[{ on := 10, ground := Ground.data }, { on := 0, ground := Ground.phase }, { on := 1, ground := Ground.phase }, { on := 2, ground := Ground.phase }, { on := 3, ground := Ground.phase }, { on := 4, ground := Ground.phase }, { on := 5, ground := Ground.phase }, { on := 6, ground := Ground.phase }, { on := 7, ground := Ground.phase }, { on := 8, ground := Ground.phase }, { on := 9, ground := Ground.phase }], guard := none }) (v := ?vv44) rfl (by kernel_rfl) (by kernel_rfl) (by kernel_rfl) (fun _ _ _ h => h) ?hy44 (by assumption) ?rest44
    case hy44 => (refine Or.inl ⟨by rfl, ?_⟩; intro W hSw; (try dsimp only at hSw); go_simp; (try with_reducible rfl))
    try simp only [Act.put, List.setIfInBounds_toArray, List.set_cons_zero, List.set_cons_succ]
    refine wpAnyH_ready (rs := [12]) (by kernel_rfl) (by simp) ?_
    refine AllReadyH.cons (o := { dst := none, op := Op.store 48 (Operand.tmp 44) (Operand.tmp 42), type := 0, pos := "chain.go:154", after := #[{ on := 11, ground := Ground.data }, { on := 9, ground := Ground.data }, { on := 9, ground := Ground.chain }, { on := 0, ground := Ground.phase }, { on := 1, ground := Ground.phase }, { on := 2, ground := Ground.phase }, { on := 3, ground := Ground.phase }, { on := 4, ground := Ground.phase }, { on := 5, ground := Ground.phase }, { on := 6, ground := Ground.phase }, { on := 7, ground := Ground.phase }, { on := 8, ground := Ground.phase }, { on := 9, ground := Ground.phase }], guard := none }) rfl (fun K hK => ?step45) ?more45
    case more45 => exact AllReadyH.nil
    ((go_simp; go_wp2_with fail))
    refine hK.out _ _ ?hS45 (fun hHeld => ?rr45)
    case hS45 => (exact five_cells HSN.out)
    clear hK K
    try simp only [Act.put, List.setIfInBounds_toArray, List.set_cons_zero, List.set_cons_succ]
    refine wpAnyH_done (by kernel_rfl) ?_ _
    clear hHeld kc2 fc2
    dsimp only [onlyN]
    go_wp2_with fail
    go_ret
    exact ⟨_, rfl, HFIN.out⟩
end Go.Proofs.YtmaokoekbjjgfaaDoor
