/- A history in memory; whether keys and texts meet. -/
import Derived.Test.YtoidfkcecggjfaaDoorZValA
import Derived.Test.YtoidfkcecggjfaaDoorZEnD
set_option linter.unusedSimpArgs false
set_option linter.unusedVariables false
set_option linter.unnecessarySimpa false
namespace Go.Proofs.YtoidfkcecggjfaaDoor
open Go.RowKit Go.Shelf

/-- A history in memory: its floor F, and the commits C behind it, each a list of texts. -/
structure HistAt (w : World) (h : Nat) (v : Value) (F : Nat) (vs : List Value) (C : List (List K)) : Prop where
  head : w.heap[h]? = some (.cells #[.int .i64 F, v] 48 (0, 0))
  row : RowIs w 1 v C.length vs
  each : ∀ (i : Nat) (ks : List K), C[i]? = some ks → ∃ u, vs[i]? = some u ∧ RowIs w 1 u ks.length (strs ks) ∧ u.ownBlock ≠ some h ∧ ∀ g, u.ownBlock = some g → v.ownBlock ≠ some g
  off : v.ownBlock ≠ some h
  len : vs.length = C.length
theorem HistAt.touch {S : Nat → Prop} {w w' : World} {h F : Nat} {v : Value} {vs : List Value} {C : List (List K)} (hh : HistAt w h v F vs C) (ht : Touch S w w') (h1 : ¬ S h) (h2 : ∀ g, v.ownBlock = some g → ¬ S g) (h3 : ∀ u ∈ vs, ∀ g, u.ownBlock = some g → ¬ S g) : HistAt w' h v F vs C :=
  ⟨(ht.block h (heap_lt hh.head) h1).trans hh.head, RowIs.touch hh.row ht h2, fun i ks hi => by
    obtain ⟨u, hu, hr, a, b⟩ := hh.each i ks hi
    exact ⟨u, hu, RowIs.touch hr ht (h3 u (List.mem_of_getElem? hu)), a, b⟩, hh.off, hh.len⟩
theorem HistAt.below {w w' : World} {h F : Nat} {v : Value} {vs : List Value} {C : List (List K)} (hh : HistAt w h v F vs C) (hb : Below w.heap.size w w') : HistAt w' h v F vs C :=
  hh.touch (S := fun _ => False) (.of_below hb) (fun e => e) (fun _ _ e => e) (fun _ _ _ _ e => e)
/-- Is one of the texts among the keys? -/
def meets (ks reads : List K) : Bool := reads.any fun k => decide (k ∈ ks)
set_option maxRecDepth 100000 in
set_option maxHeartbeats 1000000 in
theorem now_any {w : World} {h F : Nat} {v : Value} {vs : List Value} {C : List (List K)} (hh : HistAt w h v F vs C) (hl : F + C.length ≤ 1000000) : Calls Tryd.prog 8 #[.pointer (some ⟨h, 0, none⟩)] w fun e w' => e = .returned (.int .i64 ((F : Int) + (C.length : Int))) ∧ w' = w.drewN 1 := by
  obtain ⟨A, cap, rfl, h1, h2, _⟩ := id (RowIs.form hh.row)
  unfold maxLen at h2
  have k0 : w.cell? ⟨h, 0, none⟩ = some (.int .i64 F) := cell_of hh.head 0
  have k1 : w.cell? ⟨h, 1, none⟩ = some (.slice A C.length cap) := cell_of hh.head 1
  have hlI : (F : Int) + (C.length : Int) ≤ 1000000 := by omega
  have hF0 : 0 ≤ (F : Int) := by omega
  have hC0 : 0 ≤ (C.length : Int) := by omega
  have HS : Hid (w.drew.cell? ⟨h, 0, none⟩ = some (.int .i64 F) ∧ w.drew.cell? ⟨h, 1, none⟩ = some (.slice A C.length cap)) := Lib.hid ⟨k0, k1⟩
  clear hh
  go_enter Tryd.func8, Tryd.ntmps8
  go_wp2_with fail
  refine wp_only ?_
  refine wp_region_held_drew (S := fun W => W.cell? ⟨h, 0, none⟩ = some (.int .i64 F) ∧ W.cell? ⟨h, 1, none⟩ = some (.slice A C.length cap)) (by kernel_rfl) HS.out (fun hHeld => ?_)
  clear k0 k1
  refine wpAnyH_take (i := 0) (oi := { dst := some 5, op := Op.move (Operand.tmp 0), type := 23, pos := "valid.go:76", after := #[], guard := none }) (v := ?vv1) rfl (by kernel_rfl) (by kernel_rfl) (by kernel_rfl) (fun _ _ _ h => h) ?hy1 (by assumption) ?rest1
  case hy1 => (refine Or.inl ⟨by rfl, ?_⟩; intro W hSw; (try dsimp only at hSw); go_simp; (try with_reducible rfl))
  try simp only [Act.put, List.setIfInBounds_toArray, List.set_cons_zero, List.set_cons_succ]
  refine wpAnyH_take (i := 1) (oi := { dst := some 6, op := Op.nilCheck (Operand.tmp 5), type := 0, pos := "valid.go:76", after := #[{ on := 0, ground := Ground.data }], guard := none }) (v := ?vv2) rfl (by kernel_rfl) (by kernel_rfl) (by kernel_rfl) (fun _ _ _ h => h) ?hy2 (by assumption) ?rest2
  case hy2 => (refine Or.inl ⟨by rfl, ?_⟩; intro W hSw; (try dsimp only at hSw); go_simp; (try with_reducible rfl))
  try simp only [Act.put, List.setIfInBounds_toArray, List.set_cons_zero, List.set_cons_succ]
  refine wpAnyH_take (i := 2) (oi := { dst := some 7, op := Op.fieldAddr 48 (Operand.tmp 6) 0, type := 0, pos := "valid.go:76", after := #[{ on := 1, ground := Ground.data }], guard := none }) (v := ?vv3) rfl (by kernel_rfl) (by kernel_rfl) (by kernel_rfl) (fun _ _ _ h => h) ?hy3 (by assumption) ?rest3
  case hy3 => (refine Or.inl ⟨by rfl, ?_⟩; intro W hSw; (try dsimp only at hSw); go_simp; (try with_reducible rfl))
  try simp only [Act.put, List.setIfInBounds_toArray, List.set_cons_zero, List.set_cons_succ]
  refine wpAnyH_take (i := 3) (oi := { dst := some 8, op := Op.load 3 (Operand.tmp 7), type := 3, pos := "valid.go:76", after := #[{ on := 2, ground := Ground.data }], guard := none }) (v := ?vv4) rfl (by kernel_rfl) (by kernel_rfl) (by kernel_rfl) (fun _ _ _ h => h) ?hy4 (by assumption) ?rest4
  case hy4 => (refine Or.inl ⟨by rfl, ?_⟩; intro W hSw; (try dsimp only at hSw); go_simp; (try with_reducible rfl))
  try simp only [Act.put, List.setIfInBounds_toArray, List.set_cons_zero, List.set_cons_succ]
  refine wpAnyH_take (i := 4) (oi := { dst := some 9, op := Op.move (Operand.tmp 0), type := 23, pos := "valid.go:76", after := #[], guard := none }) (v := ?vv5) rfl (by kernel_rfl) (by kernel_rfl) (by kernel_rfl) (fun _ _ _ h => h) ?hy5 (by assumption) ?rest5
  case hy5 => (refine Or.inl ⟨by rfl, ?_⟩; intro W hSw; (try dsimp only at hSw); go_simp; (try with_reducible rfl))
  try simp only [Act.put, List.setIfInBounds_toArray, List.set_cons_zero, List.set_cons_succ]
  refine wpAnyH_take (i := 5) (oi := { dst := some 10, op := Op.nilCheck (Operand.tmp 9), type := 0, pos := "valid.go:76", after := #[{ on := 4, ground := Ground.data }], guard := none }) (v := ?vv6) rfl (by kernel_rfl) (by kernel_rfl) (by kernel_rfl) (fun _ _ _ h => h) ?hy6 (by assumption) ?rest6
  case hy6 => (refine Or.inl ⟨by rfl, ?_⟩; intro W hSw; (try dsimp only at hSw); go_simp; (try with_reducible rfl))
  try simp only [Act.put, List.setIfInBounds_toArray, List.set_cons_zero, List.set_cons_succ]
  refine wpAnyH_take (i := 6) (oi := { dst := some 11, op := Op.fieldAddr 48 (Operand.tmp 10) 1, type := 0, pos := "valid.go:76", after := #[{ on := 5, ground := Ground.data }], guard := none }) (v := ?vv7) rfl (by kernel_rfl) (by kernel_rfl) (by kernel_rfl) (fun _ _ _ h => h) ?hy7 (by assumption) ?rest7
  case hy7 => (refine Or.inl ⟨by rfl, ?_⟩; intro W hSw; (try dsimp only at hSw); go_simp; (try with_reducible rfl))
  try simp only [Act.put, List.setIfInBounds_toArray, List.set_cons_zero, List.set_cons_succ]
  refine wpAnyH_take (i := 7) (oi := { dst := some 12, op := Op.load 26 (Operand.tmp 11), type := 26, pos := "valid.go:76", after := #[{ on := 6, ground := Ground.data }], guard := none }) (v := ?vv8) rfl (by kernel_rfl) (by kernel_rfl) (by kernel_rfl) (fun _ _ _ h => h) ?hy8 (by assumption) ?rest8
  case hy8 => (refine Or.inl ⟨by rfl, ?_⟩; intro W hSw; (try dsimp only at hSw); go_simp; (try with_reducible rfl))
  try simp only [Act.put, List.setIfInBounds_toArray, List.set_cons_zero, List.set_cons_succ]
  refine wpAnyH_take (i := 8) (oi := { dst := some 13, op := Op.call { callee := Callee.builtin Builtin.len, args := #[Operand.tmp 12], argTypes := #[26] }, type := 3, pos := "valid.go:76", after := #[{ on := 7, ground := Ground.data }], guard := none }) (v := ?vv9) rfl (by kernel_rfl) (by kernel_rfl) (by kernel_rfl) (fun _ _ _ h => h) ?hy9 (by assumption) ?rest9
  case hy9 => (refine Or.inl ⟨by rfl, ?_⟩; intro W hSw; (try dsimp only at hSw); go_simp; (try with_reducible rfl))
  try simp only [Act.put, List.setIfInBounds_toArray, List.set_cons_zero, List.set_cons_succ]
  refine wpAnyH_take (i := 9) (oi := { dst := some 14, op := Op.binOp BinOp.add 3 (Operand.tmp 8) (Operand.tmp 13) 3, type := 3, pos := "valid.go:76", after := #[{ on := 3, ground := Ground.data }, { on := 8, ground := Ground.data }], guard := none }) (v := ?vv10) rfl (by kernel_rfl) (by kernel_rfl) (by kernel_rfl) (fun _ _ _ h => h) ?hy10 (by assumption) ?rest10
  case hy10 => (refine Or.inl ⟨by rfl, ?_⟩; intro W hSw; (try dsimp only at hSw); go_simp; (try with_reducible rfl))
  try simp only [Act.put, List.setIfInBounds_toArray, List.set_cons_zero, List.set_cons_succ]
  refine wpAnyH_take (i := 10) (oi := { dst := some 2, op := Op.assign (Operand.tmp 14), type := 3, pos := "valid.go:76", after := #[{ on := 9, ground := Ground.data }, { on := 0, ground := Ground.phase }, { on := 1, ground := Ground.phase }, { on := 2, ground := Ground.phase }, { on := 3, ground := Ground.phase }, { on := 4, ground := Ground.phase }, { on := 5, ground := Ground.phase }, { on := 6, ground := Ground.phase }, { on := 7, ground := Ground.phase }, { on := 8, ground := Ground.phase }, { on := 9, ground := Ground.phase }], guard := none }) (v := ?vv11) rfl (by kernel_rfl) (by kernel_rfl) (by kernel_rfl) (fun _ _ _ h => h) ?hy11 (by assumption) ?rest11
  case hy11 => (refine Or.inl ⟨by rfl, ?_⟩; intro W hSw; (try dsimp only at hSw); go_simp; (try with_reducible rfl))
  try simp only [Act.put, List.setIfInBounds_toArray, List.set_cons_zero, List.set_cons_succ]
  refine wpAnyH_done (by kernel_rfl) ?_ _
  clear hHeld
  dsimp only [onlyN]
  go_wp2_with fail
  go_ret
  rw [show IntKind.i64.wrap ((F : Int) + (C.length : Int)) = (F : Int) + (C.length : Int) from IntWalk.i64_in _ (by omega)]
  exact ⟨rfl, rfl⟩
set_option maxRecDepth 100000 in
set_option maxHeartbeats 1000000 in
theorem floor_any {w : World} {h F : Nat} {v : Value} {vs : List Value} {C : List (List K)} (hh : HistAt w h v F vs C) : Calls Tryd.prog 9 #[.pointer (some ⟨h, 0, none⟩)] w fun e w' => e = .returned (.int .i64 F) ∧ w' = w := by
  have k0 : w.cell? ⟨h, 0, none⟩ = some (.int .i64 F) := cell_of hh.head 0
  clear hh
  go_enter Tryd.func9, Tryd.ntmps9
  go_wp2_with fail
  go_ret
  exact ⟨rfl, rfl⟩
set_option maxRecDepth 100000 in
set_option maxHeartbeats 1000000 in
/-- The question of ContainsFunc. -/
theorem among_any {W : World} {b : Nat} {u : Value} {ks : List K} (hb : W.cell? ⟨b, 0, none⟩ = some u) (hr : RowIs W 1 u ks.length (strs ks)) (hl : ks.length ≤ 1000000) (hs : ks.Pairwise (· < ·)) (x : K) :
    Calls Tryd.prog 38 #[encStr x, .pointer (some ⟨b, 0, none⟩)] W fun e w' => e = .returned (.bool (decide (x ∈ ks))) ∧ ∃ q, w' = W.drewN q := by
  have hsr : Calls Tryd.prog 39 #[u, encStr x] W fun e w' => (∃ z, e = .returned (.tuple #[.int .i64 z, .bool (decide (x ∈ ks))])) ∧ ∃ q, w' = W.drewN q := by
    rcases hr with ⟨rfl, h1, h2⟩ | ⟨g, cap, rfl, h1, h2, hc⟩
    · obtain rfl : ks = [] := List.eq_nil_of_length_eq_zero h1
      refine (Any2.slices_BinarySearch_string_empty Tryd.searchA none 0 ⟨x.toArray⟩ W).mono ?_
      rintro e w' ⟨rfl, rfl⟩
      exact ⟨⟨0, by simp⟩, 0, rfl⟩
    · refine (Any2.slices_BinarySearch_string Tryd.searchA g 0 ks.length cap (fun t => ⟨(ks.getD t x).toArray⟩) ⟨x.toArray⟩ W (by omega) (fun j hj => ?_)).mono ?_
      · rw [Nat.zero_add, hc.holds j _ (strs_at (List.getElem?_eq_getElem hj)), List.getD_eq_getElem?_getD, List.getElem?_eq_getElem hj]
        rfl
      · rintro e w' ⟨rfl, q, rfl⟩
        exact ⟨⟨_, congrArg (fun b => Ending.returned (.tuple #[.int .i64 _, .bool b])) (search_found hs x (fun t => ⟨(ks.getD t x).toArray⟩) (fun t => rfl))⟩, q, rfl⟩
  obtain ⟨d, hd⟩ : ∃ d, d = decide (x ∈ ks) := ⟨_, rfl⟩
  rw [← hd] at hsr ⊢
  have HS := Lib.hid hsr
  clear hsr hr hs hd
  go_enter Tryd.func38, Tryd.ntmps38
  go_wp2_with fail
  refine (HS.out).mono ?_
  rintro e w' ⟨⟨z, rfl⟩, q, rfl⟩
  go_wp2_with fail
  go_ret
  exact ⟨rfl, q, rfl⟩
set_option maxRecDepth 100000 in
set_option maxHeartbeats 1000000 in
theorem meet_any {w : World} {u rv : Value} {ks reads : List K} (hu : RowIs w 1 u ks.length (strs ks)) (hr : RowIs w 1 rv reads.length (strs reads)) (hl : ks.length ≤ 1000000) (hl2 : reads.length ≤ 1000000) (hs : ks.Pairwise (· < ·)) :
    Calls Tryd.prog 33 #[u, rv] w fun e w' => e = .returned (.bool (meets ks reads)) ∧ Below w.heap.size w w' := by
  obtain ⟨Au, cu, rfl, _⟩ := id hu.form
  have hbn := below_new (w := w) (.cells #[.slice Au ks.length cu] 29)
  have hat := alloc_at w (.cells #[.slice Au ks.length cu] 29)
  have hc : Calls Tryd.prog 37 #[rv, .func (.func 38) #[] #[.pointer (some ⟨w.heap.size, 0, none⟩)]] (w.alloc (.cells #[.slice Au ks.length cu] 29)) fun e w' => e = .returned (.bool (meets ks reads)) ∧ ∃ q, w' = (w.alloc (.cells #[.slice Au ks.length cu] 29)).drewN q := by
    have hp : PredAt Tryd.prog 38 #[.pointer (some ⟨w.heap.size, 0, none⟩)] encStr (fun k => decide (k ∈ ks)) (w.alloc (.cells #[.slice Au ks.length cu] 29)) := fun W x hW =>
      among_any ((hW.cell (p := ⟨w.heap.size, 0, none⟩) (heap_lt hat)).trans (cell_of hat 0)) ((hu.below hbn).below hW) hl hs x
    rcases hr with ⟨rfl, h1, h2⟩ | ⟨g, cap, rfl, h1, h2, hcc⟩
    · obtain rfl : reads = [] := List.eq_nil_of_length_eq_zero h1
      refine (AnyE.slices_ContainsFunc_empty Tryd.containsA none 0 _ _).mono ?_
      rintro e w' ⟨rfl, rfl⟩
      exact ⟨rfl, 0, rfl⟩
    · refine (AnyE.slices_ContainsFunc Tryd.containsA encStr (fun k => decide (k ∈ ks)) 38 #[.pointer (some ⟨w.heap.size, 0, none⟩)] (enters_of Tryd.func38 (by kernel_rfl) rfl) g 0 reads.length cap reads _ hp (Nat.le_refl _) (by omega) (fun j hj => ?_)).mono ?_
      · rw [Nat.zero_add]
        have := (hbn.cell (p := ⟨g, j, none⟩) hcc.lt).trans (hcc.holds j _ (strs_at (List.getElem?_eq_getElem hj)))
        rw [this]
        simp [hj]
      · rintro e w' ⟨rfl, q, rfl⟩
        exact ⟨by rw [List.take_of_length_le (Nat.le_refl _)]; rfl, q, rfl⟩
  have HC := Lib.hid hc
  have HB := Lib.hid hbn
  clear hu hr hs hbn hat hc
  go_enter Tryd.func33, Tryd.ntmps33
  go_wp2_with fail
  refine (HC.out).mono ?_
  rintro e w' ⟨rfl, q, rfl⟩
  go_wp2_with fail
  go_ret
  exact ⟨rfl, below_drewN HB.out q⟩
end Go.Proofs.YtoidfkcecggjfaaDoor
