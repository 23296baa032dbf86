/- lock: edges compared and sorted. -/
import Derived.Test.YtmchmlkbpocboaaGreatDoorZLkaD
import Derived.Test.YtmchmlkbpocboaaGreatDoorZLokO
set_option linter.unusedSimpArgs false
set_option linter.unusedVariables false
set_option linter.unnecessarySimpa false
namespace Go.Proofs.YtmchmlkbpocboaaGreatDoor
open Go.RowKit Go.Sort Go.Shelf Go.Lib

def encE (x : Int × Int) : List Value := [.int .i64 x.1, .int .i64 x.2]
theorem encE_one (x : Int × Int) : ∀ v ∈ encE x, v.oneCell' = true := fun v hv => by
  simp [encE] at hv
  rcases hv with rfl | rfl <;> rfl
theorem flat_ed (T : List (Int × Int)) : flatK encE 2 T.toArray = (edC T).toArray := by
  apply Array.ext
  · rw [size_flatK, List.size_toArray, List.size_toArray, edC_len]
  · intro t h1 h2
    rw [size_flatK, List.size_toArray] at h1
    have hi : t / 2 < T.length := by omega
    have hx : T[t / 2]? = some T[t / 2] := List.getElem?_eq_getElem hi
    obtain ⟨c0, c1⟩ := edC_at hx
    have e1 := get_flatK encE 2 T.toArray t (by rw [List.size_toArray]; exact h1)
    rw [getElem!_pos (flatK encE 2 T.toArray) t (by rw [size_flatK, List.size_toArray]; exact h1)] at e1
    rw [e1]
    have e2 : T.toArray[t / 2]! = T[t / 2] := by rw [getElem!_pos T.toArray (t / 2) (by simpa using hi)]; simp
    rw [e2, List.getElem_toArray]
    have h3 : t % 2 = 0 ∨ t % 2 = 1 := by omega
    have e4 : (edC T)[t]? = some (edC T)[t] := List.getElem?_eq_getElem _
    rcases h3 with h | h
    · rw [show (edC T)[t]? = (edC T)[t / 2 * 2]? from by congr 1; omega, c0] at e4
      rw [h]; exact Option.some.inj e4
    · rw [show (edC T)[t]? = (edC T)[t / 2 * 2 + 1]? from by congr 1; omega, c1] at e4
      rw [h]; exact Option.some.inj e4
/-- A row of one's own, rewritten as a sort rewrites it. -/
theorem row_laid {w : World} {z g cap n : Nat} {l m : List Value} {os : Array Obj} (h : RowC w z g cap l) (hl : m.length = l.length) : RowC (grow (putRow id (Sort.ahead w n) g 0 m.toArray) os) z g cap m ∧ Touch (fun k => k = g) w (grow (putRow id (Sort.ahead w n) g 0 m.toArray) os) := by
  have hH : Sort.Holds id w g 0 l.toArray := fun j hj => by
    have hj' : j < l.length := by simpa using hj
    have h1 : l[j]? = some l[j] := List.getElem?_eq_getElem hj'
    have h2 := h.le
    refine ⟨?_, ?_⟩
    · rw [Nat.zero_add, h.holds j _ h1]
      simp [hj']
    · rw [Nat.zero_add]
      exact (h.there j (by omega)).2
  have h2 := h.le
  have hP : Sort.Holds id (putRow id (Sort.ahead w n) g 0 m.toArray) g 0 m.toArray := holds_putRow _ _ _ _ _ _ (holds_ahead _ _ n _ _ _ hH) (by simpa using hl)
  have hR : RowC (putRow id (Sort.ahead w n) g 0 m.toArray) z g cap m := by
    refine ⟨by rw [size_putRow]; exact h.lt, by omega, h.max, fun j b hj => ?_, fun j hj => ?_⟩
    · have hj' : j < m.length := (List.getElem?_eq_some_iff.1 hj).1
      have h3 := (hP j (by simpa using hj')).1
      rw [Nat.zero_add] at h3
      rw [h3]
      have : m.toArray[j]! = b := by
        rw [getElem!_pos m.toArray j (by simpa using hj'), List.getElem_toArray]
        exact (List.getElem?_eq_some_iff.1 hj).2
      rw [this]
      rfl
    · refine ⟨?_, by rw [frozen?_putRow]; exact (h.there j hj).2⟩
      by_cases hjl : j < m.length
      · have h3 := (hP j (by simpa using hjl)).1
        rw [Nat.zero_add] at h3
        rw [h3]
        rfl
      · rw [cell?_putRow_other _ _ _ _ _ _ (.inr (.inr (by simp; omega)))]
        exact (h.there j hj).1
  have hb := touch_grow (putRow id (Sort.ahead w n) g 0 m.toArray) os
  have ht : Touch (fun k => k = g) w (putRow id (Sort.ahead w n) g 0 m.toArray) := ⟨rfl, rfl, rfl, by simp, fun k hk hne => by
    have : g ≠ k := fun e => hne e.symm
    simp [putRow, mapBlock, Sort.ahead, Array.getElem?_modify, this]⟩
  exact ⟨hR.keep hb.size (hb.block g hR.lt), ht.after hb⟩
/-- By where it goes from, then by where it goes to. -/
def ltE (x y : Int × Int) : Prop := x.1 < y.1 ∨ (x.1 = y.1 ∧ x.2 < y.2)
def cfE (x y : Int × Int) : Int := if Lib.compareInt x.1 y.1 = 0 then Lib.compareInt x.2 y.2 else Lib.compareInt x.1 y.1
theorem ltE_cf (x y : Int × Int) : ltOf cfE x y = true ↔ ltE x y := by
  unfold ltOf cfE ltE Lib.compareInt
  rw [decide_eq_true_eq]
  by_cases h1 : x.1 < y.1
  · simp [h1]
  · by_cases h2 : y.1 < x.1
    · have : ¬ x.1 = y.1 := by omega
      simp [h1, h2, this]
    · have : x.1 = y.1 := by omega
      by_cases h3 : x.2 < y.2
      · simp [this, h3]
      · by_cases h4 : y.2 < x.2 <;> simp [this, h3, h4]
theorem swoE : SWO (ltOf cfE) where
  irrefl x := by
    rw [Bool.eq_false_iff]; intro h; have := (ltE_cf _ _).1 h; unfold ltE at this; omega
  trans x y z h1 h2 := by
    have h1 := (ltE_cf _ _).1 h1; have h2 := (ltE_cf _ _).1 h2
    refine (ltE_cf _ _).2 ?_
    unfold ltE at *; omega
  ntrans x y z h1 h2 := by
    have h1 : ¬ ltE x y := fun e => by rw [(ltE_cf _ _).2 e] at h1; cases h1
    have h2 : ¬ ltE y z := fun e => by rw [(ltE_cf _ _).2 e] at h2; cases h2
    rw [Bool.eq_false_iff]; intro h; have := (ltE_cf _ _).1 h
    unfold ltE at *; omega
theorem cmpI_any (x y : Int) (W : World) : Calls Tryz.prog 45 #[.int .i64 x, .int .i64 y] W fun e w' => e = .returned (.int .i64 (Lib.compareInt x y)) ∧ w' = W := AnyG.cmp_Compare_int Tryz.cmpA x y W
set_option maxRecDepth 100000 in
set_option maxHeartbeats 2000000 in
theorem or_any {w : World} {g : Nat} {x y : Int} (h : w.heap[g]? = some (.cells #[.int .i64 x, .int .i64 y] 3 (0, 0))) : Calls Tryz.prog 44 #[.slice (some ⟨g, 0, none⟩) 2 2] w fun e w' => e = .returned (.int .i64 (if x = 0 then y else x)) ∧ w' = w := by
  have c0 := cell_of h 0
  have c1 := cell_of h 1
  go_enter Tryz.func44, Tryz.ntmps44
  simp at c0 c1
  go_wp2_with fail
  go_loopw [8] (fun iv wr => ∃ k : Nat, k ≤ 2 ∧ iv = .int .i64 k ∧ wr = w ∧ (1 ≤ k → x = 0) ∧ (2 ≤ k → y = 0)) (fun iv _ => 2 - (intOf iv).toNat)
  case atStart => exact ⟨0, by omega, rfl, rfl, by omega, by omega⟩
  case round =>
    obtain ⟨k, hk, rfl, rfl, hx, hy⟩ := hrel
    have hk3 : k = 0 ∨ k = 1 ∨ k = 2 := by omega
    rcases hk3 with rfl | rfl | rfl
    · clear hx hy hk
      by_cases h0 : x = 0
      · subst h0
        go_wp2_with fail
        go_roundw
        case rel => exact ⟨1, by omega, by go_num, by first | rfl | trivial, by first | trivial | (intro _; rfl) | simp, by first | trivial | omega | simp⟩
        case measure => simp [intOf]
      · have hb : (x == 0) = false := by rw [beq_eq_false_iff_ne]; exact h0
        go_wp2_with fail
        go_ret
        first | (rw [if_neg h0]; exact ⟨rfl, rfl⟩) | (simp [h0])
    · obtain rfl := hx (by omega)
      clear hx hy hk
      by_cases h0 : y = 0
      · subst h0
        go_wp2_with fail
        go_roundw
        case rel => exact ⟨2, by omega, by go_num, by first | rfl | trivial, by first | trivial | (intro _; rfl) | simp, by first | trivial | (intro _; rfl) | simp⟩
        case measure => simp [intOf]
      · have hb : (y == 0) = false := by rw [beq_eq_false_iff_ne]; exact h0
        go_wp2_with fail
        go_ret
        first | (rw [if_pos rfl]; exact ⟨rfl, rfl⟩) | simp
    · obtain rfl := hx (by omega)
      obtain rfl := hy (by omega)
      clear hx hy hk
      go_wp2_with fail
      go_ret
      first | (rw [if_pos rfl]; exact ⟨rfl, rfl⟩) | simp
set_option maxRecDepth 100000 in
set_option maxHeartbeats 2000000 in
theorem cmpE_any (x y : Int × Int) (W : World) : Calls Tryz.prog 43 #[.agg #[.int .i64 x.1, .int .i64 x.2], .agg #[.int .i64 y.1, .int .i64 y.2]] W fun e w' => e = .returned (.int .i64 (cfE x y)) ∧ ∃ q os', w' = grow (W.drewN q) os' := by
  have HI := Lib.hid (fun W' => cmpI_any x.1 y.1 W')
  have HJ := Lib.hid (fun W' => cmpI_any x.2 y.2 W')
  have HC : Hid (cfE x y = if Lib.compareInt x.1 y.1 = 0 then Lib.compareInt x.2 y.2 else Lib.compareInt x.1 y.1) := Lib.hid rfl
  generalize Lib.compareInt x.1 y.1 = c1 at HI HC
  generalize Lib.compareInt x.2 y.2 = c2 at HJ HC
  go_enter Tryz.func43, Tryz.ntmps43
  go_wp2_with fail
  have hs1 : ((W.alloc (.cells #[.int .i64 x.1, .int .i64 x.2] 49)).alloc (.cells #[.int .i64 y.1, .int .i64 y.2] 49)).heap.size = W.heap.size + 2 := by rw [asz, asz]
  have ha := alloc_at W (.cells #[.int .i64 x.1, .int .i64 x.2] 49)
  have hb := alloc_at (W.alloc (.cells #[.int .i64 x.1, .int .i64 x.2] 49)) (.cells #[.int .i64 y.1, .int .i64 y.2] 49)
  rw [asz] at hb
  have ha' := ((below_new (w := W.alloc (.cells #[.int .i64 x.1, .int .i64 x.2] 49)) (.cells #[.int .i64 y.1, .int .i64 y.2] 49)).block W.heap.size (by rw [asz]; omega)).trans ha
  have HE : Hid ((W.alloc (.cells #[.int .i64 x.1, .int .i64 x.2] 49)).alloc (.cells #[.int .i64 y.1, .int .i64 y.2] 49) = grow W #[.cells #[.int .i64 x.1, .int .i64 x.2] 49, .cells #[.int .i64 y.1, .int .i64 y.2] 49]) := Lib.hid (by rw [alloc_eq_grow, alloc_eq_grow, grow_grow]; rfl)
  generalize hWA : (W.alloc (.cells #[.int .i64 x.1, .int .i64 x.2] 49)).alloc (.cells #[.int .i64 y.1, .int .i64 y.2] 49) = WA at *
  clear hWA ha
  have d1 : WA.drew.cell? ⟨W.heap.size, 0, none⟩ = some (.int .i64 x.1) := cell_of ha' 0
  have d2 : WA.drew.cell? ⟨W.heap.size, 1, none⟩ = some (.int .i64 x.2) := cell_of ha' 1
  have e1 : WA.drew.cell? ⟨W.heap.size + 1, 0, none⟩ = some (.int .i64 y.1) := cell_of hb 0
  have e2 : WA.drew.cell? ⟨W.heap.size + 1, 1, none⟩ = some (.int .i64 y.2) := cell_of hb 1
  have hS0 : WA.drew.cell? ⟨W.heap.size, 0, none⟩ = some (.int .i64 x.1) ∧ WA.drew.cell? ⟨W.heap.size, 1, none⟩ = some (.int .i64 x.2) ∧ WA.drew.cell? ⟨W.heap.size + 1, 0, none⟩ = some (.int .i64 y.1) ∧ WA.drew.cell? ⟨W.heap.size + 1, 1, none⟩ = some (.int .i64 y.2) := ⟨d1, d2, e1, e2⟩
  have hbl := below_new (w := WA.drew) (.cells #[.int .i64 c1, .int .i64 c2] 3)
  have hszd : WA.drew.heap.size = W.heap.size + 2 := hs1
  have hS1 : (WA.drew.alloc (.cells #[.int .i64 c1, .int .i64 c2] 3)).cell? ⟨W.heap.size, 0, none⟩ = some (.int .i64 x.1) ∧ (WA.drew.alloc (.cells #[.int .i64 c1, .int .i64 c2] 3)).cell? ⟨W.heap.size, 1, none⟩ = some (.int .i64 x.2) ∧ (WA.drew.alloc (.cells #[.int .i64 c1, .int .i64 c2] 3)).cell? ⟨W.heap.size + 1, 0, none⟩ = some (.int .i64 y.1) ∧ (WA.drew.alloc (.cells #[.int .i64 c1, .int .i64 c2] 3)).cell? ⟨W.heap.size + 1, 1, none⟩ = some (.int .i64 y.2) :=
    ⟨(hbl.cell (p := ⟨W.heap.size, 0, none⟩) (show W.heap.size < WA.drew.heap.size by omega)).trans d1, (hbl.cell (p := ⟨W.heap.size, 1, none⟩) (show W.heap.size < WA.drew.heap.size by omega)).trans d2, (hbl.cell (p := ⟨W.heap.size + 1, 0, none⟩) (show W.heap.size + 1 < WA.drew.heap.size by omega)).trans e1, (hbl.cell (p := ⟨W.heap.size + 1, 1, none⟩) (show W.heap.size + 1 < WA.drew.heap.size by omega)).trans e2⟩
  have HOR := Lib.hid (or_any (alloc_at WA.drew (.cells #[.int .i64 c1, .int .i64 c2] 3)))
  clear d1 d2 e1 e2 hbl hszd ha' hb hs1
  obtain ⟨r, hr⟩ : ∃ r, r = if c1 = 0 then c2 else c1 := ⟨_, rfl⟩
  rw [← hr] at HOR HC
  clear hr
  refine wp_region_held_drew (S := fun V => V.cell? ⟨W.heap.size, 0, none⟩ = some (.int .i64 x.1) ∧ V.cell? ⟨W.heap.size, 1, none⟩ = some (.int .i64 x.2) ∧ V.cell? ⟨W.heap.size + 1, 0, none⟩ = some (.int .i64 y.1) ∧ V.cell? ⟨W.heap.size + 1, 1, none⟩ = some (.int .i64 y.2)) (by kernel_rfl) hS0 (fun hHeld => ?_)
  refine wpAnyH_take (i := 0) (oi := { dst := some 5, op := Op.fieldAddr 49 (Operand.tmp 2) 0, type := 0, pos := "tell.go:39", after := #[], guard := none }) (v := ?vv1) rfl (by kernel_rfl) (by kernel_rfl) (by kernel_rfl) (fun _ _ _ h => h) ?hy1 (by assumption) ?rest1
  case hy1 => (refine Or.inl ⟨by rfl, ?_⟩; intro W hSw; (try dsimp only at hSw); go_simp; (try with_reducible rfl))
  try simp only [Act.put, List.setIfInBounds_toArray, List.set_cons_zero, List.set_cons_succ]
  refine wpAnyH_take (i := 1) (oi := { dst := some 6, op := Op.load 3 (Operand.tmp 5), type := 3, pos := "tell.go:39", after := #[{ on := 0, ground := Ground.data }], guard := none }) (v := ?vv2) rfl (by kernel_rfl) (by kernel_rfl) (by kernel_rfl) (fun _ _ _ h => h) ?hy2 (by assumption) ?rest2
  case hy2 => (refine Or.inl ⟨by rfl, ?_⟩; intro W hSw; (try dsimp only at hSw); go_simp; (try with_reducible rfl))
  try simp only [Act.put, List.setIfInBounds_toArray, List.set_cons_zero, List.set_cons_succ]
  refine wpAnyH_take (i := 2) (oi := { dst := some 7, op := Op.fieldAddr 49 (Operand.tmp 3) 0, type := 0, pos := "tell.go:39", after := #[], guard := none }) (v := ?vv3) rfl (by kernel_rfl) (by kernel_rfl) (by kernel_rfl) (fun _ _ _ h => h) ?hy3 (by assumption) ?rest3
  case hy3 => (refine Or.inl ⟨by rfl, ?_⟩; intro W hSw; (try dsimp only at hSw); go_simp; (try with_reducible rfl))
  try simp only [Act.put, List.setIfInBounds_toArray, List.set_cons_zero, List.set_cons_succ]
  refine wpAnyH_take (i := 3) (oi := { dst := some 8, op := Op.load 3 (Operand.tmp 7), type := 3, pos := "tell.go:39", after := #[{ on := 2, ground := Ground.data }], guard := none }) (v := ?vv4) rfl (by kernel_rfl) (by kernel_rfl) (by kernel_rfl) (fun _ _ _ h => h) ?hy4 (by assumption) ?rest4
  case hy4 => (refine Or.inl ⟨by rfl, ?_⟩; intro W hSw; (try dsimp only at hSw); go_simp; (try with_reducible rfl))
  try simp only [Act.put, List.setIfInBounds_toArray, List.set_cons_zero, List.set_cons_succ]
  refine wpAnyH_take (i := 5) (oi := { dst := some 10, op := Op.fieldAddr 49 (Operand.tmp 2) 1, type := 0, pos := "tell.go:39", after := #[], guard := none }) (v := ?vv5) rfl (by kernel_rfl) (by kernel_rfl) (by kernel_rfl) (fun _ _ _ h => h) ?hy5 (by assumption) ?rest5
  case hy5 => (refine Or.inl ⟨by rfl, ?_⟩; intro W hSw; (try dsimp only at hSw); go_simp; (try with_reducible rfl))
  try simp only [Act.put, List.setIfInBounds_toArray, List.set_cons_zero, List.set_cons_succ]
  refine wpAnyH_take (i := 6) (oi := { dst := some 11, op := Op.load 3 (Operand.tmp 10), type := 3, pos := "tell.go:39", after := #[{ on := 5, ground := Ground.data }], guard := none }) (v := ?vv6) rfl (by kernel_rfl) (by kernel_rfl) (by kernel_rfl) (fun _ _ _ h => h) ?hy6 (by assumption) ?rest6
  case hy6 => (refine Or.inl ⟨by rfl, ?_⟩; intro W hSw; (try dsimp only at hSw); go_simp; (try with_reducible rfl))
  try simp only [Act.put, List.setIfInBounds_toArray, List.set_cons_zero, List.set_cons_succ]
  refine wpAnyH_take (i := 7) (oi := { dst := some 12, op := Op.fieldAddr 49 (Operand.tmp 3) 1, type := 0, pos := "tell.go:39", after := #[], guard := none }) (v := ?vv7) rfl (by kernel_rfl) (by kernel_rfl) (by kernel_rfl) (fun _ _ _ h => h) ?hy7 (by assumption) ?rest7
  case hy7 => (refine Or.inl ⟨by rfl, ?_⟩; intro W hSw; (try dsimp only at hSw); go_simp; (try with_reducible rfl))
  try simp only [Act.put, List.setIfInBounds_toArray, List.set_cons_zero, List.set_cons_succ]
  refine wpAnyH_take (i := 8) (oi := { dst := some 13, op := Op.load 3 (Operand.tmp 12), type := 3, pos := "tell.go:39", after := #[{ on := 7, ground := Ground.data }], guard := none }) (v := ?vv8) rfl (by kernel_rfl) (by kernel_rfl) (by kernel_rfl) (fun _ _ _ h => h) ?hy8 (by assumption) ?rest8
  case hy8 => (refine Or.inl ⟨by rfl, ?_⟩; intro W hSw; (try dsimp only at hSw); go_simp; (try with_reducible rfl))
  try simp only [Act.put, List.setIfInBounds_toArray, List.set_cons_zero, List.set_cons_succ]
  refine wpAnyH_ready (rs := [4]) (by kernel_rfl) (by simp) ?_
  refine AllReadyH.cons (o := { dst := some 9, op := Op.call { callee := Callee.value (Operand.func 45), args := #[Operand.tmp 6, Operand.tmp 8], argTypes := #[3, 3] }, type := 3, pos := "tell.go:39", after := #[{ on := 1, ground := Ground.data }, { on := 3, ground := Ground.data }], guard := none }) rfl (fun K hK => ?step9) ?more9
  case more9 => exact AllReadyH.nil
  ((go_simp; go_at_call 45; refine (HI.out _).mono ?_; rintro e w4 ⟨rfl, rfl⟩; go_wp2_with fail))
  refine hK.out _ _ ?hS9 (fun hHeld => ?rr9)
  case hS9 => (exact hS0)
  clear hK K
  try simp only [Act.put, List.setIfInBounds_toArray, List.set_cons_zero, List.set_cons_succ]
  refine wpAnyH_ready (rs := [9]) (by kernel_rfl) (by simp) ?_
  refine AllReadyH.cons (o := { dst := some 14, op := Op.call { callee := Callee.value (Operand.func 45), args := #[Operand.tmp 11, Operand.tmp 13], argTypes := #[3, 3] }, type := 3, pos := "tell.go:39", after := #[{ on := 6, ground := Ground.data }, { on := 8, ground := Ground.data }, { on := 4, ground := Ground.chain }], guard := none }) rfl (fun K hK => ?step10) ?more10
  case more10 => exact AllReadyH.nil
  ((go_simp; go_at_call 45; refine (HJ.out _).mono ?_; rintro e w4 ⟨rfl, rfl⟩; go_wp2_with fail))
  refine hK.out _ _ ?hS10 (fun hHeld => ?rr10)
  case hS10 => (exact hS0)
  clear hK K
  try simp only [Act.put, List.setIfInBounds_toArray, List.set_cons_zero, List.set_cons_succ]
  refine wpAnyH_ready (rs := [10]) (by kernel_rfl) (by simp) ?_
  refine AllReadyH.cons (o := { dst := some 15, op := Op.buildSlice 38 2 #[(0, Operand.tmp 9), (1, Operand.tmp 14)], type := 38, pos := "tell.go:39", after := #[{ on := 4, ground := Ground.data }, { on := 9, ground := Ground.data }], guard := none }) rfl (fun K hK => ?step11) ?more11
  case more11 => exact AllReadyH.nil
  (go_simp)
  refine hK.out _ _ ?hS11 (fun hHeld => ?rr11)
  case hS11 => (exact hS1)
  clear hK K
  try simp only [Act.put, List.setIfInBounds_toArray, List.set_cons_zero, List.set_cons_succ]
  refine wpAnyH_ready (rs := [11]) (by kernel_rfl) (by simp) ?_
  refine AllReadyH.cons (o := { dst := some 16, op := Op.call { callee := Callee.value (Operand.func 44), args := #[Operand.tmp 15], argTypes := #[38] }, type := 3, pos := "tell.go:39", after := #[{ on := 10, ground := Ground.data }, { on := 9, ground := Ground.chain }], guard := none }) rfl (fun K hK => ?step12) ?more12
  case more12 => exact AllReadyH.nil
  ((go_simp; go_at_call 44; refine (HOR.out).mono ?_; rintro e w4 ⟨rfl, rfl⟩; go_wp2_with fail))
  refine hK.out _ _ ?hS12 (fun hHeld => ?rr12)
  case hS12 => (exact hS1)
  clear hK K
  try simp only [Act.put, List.setIfInBounds_toArray, List.set_cons_zero, List.set_cons_succ]
  refine wpAnyH_ready (rs := [12]) (by kernel_rfl) (by simp) ?_
  refine AllReadyH.cons (o := { dst := some 4, op := Op.assign (Operand.tmp 16), type := 3, pos := "tell.go:39", after := #[{ on := 11, ground := Ground.data }, { on := 11, ground := Ground.chain }, { on := 0, ground := Ground.phase }, { on := 1, ground := Ground.phase }, { on := 2, ground := Ground.phase }, { on := 3, ground := Ground.phase }, { on := 4, ground := Ground.phase }, { on := 5, ground := Ground.phase }, { on := 6, ground := Ground.phase }, { on := 7, ground := Ground.phase }, { on := 8, ground := Ground.phase }, { on := 9, ground := Ground.phase }, { on := 10, ground := Ground.phase }, { on := 11, ground := Ground.phase }], guard := none }) rfl (fun K hK => ?step13) ?more13
  case more13 => exact AllReadyH.nil
  (go_simp)
  refine hK.out _ _ ?hS13 (fun hHeld => ?rr13)
  case hS13 => (exact hS1)
  clear hK K
  try simp only [Act.put, List.setIfInBounds_toArray, List.set_cons_zero, List.set_cons_succ]
  refine wpAnyH_done (by kernel_rfl) ?_ _
  clear hHeld
  go_wp2_with fail
  go_ret
  refine ⟨by first | (rw [HC.out]; done) | (rw [HC.out]; rfl) | exact HC.out.symm | (simp [HC.out]; done), 1, #[.cells #[.int .i64 x.1, .int .i64 x.2] 49, .cells #[.int .i64 y.1, .int .i64 y.2] 49] ++ #[.cells #[.int .i64 c1, .int .i64 c2] 3], ?_⟩
  rw [HE.out, ← grow_grow]
  rfl
theorem cmpE_lays (blk off size : Nat) (w : World) : CmpLays Tryz.prog 43 #[] encE 2 cfE blk off size w := fun _ _ _ _ x y => cmpE_any x y _
theorem list_arr {α : Type} (d : Array α) : d.toList.toArray = d := by simp
theorem esort_any {w : World} {v : Value} {T : List (Int × Int)} (h : RowIs w 2 v T.length (edC T)) (hl : T.length ≤ 16777216) : Calls Tryz.prog 42 #[v, .func (.func 43) #[] #[]] w fun e w' => e = .returned (.tuple #[]) ∧ ∃ S : List (Int × Int), S.Perm T ∧ (S.Pairwise fun x y => ¬ ltE y x) ∧ RowIs w' 2 v S.length (edC S) ∧ Touch (fun b => v.ownBlock = some b) w w' := by
  rcases h with ⟨rfl, h1, h2⟩ | ⟨g, cap, rfl, h1, h2, h3⟩
  · have : T = [] := List.eq_nil_of_length_eq_zero h1
    subst this
    refine (AnyF.slices_SortFunc_none Tryz.sortF none 0 _ w).mono ?_
    rintro e w' ⟨rfl, rfl⟩
    exact ⟨rfl, [], List.Perm.refl _, List.Pairwise.nil, RowIs.nil _ _, Touch.refl _ _⟩
  · have hH : HoldsK encE 2 w g 0 T.toArray := by
      unfold HoldsK
      rw [flat_ed]
      intro j hj
      have hj' : j < (edC T).length := by simpa using hj
      have e1 : (edC T)[j]? = some (edC T)[j] := List.getElem?_eq_getElem hj'
      refine ⟨?_, ?_⟩
      · rw [Nat.zero_add, h3.holds j _ e1]
        simp [hj']
      · rw [Nat.zero_add]
        have := h3.le
        exact (h3.there j (by omega)).2
    have hc := AnyQ.slices_SortFunc Tryz.sortF 2 Tryz.isAgg49 Tryz.sizeOf49 encE (fun _ => rfl) encE_one cfE swoE 43 #[] g 0 cap T.toArray w (enters_of Tryz.func43 (by kernel_rfl) rfl) (cmpE_lays g 0 _ w) hH h3.lt (by simp; omega)
    have hsz : T.toArray.size = T.length := by simp
    rw [hsz] at hc
    refine hc.mono ?_
    rintro e w' ⟨rfl, d', n, os, ⟨p1, _, p3⟩, hs, rfl⟩
    have q1 : d'.size = T.length := by rw [p1, hsz]
    have hd : d' = d'.toList.toArray := (list_arr d').symm
    have hlen : d'.toList.length = T.length := by rw [Array.length_toList, q1]
    refine ⟨rfl, d'.toList, ?_, ?_, ?_⟩
    · have e1 : (d'.extract 0 T.length).toList = d'.toList := by rw [← q1]; simp
      have e2 : (T.toArray.extract 0 T.length).toList = T := by simp
      rw [e1, e2] at p3
      exact p3
    · rw [List.pairwise_iff_getElem]
      intro i j hi hj hij e
      have := hs i j (Nat.zero_le _) hij (by omega)
      rw [Bool.eq_false_iff] at this
      apply this
      rw [ltE_cf]
      rw [Array.length_toList] at hi hj
      rw [getElem!_pos d' i hi, getElem!_pos d' j hj]
      simpa using e
    · have hw : sortWorldK encE 2 w g 0 n d' os = grow (putRow id (Sort.ahead w n) g 0 (edC d'.toList).toArray) os := by
        unfold sortWorldK putRowK
        rw [← flat_ed, list_arr]
      obtain ⟨r1, r2⟩ := row_laid (n := n) (os := os) h3 (m := edC d'.toList) (by rw [edC_len, edC_len, hlen])
      rw [hw]
      exact ⟨.inr ⟨g, cap, by rw [hlen], edC_len _, by rw [hlen]; exact h2, r1⟩, r2.mono (fun k _ e => by rw [e]; rfl)⟩
end Go.Proofs.YtmchmlkbpocboaaGreatDoor
