/- The law's same: a chain has the versions of the document's. -/
import Derived.Test.YtmaokoekbjjgfaaDoorZChdK
set_option linter.unusedSimpArgs false
set_option linter.unusedVariables false
set_option linter.unnecessarySimpa false
namespace Go.Proofs.YtmaokoekbjjgfaaDoor
open Go.RowKit Go.Shelf

set_option maxRecDepth 100000 in
set_option maxHeartbeats 16000000 in
theorem same_any {w : World} {c r : Nat} {v v' : Value} {L : List Ver} (hc : Ch w c v L) (hr : RAt w r v' L) (h0 : 0 < L.length) (hl : L.length ≤ 1000) :
    Calls Tryd.prog 9 #[.pointer (some ⟨c, 0, none⟩), .pointer (some ⟨r, 0, none⟩)] w fun e w' => e = .returned (.bool true) ∧ Below w.heap.size w w' := by
  have HC := Lib.hid hc
  have HR := Lib.hid hr
  have HVE := Lib.hid (Versions_any hc h0)
  have H0 := Lib.hid h0
  obtain ⟨u0, hu0⟩ : ∃ u0, L[0]? = some u0 := ⟨_, List.getElem?_eq_getElem h0⟩
  obtain ⟨g, cap, rfl, hc1, hc2, ho, _⟩ := hr.row.ver hu0
  unfold maxLen at hc2
  have hrl := heap_lt hr.head
  have kr : w.cell? ⟨r, 0, none⟩ = some (.slice (some ⟨g, 0, none⟩) L.length cap) := cell_of hr.head 0
  have hbV := below_new (w := w) (.cells (verC L).toArray 47)
  have krV : (w.alloc (.cells (verC L).toArray 47)).cell? ⟨r, 0, none⟩ = some (.slice (some ⟨g, 0, none⟩) L.length cap) := (hbV.cell (p := ⟨r, 0, none⟩) hrl).trans kr
  have HBV := Lib.hid hbV
  have HAV := Lib.hid (alloc_at w (.cells (verC L).toArray 47))
  have hlI : (L.length : Int) ≤ 1000 := by omega
  clear hc hr hu0 ho hbV h0
  go_enter Tryd.func9, Tryd.ntmps9
  go_wp2_with fail
  refine (HVE.out).mono ?_
  rintro e w1 ⟨rfl, rfl⟩
  clear HVE
  go_wp2_with fail
  go_loopw [29] (fun iv wx => ∃ (k : Nat) (M : List Ver), k ≤ L.length ∧ iv = .int .i64 k ∧ M.length = L.length ∧ (∀ j : Nat, k ≤ j → M[j]? = L[j]?) ∧ Below w.heap.size w wx ∧ wx.heap[w.heap.size]? = some (.cells (verC M).toArray 47 (0, 0))) (fun iv _ => L.length - (intOf iv).toNat)
  case atStart => exact ⟨0, L, Nat.zero_le _, rfl, rfl, fun _ _ => rfl, HBV.out, HAV.out⟩
  case round =>
    obtain ⟨k, M, hk, rfl, hML, hMj, hb, hV⟩ := hrel
    have HB := Lib.hid hb
    clear krV
    by_cases hlt : k < L.length
    · have hx : L[k]? = some L[k] := List.getElem?_eq_getElem hlt
      generalize L[k] = y at hx
      have hM : M[k]? = some y := (hMj k (Nat.le_refl _)).trans hx
      have hg5 := verC_get hM
      obtain ⟨g', cap', ev, _, _, _, d0, d1, d2, d3, d4⟩ := (HR.out.row.below hb).ver hx
      injection ev with ev _ ev3
      injection ev with ev
      injection ev with ev _ _
      subst ev ev3
      obtain ⟨ua, un, ut, ur, uo⟩ := y
      simp only at d0 d1 d2 d3 d4
      have hsz := heap_lt hV
      have hbn := below_new (w := wr) (.cells #[.int .i64 ua, .int .i64 un, .bool ut, .int .i64 ur, .bool uo] 59)
      have hat := alloc_at wr (.cells #[.int .i64 ua, .int .i64 un, .bool ut, .int .i64 ur, .bool uo] 59)
      have hV1 := (hbn.block _ hsz).trans hV
      have kk : ∀ q, q < 5 → (wr.alloc (.cells #[.int .i64 ua, .int .i64 un, .bool ut, .int .i64 ur, .bool uo] 59)).cell? ⟨w.heap.size, k * 5 + q, none⟩ = (verV ⟨ua, un, ut, ur, uo⟩)[q]? := fun q hq => by
        rw [cell_of hV1, ← hg5 q hq]
        simp
      have HS : Hid ((wr.alloc (.cells #[.int .i64 ua, .int .i64 un, .bool ut, .int .i64 ur, .bool uo] 59)).drew.cell? ⟨w.heap.size, k * 5, none⟩ = some (.int .i64 ua) ∧ (wr.alloc (.cells #[.int .i64 ua, .int .i64 un, .bool ut, .int .i64 ur, .bool uo] 59)).drew.cell? ⟨w.heap.size, k * 5 + 1, none⟩ = some (.int .i64 un) ∧ (wr.alloc (.cells #[.int .i64 ua, .int .i64 un, .bool ut, .int .i64 ur, .bool uo] 59)).drew.cell? ⟨w.heap.size, k * 5 + 2, none⟩ = some (.bool ut) ∧ (wr.alloc (.cells #[.int .i64 ua, .int .i64 un, .bool ut, .int .i64 ur, .bool uo] 59)).drew.cell? ⟨w.heap.size, k * 5 + 3, none⟩ = some (.int .i64 ur) ∧ (wr.alloc (.cells #[.int .i64 ua, .int .i64 un, .bool ut, .int .i64 ur, .bool uo] 59)).drew.cell? ⟨w.heap.size, k * 5 + 4, none⟩ = some (.bool uo) ∧
        (wr.alloc (.cells #[.int .i64 ua, .int .i64 un, .bool ut, .int .i64 ur, .bool uo] 59)).drew.cell? ⟨wr.heap.size, 0, none⟩ = some (.int .i64 ua) ∧ (wr.alloc (.cells #[.int .i64 ua, .int .i64 un, .bool ut, .int .i64 ur, .bool uo] 59)).drew.cell? ⟨wr.heap.size, 1, none⟩ = some (.int .i64 un) ∧ (wr.alloc (.cells #[.int .i64 ua, .int .i64 un, .bool ut, .int .i64 ur, .bool uo] 59)).drew.cell? ⟨wr.heap.size, 2, none⟩ = some (.bool ut) ∧ (wr.alloc (.cells #[.int .i64 ua, .int .i64 un, .bool ut, .int .i64 ur, .bool uo] 59)).drew.cell? ⟨wr.heap.size, 3, none⟩ = some (.int .i64 ur) ∧ (wr.alloc (.cells #[.int .i64 ua, .int .i64 un, .bool ut, .int .i64 ur, .bool uo] 59)).drew.cell? ⟨wr.heap.size, 4, none⟩ = some (.bool uo)) :=
        Lib.hid ⟨kk 0 (by omega), kk 1 (by omega), kk 2 (by omega), kk 3 (by omega), kk 4 (by omega), cell_of hat 0, cell_of hat 1, cell_of hat 2, cell_of hat 3, cell_of hat 4⟩
      have HLT := Lib.hid hlt
      have HB1 := Lib.hid (hb.trans (hbn.mono hb.size))
      have HV1 := Lib.hid hV1
      have HM := Lib.hid hM
      have HML := Lib.hid hML
      have HMJ := Lib.hid hMj
      have hi : (k : Int) < (L.length : Int) := by omega
      have n1 := kk 1 (by omega)
      have n1' : (wr.alloc (.cells #[.int .i64 ua, .int .i64 un, .bool ut, .int .i64 ur, .bool uo] 59)).drew.cell? ⟨w.heap.size, k * 5 + 1, none⟩ = some (.int .i64 un) := n1
      have fz : (wr.alloc (.cells #[.int .i64 ua, .int .i64 un, .bool ut, .int .i64 ur, .bool uo] 59)).drew.frozen? ⟨w.heap.size, k * 5 + 1, none⟩ = false := free0 hV1 (k * 5 + 1)
      have HNX : Hid ((M.set k ⟨ua, wrap64 (un + 1), ut, ur, uo⟩).length = L.length ∧ (∀ j : Nat, k + 1 ≤ j → (M.set k ⟨ua, wrap64 (un + 1), ut, ur, uo⟩)[j]? = L[j]?) ∧ Below w.heap.size w ((wr.alloc (.cells #[.int .i64 ua, .int .i64 un, .bool ut, .int .i64 ur, .bool uo] 59)).setCell ⟨w.heap.size, k * 5 + 1, none⟩ (.int .i64 (wrap64 (un + 1)))).drew ∧ ((wr.alloc (.cells #[.int .i64 ua, .int .i64 un, .bool ut, .int .i64 ur, .bool uo] 59)).setCell ⟨w.heap.size, k * 5 + 1, none⟩ (.int .i64 (wrap64 (un + 1)))).drew.heap[w.heap.size]? = some (.cells (verC (M.set k ⟨ua, wrap64 (un + 1), ut, ur, uo⟩)).toArray 47 (0, 0))) := Lib.hid ⟨by rw [List.length_set]; exact hML, fun j hj => by rw [List.getElem?_set_ne (by omega)]; exact hMj j (by omega), below_drew ((hb.trans (hbn.mono hb.size)).setCell (p := ⟨w.heap.size, k * 5 + 1, none⟩) (Nat.le_refl _) _), by
        have h9 := set_at hV1 (k * 5 + 1) (.int .i64 (wrap64 (un + 1)))
        rw [List.setIfInBounds_toArray, verC_set hM (by omega) (show verV ⟨ua, wrap64 (un + 1), ut, ur, uo⟩ = (verV ⟨ua, un, ut, ur, uo⟩).set 1 (.int .i64 (wrap64 (un + 1))) from rfl)] at h9
        exact h9⟩
      clear hx hM hg5 hsz hbn hat hV1 kk hb hV hk hlt hML hMj n1
      go_wp2_with fail
      refine wp_only ?_
      refine wp_region_held_drew (S := fun W => W.cell? ⟨w.heap.size, k * 5, none⟩ = some (.int .i64 ua) ∧ W.cell? ⟨w.heap.size, k * 5 + 1, none⟩ = some (.int .i64 un) ∧ W.cell? ⟨w.heap.size, k * 5 + 2, none⟩ = some (.bool ut) ∧ W.cell? ⟨w.heap.size, k * 5 + 3, none⟩ = some (.int .i64 ur) ∧ W.cell? ⟨w.heap.size, k * 5 + 4, none⟩ = some (.bool uo) ∧ W.cell? ⟨wr.heap.size, 0, none⟩ = some (.int .i64 ua) ∧ W.cell? ⟨wr.heap.size, 1, none⟩ = some (.int .i64 un) ∧ W.cell? ⟨wr.heap.size, 2, none⟩ = some (.bool ut) ∧ W.cell? ⟨wr.heap.size, 3, none⟩ = some (.int .i64 ur) ∧ W.cell? ⟨wr.heap.size, 4, none⟩ = some (.bool uo)) (by kernel_rfl) HS.out (fun hHeld => ?_)
      refine wpAnyH_take (i := 0) (oi := { dst := some 34, op := Op.move (Operand.tmp 5), type := 48, pos := "law.go:39", after := #[], guard := none }) (v := ?vv1) rfl (by kernel_rfl) (by kernel_rfl) (by kernel_rfl) (fun _ _ _ h => h) ?hy1 (by assumption) ?rest1
      case hy1 => (refine Or.inl ⟨by rfl, ?_⟩; intro W hSw; (try dsimp only at hSw); go_simp; (try with_reducible rfl))
      try simp only [Act.put, List.setIfInBounds_toArray, List.set_cons_zero, List.set_cons_succ]
      refine wpAnyH_take (i := 1) (oi := { dst := some 35, op := Op.move (Operand.tmp 6), type := 3, pos := "law.go:39", after := #[], guard := none }) (v := ?vv2) rfl (by kernel_rfl) (by kernel_rfl) (by kernel_rfl) (fun _ _ _ h => h) ?hy2 (by assumption) ?rest2
      case hy2 => (refine Or.inl ⟨by rfl, ?_⟩; intro W hSw; (try dsimp only at hSw); go_simp; (try with_reducible rfl))
      try simp only [Act.put, List.setIfInBounds_toArray, List.set_cons_zero, List.set_cons_succ]
      refine wpAnyH_take (i := 2) (oi := { dst := some 36, op := Op.indexAddr 48 (Operand.tmp 34) (Operand.tmp 35), type := 0, pos := "law.go:39", after := #[{ on := 0, ground := Ground.data }, { on := 1, ground := Ground.data }], guard := none }) (v := ?vv3) rfl (by kernel_rfl) (by kernel_rfl) (by kernel_rfl) (fun _ _ _ h => h) ?hy3 (by assumption) ?rest3
      case hy3 => (refine Or.inl ⟨by rfl, ?_⟩; intro W hSw; (try dsimp only at hSw); go_simp; (try with_reducible rfl))
      try simp only [Act.put, List.setIfInBounds_toArray, List.set_cons_zero, List.set_cons_succ]
      refine wpAnyH_take (i := 3) (oi := { dst := some 37, op := Op.fieldAddr 47 (Operand.tmp 36) 0, type := 0, pos := "law.go:39", after := #[{ on := 2, ground := Ground.data }], guard := none }) (v := ?vv4) rfl (by kernel_rfl) (by kernel_rfl) (by kernel_rfl) (fun _ _ _ h => h) ?hy4 (by assumption) ?rest4
      case hy4 => (refine Or.inl ⟨by rfl, ?_⟩; intro W hSw; (try dsimp only at hSw); go_simp; (try with_reducible rfl))
      try simp only [Act.put, List.setIfInBounds_toArray, List.set_cons_zero, List.set_cons_succ]
      refine wpAnyH_take (i := 4) (oi := { dst := some 38, op := Op.load 3 (Operand.tmp 37), type := 3, pos := "law.go:39", after := #[{ on := 3, ground := Ground.data }], guard := none }) (v := ?vv5) rfl (by kernel_rfl) (by kernel_rfl) (by kernel_rfl) (fun _ _ _ h => h) ?hy5 (by assumption) ?rest5
      case hy5 => (refine Or.inl ⟨by rfl, ?_⟩; intro W hSw; (try dsimp only at hSw); go_simp; (try with_reducible rfl))
      try simp only [Act.put, List.setIfInBounds_toArray, List.set_cons_zero, List.set_cons_succ]
      refine wpAnyH_take (i := 5) (oi := { dst := some 39, op := Op.fieldAddr 59 (Operand.tmp 7) 0, type := 0, pos := "law.go:39", after := #[], guard := none }) (v := ?vv6) rfl (by kernel_rfl) (by kernel_rfl) (by kernel_rfl) (fun _ _ _ h => h) ?hy6 (by assumption) ?rest6
      case hy6 => (refine Or.inl ⟨by rfl, ?_⟩; intro W hSw; (try dsimp only at hSw); go_simp; (try with_reducible rfl))
      try simp only [Act.put, List.setIfInBounds_toArray, List.set_cons_zero, List.set_cons_succ]
      refine wpAnyH_take (i := 6) (oi := { dst := some 40, op := Op.load 3 (Operand.tmp 39), type := 3, pos := "law.go:39", after := #[{ on := 5, ground := Ground.data }], guard := none }) (v := ?vv7) rfl (by kernel_rfl) (by kernel_rfl) (by kernel_rfl) (fun _ _ _ h => h) ?hy7 (by assumption) ?rest7
      case hy7 => (refine Or.inl ⟨by rfl, ?_⟩; intro W hSw; (try dsimp only at hSw); go_simp; (try with_reducible rfl))
      try simp only [Act.put, List.setIfInBounds_toArray, List.set_cons_zero, List.set_cons_succ]
      refine wpAnyH_take (i := 7) (oi := { dst := some 41, op := Op.binOp BinOp.neq 3 (Operand.tmp 38) (Operand.tmp 40) 3, type := 4, pos := "law.go:39", after := #[{ on := 4, ground := Ground.data }, { on := 6, ground := Ground.data }], guard := none }) (v := ?vv8) rfl (by kernel_rfl) (by kernel_rfl) (by kernel_rfl) (fun _ _ _ h => h) ?hy8 (by assumption) ?rest8
      case hy8 => (refine Or.inl ⟨by rfl, ?_⟩; intro W hSw; (try dsimp only at hSw); go_simp; (try with_reducible rfl))
      try simp only [Act.put, List.setIfInBounds_toArray, List.set_cons_zero, List.set_cons_succ]
      refine wpAnyH_take (i := 8) (oi := { dst := some 42, op := Op.move (Operand.tmp 41), type := 4, pos := "law.go:39", after := #[{ on := 7, ground := Ground.data }], guard := none }) (v := ?vv9) rfl (by kernel_rfl) (by kernel_rfl) (by kernel_rfl) (fun _ _ _ h => h) ?hy9 (by assumption) ?rest9
      case hy9 => (refine Or.inl ⟨by rfl, ?_⟩; intro W hSw; (try dsimp only at hSw); go_simp; (try with_reducible rfl))
      try simp only [Act.put, List.setIfInBounds_toArray, List.set_cons_zero, List.set_cons_succ]
      refine wpAnyH_take (i := 9) (oi := { dst := some 43, op := Op.move (Operand.tmp 5), type := 48, pos := "law.go:39", after := #[{ on := 8, ground := Ground.guard }], guard := some (8, false) }) (v := ?vv10) rfl (by kernel_rfl) (by kernel_rfl) (by kernel_rfl) (fun _ _ _ h => h) ?hy10 (by assumption) ?rest10
      case hy10 => (refine Or.inl ⟨by rfl, ?_⟩; intro W hSw; (try dsimp only at hSw); go_simp; (try with_reducible rfl))
      try simp only [Act.put, List.setIfInBounds_toArray, List.set_cons_zero, List.set_cons_succ]
      refine wpAnyH_take (i := 10) (oi := { dst := some 44, op := Op.move (Operand.tmp 6), type := 3, pos := "law.go:39", after := #[{ on := 8, ground := Ground.guard }], guard := some (8, false) }) (v := ?vv11) rfl (by kernel_rfl) (by kernel_rfl) (by kernel_rfl) (fun _ _ _ h => h) ?hy11 (by assumption) ?rest11
      case hy11 => (refine Or.inl ⟨by rfl, ?_⟩; intro W hSw; (try dsimp only at hSw); go_simp; (try with_reducible rfl))
      try simp only [Act.put, List.setIfInBounds_toArray, List.set_cons_zero, List.set_cons_succ]
      refine wpAnyH_take (i := 11) (oi := { dst := some 45, op := Op.indexAddr 48 (Operand.tmp 43) (Operand.tmp 44), type := 0, pos := "law.go:39", after := #[{ on := 9, ground := Ground.data }, { on := 10, ground := Ground.data }, { on := 8, ground := Ground.guard }], guard := some (8, false) }) (v := ?vv12) rfl (by kernel_rfl) (by kernel_rfl) (by kernel_rfl) (fun _ _ _ h => h) ?hy12 (by assumption) ?rest12
      case hy12 => (refine Or.inl ⟨by rfl, ?_⟩; intro W hSw; (try dsimp only at hSw); go_simp; (try with_reducible rfl))
      try simp only [Act.put, List.setIfInBounds_toArray, List.set_cons_zero, List.set_cons_succ]
      refine wpAnyH_take (i := 12) (oi := { dst := some 46, op := Op.fieldAddr 47 (Operand.tmp 45) 1, type := 0, pos := "law.go:39", after := #[{ on := 11, ground := Ground.data }, { on := 8, ground := Ground.guard }], guard := some (8, false) }) (v := ?vv13) rfl (by kernel_rfl) (by kernel_rfl) (by kernel_rfl) (fun _ _ _ h => h) ?hy13 (by assumption) ?rest13
      case hy13 => (refine Or.inl ⟨by rfl, ?_⟩; intro W hSw; (try dsimp only at hSw); go_simp; (try with_reducible rfl))
      try simp only [Act.put, List.setIfInBounds_toArray, List.set_cons_zero, List.set_cons_succ]
      refine wpAnyH_take (i := 13) (oi := { dst := some 47, op := Op.load 2 (Operand.tmp 46), type := 2, pos := "law.go:39", after := #[{ on := 12, ground := Ground.data }, { on := 8, ground := Ground.guard }], guard := some (8, false) }) (v := ?vv14) rfl (by kernel_rfl) (by kernel_rfl) (by kernel_rfl) (fun _ _ _ h => h) ?hy14 (by assumption) ?rest14
      case hy14 => (refine Or.inl ⟨by rfl, ?_⟩; intro W hSw; (try dsimp only at hSw); go_simp; (try with_reducible rfl))
      try simp only [Act.put, List.setIfInBounds_toArray, List.set_cons_zero, List.set_cons_succ]
      refine wpAnyH_take (i := 14) (oi := { dst := some 48, op := Op.fieldAddr 59 (Operand.tmp 7) 1, type := 0, pos := "law.go:39", after := #[{ on := 8, ground := Ground.guard }], guard := some (8, false) }) (v := ?vv15) rfl (by kernel_rfl) (by kernel_rfl) (by kernel_rfl) (fun _ _ _ h => h) ?hy15 (by assumption) ?rest15
      case hy15 => (refine Or.inl ⟨by rfl, ?_⟩; intro W hSw; (try dsimp only at hSw); go_simp; (try with_reducible rfl))
      try simp only [Act.put, List.setIfInBounds_toArray, List.set_cons_zero, List.set_cons_succ]
      refine wpAnyH_take (i := 15) (oi := { dst := some 49, op := Op.load 2 (Operand.tmp 48), type := 2, pos := "law.go:39", after := #[{ on := 14, ground := Ground.data }, { on := 8, ground := Ground.guard }], guard := some (8, false) }) (v := ?vv16) rfl (by kernel_rfl) (by kernel_rfl) (by kernel_rfl) (fun _ _ _ h => h) ?hy16 (by assumption) ?rest16
      case hy16 => (refine Or.inl ⟨by rfl, ?_⟩; intro W hSw; (try dsimp only at hSw); go_simp; (try with_reducible rfl))
      try simp only [Act.put, List.setIfInBounds_toArray, List.set_cons_zero, List.set_cons_succ]
      refine wpAnyH_take (i := 16) (oi := { dst := some 50, op := Op.binOp BinOp.neq 2 (Operand.tmp 47) (Operand.tmp 49) 2, type := 4, pos := "law.go:39", after := #[{ on := 13, ground := Ground.data }, { on := 15, ground := Ground.data }, { on := 8, ground := Ground.guard }], guard := some (8, false) }) (v := ?vv17) rfl (by kernel_rfl) (by kernel_rfl) (by kernel_rfl) (fun _ _ _ h => h) ?hy17 (by assumption) ?rest17
      case hy17 => (refine Or.inl ⟨by rfl, ?_⟩; intro W hSw; (try dsimp only at hSw); go_simp; (try with_reducible rfl))
      try simp only [Act.put, List.setIfInBounds_toArray, List.set_cons_zero, List.set_cons_succ]
      refine wpAnyH_take (i := 17) (oi := { dst := some 51, op := Op.pick (Operand.tmp 42) (Operand.const (Value.bool true)) (Operand.tmp 50), type := 4, pos := "law.go:39", after := #[{ on := 8, ground := Ground.data }, { on := 16, ground := Ground.data }], guard := none }) (v := ?vv18) rfl (by kernel_rfl) (by kernel_rfl) (by kernel_rfl) (fun _ _ _ h => h) ?hy18 (by assumption) ?rest18
      case hy18 => (refine Or.inl ⟨by rfl, ?_⟩; intro W hSw; (try dsimp only at hSw); go_simp; (try with_reducible rfl))
      try simp only [Act.put, List.setIfInBounds_toArray, List.set_cons_zero, List.set_cons_succ]
      refine wpAnyH_take (i := 18) (oi := { dst := some 52, op := Op.move (Operand.tmp 51), type := 4, pos := "law.go:39", after := #[{ on := 17, ground := Ground.data }, { on := 8, ground := Ground.chain }], guard := none }) (v := ?vv19) rfl (by kernel_rfl) (by kernel_rfl) (by kernel_rfl) (fun _ _ _ h => h) ?hy19 (by assumption) ?rest19
      case hy19 => (refine Or.inl ⟨by rfl, ?_⟩; intro W hSw; (try dsimp only at hSw); go_simp; (try with_reducible rfl))
      try simp only [Act.put, List.setIfInBounds_toArray, List.set_cons_zero, List.set_cons_succ]
      refine wpAnyH_take (i := 19) (oi := { dst := some 53, op := Op.move (Operand.tmp 5), type := 48, pos := "law.go:39", after := #[{ on := 18, ground := Ground.guard }], guard := some (18, false) }) (v := ?vv20) rfl (by kernel_rfl) (by kernel_rfl) (by kernel_rfl) (fun _ _ _ h => h) ?hy20 (by assumption) ?rest20
      case hy20 => (refine Or.inl ⟨by rfl, ?_⟩; intro W hSw; (try dsimp only at hSw); go_simp; (try with_reducible rfl))
      try simp only [Act.put, List.setIfInBounds_toArray, List.set_cons_zero, List.set_cons_succ]
      refine wpAnyH_take (i := 20) (oi := { dst := some 54, op := Op.move (Operand.tmp 6), type := 3, pos := "law.go:39", after := #[{ on := 18, ground := Ground.guard }], guard := some (18, false) }) (v := ?vv21) rfl (by kernel_rfl) (by kernel_rfl) (by kernel_rfl) (fun _ _ _ h => h) ?hy21 (by assumption) ?rest21
      case hy21 => (refine Or.inl ⟨by rfl, ?_⟩; intro W hSw; (try dsimp only at hSw); go_simp; (try with_reducible rfl))
      try simp only [Act.put, List.setIfInBounds_toArray, List.set_cons_zero, List.set_cons_succ]
      refine wpAnyH_take (i := 21) (oi := { dst := some 55, op := Op.indexAddr 48 (Operand.tmp 53) (Operand.tmp 54), type := 0, pos := "law.go:39", after := #[{ on := 19, ground := Ground.data }, { on := 20, ground := Ground.data }, { on := 18, ground := Ground.guard }], guard := some (18, false) }) (v := ?vv22) rfl (by kernel_rfl) (by kernel_rfl) (by kernel_rfl) (fun _ _ _ h => h) ?hy22 (by assumption) ?rest22
      case hy22 => (refine Or.inl ⟨by rfl, ?_⟩; intro W hSw; (try dsimp only at hSw); go_simp; (try with_reducible rfl))
      try simp only [Act.put, List.setIfInBounds_toArray, List.set_cons_zero, List.set_cons_succ]
      refine wpAnyH_take (i := 22) (oi := { dst := some 56, op := Op.fieldAddr 47 (Operand.tmp 55) 2, type := 0, pos := "law.go:39", after := #[{ on := 21, ground := Ground.data }, { on := 18, ground := Ground.guard }], guard := some (18, false) }) (v := ?vv23) rfl (by kernel_rfl) (by kernel_rfl) (by kernel_rfl) (fun _ _ _ h => h) ?hy23 (by assumption) ?rest23
      case hy23 => (refine Or.inl ⟨by rfl, ?_⟩; intro W hSw; (try dsimp only at hSw); go_simp; (try with_reducible rfl))
      try simp only [Act.put, List.setIfInBounds_toArray, List.set_cons_zero, List.set_cons_succ]
      refine wpAnyH_take (i := 23) (oi := { dst := some 57, op := Op.load 4 (Operand.tmp 56), type := 4, pos := "law.go:39", after := #[{ on := 22, ground := Ground.data }, { on := 18, ground := Ground.guard }], guard := some (18, false) }) (v := ?vv24) rfl (by kernel_rfl) (by kernel_rfl) (by kernel_rfl) (fun _ _ _ h => h) ?hy24 (by assumption) ?rest24
      case hy24 => (refine Or.inl ⟨by rfl, ?_⟩; intro W hSw; (try dsimp only at hSw); go_simp; (try with_reducible rfl))
      try simp only [Act.put, List.setIfInBounds_toArray, List.set_cons_zero, List.set_cons_succ]
      refine wpAnyH_take (i := 24) (oi := { dst := some 58, op := Op.fieldAddr 59 (Operand.tmp 7) 2, type := 0, pos := "law.go:39", after := #[{ on := 18, ground := Ground.guard }], guard := some (18, false) }) (v := ?vv25) rfl (by kernel_rfl) (by kernel_rfl) (by kernel_rfl) (fun _ _ _ h => h) ?hy25 (by assumption) ?rest25
      case hy25 => (refine Or.inl ⟨by rfl, ?_⟩; intro W hSw; (try dsimp only at hSw); go_simp; (try with_reducible rfl))
      try simp only [Act.put, List.setIfInBounds_toArray, List.set_cons_zero, List.set_cons_succ]
      refine wpAnyH_take (i := 25) (oi := { dst := some 59, op := Op.load 4 (Operand.tmp 58), type := 4, pos := "law.go:39", after := #[{ on := 24, ground := Ground.data }, { on := 18, ground := Ground.guard }], guard := some (18, false) }) (v := ?vv26) rfl (by kernel_rfl) (by kernel_rfl) (by kernel_rfl) (fun _ _ _ h => h) ?hy26 (by assumption) ?rest26
      case hy26 => (refine Or.inl ⟨by rfl, ?_⟩; intro W hSw; (try dsimp only at hSw); go_simp; (try with_reducible rfl))
      try simp only [Act.put, List.setIfInBounds_toArray, List.set_cons_zero, List.set_cons_succ]
      refine wpAnyH_take (i := 26) (oi := { dst := some 60, op := Op.binOp BinOp.neq 4 (Operand.tmp 57) (Operand.tmp 59) 4, type := 4, pos := "law.go:39", after := #[{ on := 23, ground := Ground.data }, { on := 25, ground := Ground.data }, { on := 18, ground := Ground.guard }], guard := some (18, false) }) (v := ?vv27) rfl (by kernel_rfl) (by kernel_rfl) (by kernel_rfl) (fun _ _ _ h => h) ?hy27 (by assumption) ?rest27
      case hy27 => (refine Or.inl ⟨by rfl, ?_⟩; intro W hSw; (try dsimp only at hSw); go_simp; (try with_reducible rfl))
      try simp only [Act.put, List.setIfInBounds_toArray, List.set_cons_zero, List.set_cons_succ]
      refine wpAnyH_take (i := 27) (oi := { dst := some 61, op := Op.pick (Operand.tmp 52) (Operand.const (Value.bool true)) (Operand.tmp 60), type := 4, pos := "law.go:39", after := #[{ on := 18, ground := Ground.data }, { on := 26, ground := Ground.data }], guard := none }) (v := ?vv28) rfl (by kernel_rfl) (by kernel_rfl) (by kernel_rfl) (fun _ _ _ h => h) ?hy28 (by assumption) ?rest28
      case hy28 => (refine Or.inl ⟨by rfl, ?_⟩; intro W hSw; (try dsimp only at hSw); go_simp; (try with_reducible rfl))
      try simp only [Act.put, List.setIfInBounds_toArray, List.set_cons_zero, List.set_cons_succ]
      refine wpAnyH_take (i := 28) (oi := { dst := some 62, op := Op.move (Operand.tmp 61), type := 4, pos := "law.go:39", after := #[{ on := 27, ground := Ground.data }, { on := 18, ground := Ground.chain }], guard := none }) (v := ?vv29) rfl (by kernel_rfl) (by kernel_rfl) (by kernel_rfl) (fun _ _ _ h => h) ?hy29 (by assumption) ?rest29
      case hy29 => (refine Or.inl ⟨by rfl, ?_⟩; intro W hSw; (try dsimp only at hSw); go_simp; (try with_reducible rfl))
      try simp only [Act.put, List.setIfInBounds_toArray, List.set_cons_zero, List.set_cons_succ]
      refine wpAnyH_take (i := 29) (oi := { dst := some 63, op := Op.move (Operand.tmp 5), type := 48, pos := "law.go:39", after := #[{ on := 28, ground := Ground.guard }], guard := some (28, false) }) (v := ?vv30) rfl (by kernel_rfl) (by kernel_rfl) (by kernel_rfl) (fun _ _ _ h => h) ?hy30 (by assumption) ?rest30
      case hy30 => (refine Or.inl ⟨by rfl, ?_⟩; intro W hSw; (try dsimp only at hSw); go_simp; (try with_reducible rfl))
      try simp only [Act.put, List.setIfInBounds_toArray, List.set_cons_zero, List.set_cons_succ]
      refine wpAnyH_take (i := 30) (oi := { dst := some 64, op := Op.move (Operand.tmp 6), type := 3, pos := "law.go:39", after := #[{ on := 28, ground := Ground.guard }], guard := some (28, false) }) (v := ?vv31) rfl (by kernel_rfl) (by kernel_rfl) (by kernel_rfl) (fun _ _ _ h => h) ?hy31 (by assumption) ?rest31
      case hy31 => (refine Or.inl ⟨by rfl, ?_⟩; intro W hSw; (try dsimp only at hSw); go_simp; (try with_reducible rfl))
      try simp only [Act.put, List.setIfInBounds_toArray, List.set_cons_zero, List.set_cons_succ]
      refine wpAnyH_take (i := 31) (oi := { dst := some 65, op := Op.indexAddr 48 (Operand.tmp 63) (Operand.tmp 64), type := 0, pos := "law.go:39", after := #[{ on := 29, ground := Ground.data }, { on := 30, ground := Ground.data }, { on := 28, ground := Ground.guard }], guard := some (28, false) }) (v := ?vv32) rfl (by kernel_rfl) (by kernel_rfl) (by kernel_rfl) (fun _ _ _ h => h) ?hy32 (by assumption) ?rest32
      case hy32 => (refine Or.inl ⟨by rfl, ?_⟩; intro W hSw; (try dsimp only at hSw); go_simp; (try with_reducible rfl))
      try simp only [Act.put, List.setIfInBounds_toArray, List.set_cons_zero, List.set_cons_succ]
      refine wpAnyH_take (i := 32) (oi := { dst := some 66, op := Op.fieldAddr 47 (Operand.tmp 65) 3, type := 0, pos := "law.go:39", after := #[{ on := 31, ground := Ground.data }, { on := 28, ground := Ground.guard }], guard := some (28, false) }) (v := ?vv33) rfl (by kernel_rfl) (by kernel_rfl) (by kernel_rfl) (fun _ _ _ h => h) ?hy33 (by assumption) ?rest33
      case hy33 => (refine Or.inl ⟨by rfl, ?_⟩; intro W hSw; (try dsimp only at hSw); go_simp; (try with_reducible rfl))
      try simp only [Act.put, List.setIfInBounds_toArray, List.set_cons_zero, List.set_cons_succ]
      refine wpAnyH_take (i := 33) (oi := { dst := some 67, op := Op.load 3 (Operand.tmp 66), type := 3, pos := "law.go:39", after := #[{ on := 32, ground := Ground.data }, { on := 28, ground := Ground.guard }], guard := some (28, false) }) (v := ?vv34) rfl (by kernel_rfl) (by kernel_rfl) (by kernel_rfl) (fun _ _ _ h => h) ?hy34 (by assumption) ?rest34
      case hy34 => (refine Or.inl ⟨by rfl, ?_⟩; intro W hSw; (try dsimp only at hSw); go_simp; (try with_reducible rfl))
      try simp only [Act.put, List.setIfInBounds_toArray, List.set_cons_zero, List.set_cons_succ]
      refine wpAnyH_take (i := 34) (oi := { dst := some 68, op := Op.fieldAddr 59 (Operand.tmp 7) 3, type := 0, pos := "law.go:39", after := #[{ on := 28, ground := Ground.guard }], guard := some (28, false) }) (v := ?vv35) rfl (by kernel_rfl) (by kernel_rfl) (by kernel_rfl) (fun _ _ _ h => h) ?hy35 (by assumption) ?rest35
      case hy35 => (refine Or.inl ⟨by rfl, ?_⟩; intro W hSw; (try dsimp only at hSw); go_simp; (try with_reducible rfl))
      try simp only [Act.put, List.setIfInBounds_toArray, List.set_cons_zero, List.set_cons_succ]
      refine wpAnyH_take (i := 35) (oi := { dst := some 69, op := Op.load 3 (Operand.tmp 68), type := 3, pos := "law.go:39", after := #[{ on := 34, ground := Ground.data }, { on := 28, ground := Ground.guard }], guard := some (28, false) }) (v := ?vv36) rfl (by kernel_rfl) (by kernel_rfl) (by kernel_rfl) (fun _ _ _ h => h) ?hy36 (by assumption) ?rest36
      case hy36 => (refine Or.inl ⟨by rfl, ?_⟩; intro W hSw; (try dsimp only at hSw); go_simp; (try with_reducible rfl))
      try simp only [Act.put, List.setIfInBounds_toArray, List.set_cons_zero, List.set_cons_succ]
      refine wpAnyH_take (i := 36) (oi := { dst := some 70, op := Op.binOp BinOp.neq 3 (Operand.tmp 67) (Operand.tmp 69) 3, type := 4, pos := "law.go:39", after := #[{ on := 33, ground := Ground.data }, { on := 35, ground := Ground.data }, { on := 28, ground := Ground.guard }], guard := some (28, false) }) (v := ?vv37) rfl (by kernel_rfl) (by kernel_rfl) (by kernel_rfl) (fun _ _ _ h => h) ?hy37 (by assumption) ?rest37
      case hy37 => (refine Or.inl ⟨by rfl, ?_⟩; intro W hSw; (try dsimp only at hSw); go_simp; (try with_reducible rfl))
      try simp only [Act.put, List.setIfInBounds_toArray, List.set_cons_zero, List.set_cons_succ]
      refine wpAnyH_take (i := 37) (oi := { dst := some 71, op := Op.pick (Operand.tmp 62) (Operand.const (Value.bool true)) (Operand.tmp 70), type := 4, pos := "law.go:39", after := #[{ on := 28, ground := Ground.data }, { on := 36, ground := Ground.data }], guard := none }) (v := ?vv38) rfl (by kernel_rfl) (by kernel_rfl) (by kernel_rfl) (fun _ _ _ h => h) ?hy38 (by assumption) ?rest38
      case hy38 => (refine Or.inl ⟨by rfl, ?_⟩; intro W hSw; (try dsimp only at hSw); go_simp; (try with_reducible rfl))
      try simp only [Act.put, List.setIfInBounds_toArray, List.set_cons_zero, List.set_cons_succ]
      refine wpAnyH_take (i := 38) (oi := { dst := some 72, op := Op.move (Operand.tmp 71), type := 4, pos := "law.go:39", after := #[{ on := 37, ground := Ground.data }, { on := 28, ground := Ground.chain }], guard := none }) (v := ?vv39) rfl (by kernel_rfl) (by kernel_rfl) (by kernel_rfl) (fun _ _ _ h => h) ?hy39 (by assumption) ?rest39
      case hy39 => (refine Or.inl ⟨by rfl, ?_⟩; intro W hSw; (try dsimp only at hSw); go_simp; (try with_reducible rfl))
      try simp only [Act.put, List.setIfInBounds_toArray, List.set_cons_zero, List.set_cons_succ]
      refine wpAnyH_take (i := 39) (oi := { dst := some 73, op := Op.move (Operand.tmp 5), type := 48, pos := "law.go:39", after := #[{ on := 38, ground := Ground.guard }], guard := some (38, false) }) (v := ?vv40) rfl (by kernel_rfl) (by kernel_rfl) (by kernel_rfl) (fun _ _ _ h => h) ?hy40 (by assumption) ?rest40
      case hy40 => (refine Or.inl ⟨by rfl, ?_⟩; intro W hSw; (try dsimp only at hSw); go_simp; (try with_reducible rfl))
      try simp only [Act.put, List.setIfInBounds_toArray, List.set_cons_zero, List.set_cons_succ]
      refine wpAnyH_take (i := 40) (oi := { dst := some 74, op := Op.move (Operand.tmp 6), type := 3, pos := "law.go:39", after := #[{ on := 38, ground := Ground.guard }], guard := some (38, false) }) (v := ?vv41) rfl (by kernel_rfl) (by kernel_rfl) (by kernel_rfl) (fun _ _ _ h => h) ?hy41 (by assumption) ?rest41
      case hy41 => (refine Or.inl ⟨by rfl, ?_⟩; intro W hSw; (try dsimp only at hSw); go_simp; (try with_reducible rfl))
      try simp only [Act.put, List.setIfInBounds_toArray, List.set_cons_zero, List.set_cons_succ]
      refine wpAnyH_take (i := 41) (oi := { dst := some 75, op := Op.indexAddr 48 (Operand.tmp 73) (Operand.tmp 74), type := 0, pos := "law.go:39", after := #[{ on := 39, ground := Ground.data }, { on := 40, ground := Ground.data }, { on := 38, ground := Ground.guard }], guard := some (38, false) }) (v := ?vv42) rfl (by kernel_rfl) (by kernel_rfl) (by kernel_rfl) (fun _ _ _ h => h) ?hy42 (by assumption) ?rest42
      case hy42 => (refine Or.inl ⟨by rfl, ?_⟩; intro W hSw; (try dsimp only at hSw); go_simp; (try with_reducible rfl))
      try simp only [Act.put, List.setIfInBounds_toArray, List.set_cons_zero, List.set_cons_succ]
      refine wpAnyH_take (i := 42) (oi := { dst := some 76, op := Op.fieldAddr 47 (Operand.tmp 75) 4, type := 0, pos := "law.go:39", after := #[{ on := 41, ground := Ground.data }, { on := 38, ground := Ground.guard }], guard := some (38, false) }) (v := ?vv43) rfl (by kernel_rfl) (by kernel_rfl) (by kernel_rfl) (fun _ _ _ h => h) ?hy43 (by assumption) ?rest43
      case hy43 => (refine Or.inl ⟨by rfl, ?_⟩; intro W hSw; (try dsimp only at hSw); go_simp; (try with_reducible rfl))
      try simp only [Act.put, List.setIfInBounds_toArray, List.set_cons_zero, List.set_cons_succ]
      refine wpAnyH_take (i := 43) (oi := { dst := some 77, op := Op.load 4 (Operand.tmp 76), type := 4, pos := "law.go:39", after := #[{ on := 42, ground := Ground.data }, { on := 38, ground := Ground.guard }], guard := some (38, false) }) (v := ?vv44) rfl (by kernel_rfl) (by kernel_rfl) (by kernel_rfl) (fun _ _ _ h => h) ?hy44 (by assumption) ?rest44
      case hy44 => (refine Or.inl ⟨by rfl, ?_⟩; intro W hSw; (try dsimp only at hSw); go_simp; (try with_reducible rfl))
      try simp only [Act.put, List.setIfInBounds_toArray, List.set_cons_zero, List.set_cons_succ]
      refine wpAnyH_take (i := 44) (oi := { dst := some 78, op := Op.fieldAddr 59 (Operand.tmp 7) 4, type := 0, pos := "law.go:39", after := #[{ on := 38, ground := Ground.guard }], guard := some (38, false) }) (v := ?vv45) rfl (by kernel_rfl) (by kernel_rfl) (by kernel_rfl) (fun _ _ _ h => h) ?hy45 (by assumption) ?rest45
      case hy45 => (refine Or.inl ⟨by rfl, ?_⟩; intro W hSw; (try dsimp only at hSw); go_simp; (try with_reducible rfl))
      try simp only [Act.put, List.setIfInBounds_toArray, List.set_cons_zero, List.set_cons_succ]
      refine wpAnyH_take (i := 45) (oi := { dst := some 79, op := Op.load 4 (Operand.tmp 78), type := 4, pos := "law.go:39", after := #[{ on := 44, ground := Ground.data }, { on := 38, ground := Ground.guard }], guard := some (38, false) }) (v := ?vv46) rfl (by kernel_rfl) (by kernel_rfl) (by kernel_rfl) (fun _ _ _ h => h) ?hy46 (by assumption) ?rest46
      case hy46 => (refine Or.inl ⟨by rfl, ?_⟩; intro W hSw; (try dsimp only at hSw); go_simp; (try with_reducible rfl))
      try simp only [Act.put, List.setIfInBounds_toArray, List.set_cons_zero, List.set_cons_succ]
      refine wpAnyH_take (i := 46) (oi := { dst := some 80, op := Op.binOp BinOp.neq 4 (Operand.tmp 77) (Operand.tmp 79) 4, type := 4, pos := "law.go:39", after := #[{ on := 43, ground := Ground.data }, { on := 45, ground := Ground.data }, { on := 38, ground := Ground.guard }], guard := some (38, false) }) (v := ?vv47) rfl (by kernel_rfl) (by kernel_rfl) (by kernel_rfl) (fun _ _ _ h => h) ?hy47 (by assumption) ?rest47
      case hy47 => (refine Or.inl ⟨by rfl, ?_⟩; intro W hSw; (try dsimp only at hSw); go_simp; (try with_reducible rfl))
      try simp only [Act.put, List.setIfInBounds_toArray, List.set_cons_zero, List.set_cons_succ]
      refine wpAnyH_take (i := 47) (oi := { dst := some 81, op := Op.pick (Operand.tmp 72) (Operand.const (Value.bool true)) (Operand.tmp 80), type := 4, pos := "law.go:39", after := #[{ on := 38, ground := Ground.data }, { on := 46, ground := Ground.data }], guard := none }) (v := ?vv48) rfl (by kernel_rfl) (by kernel_rfl) (by kernel_rfl) (fun _ _ _ h => h) ?hy48 (by assumption) ?rest48
      case hy48 => (refine Or.inl ⟨by rfl, ?_⟩; intro W hSw; (try dsimp only at hSw); go_simp; (try with_reducible rfl))
      try simp only [Act.put, List.setIfInBounds_toArray, List.set_cons_zero, List.set_cons_succ]
      refine wpAnyH_done (by kernel_rfl) ?_ _
      clear hHeld HS
      dsimp only [onlyN]
      go_wp2_with fail
      go_roundw
      case rel => exact ⟨k + 1, M.set k ⟨ua, wrap64 (un + 1), ut, ur, uo⟩, HLT.out, by go_num, HNX.out.1, HNX.out.2.1, HNX.out.2.2.1, HNX.out.2.2.2⟩
      case measure => have := HLT.out; simp [intOf]; omega
    · obtain rfl : k = L.length := by omega
      have HLA := Lib.hid (Latest_any (HC.out.below hb) H0.out)
      have HRA := Lib.hid (fun W (hW : Below wr.heap.size wr W) => rlatest_any (w := W) (HR.out.below (hb.trans (hW.mono hb.size))) (by omega))
      obtain ⟨P, hP⟩ : ∃ P, P = latP L := ⟨_, rfl⟩
      rw [← hP] at HLA HRA
      obtain ⟨P1, P2⟩ := P
      clear hb hV hMj hML hk hlt hP
      go_wp2_with fail
      refine (HLA.out).mono ?_
      rintro e w4 ⟨rfl, hb4⟩
      have HB4 := Lib.hid hb4
      clear hb4 HLA
      go_wp2_with fail
      refine (HRA.out _ HB4.out).mono ?_
      rintro e w5 ⟨rfl, hb5⟩
      have HF := Lib.hid (HB.out.trans ((HB4.out.trans (hb5.mono HB4.out.size)).mono HB.out.size))
      clear hb5 HRA HB4
      go_wp2_with fail
      go_ret
      exact ⟨rfl, HF.out⟩
end Go.Proofs.YtmaokoekbjjgfaaDoor
