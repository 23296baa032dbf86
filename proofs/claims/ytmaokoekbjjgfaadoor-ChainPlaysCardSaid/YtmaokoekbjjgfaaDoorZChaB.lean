/- A chain in memory; the place of a time's version. -/
import Derived.Test.YtmaokoekbjjgfaaDoorZChaA
import Derived.Test.YtmaokoekbjjgfaaDoorZTak
import Derived.Test.YtmaokoekbjjgfaaDoorZEnD
import Derived.Test.YtmaokoekbjjgfaaDoorZShc
set_option linter.unusedSimpArgs false
set_option linter.unusedVariables false
set_option linter.unnecessarySimpa false
namespace Go.Proofs.YtmaokoekbjjgfaaDoor
open Go.RowKit Go.Shelf Go.Sort Go.Lib

def InR64 (x : Int) : Prop := -9223372036854775808 ≤ x ∧ x ≤ 9223372036854775807
def verV (v : Ver) : List Value := [.int .i64 v.at_, .int .i64 v.n, .bool v.there, .int .i64 v.read, .bool v.opn]
def verC (L : List Ver) : List Value := L.flatMap verV
theorem verC_len (L : List Ver) : (verC L).length = L.length * 5 := by
  unfold verC
  induction L with
  | nil => rfl
  | cons v L ih => rw [List.flatMap_cons, List.length_append, ih, List.length_cons]; simp [verV]; omega
theorem verC_snoc (L : List Ver) (v : Ver) : verC (L ++ [v]) = verC L ++ verV v := by unfold verC; simp
theorem verC_get {L : List Ver} : ∀ {i : Nat} {v : Ver}, L[i]? = some v → ∀ j, j < 5 → (verC L)[i * 5 + j]? = (verV v)[j]? := by
  induction L with
  | nil => intro i v h; simp at h
  | cons a L ih =>
    intro i v h j hj
    have e : verC (a :: L) = verV a ++ verC L := by unfold verC; simp
    rw [e]
    cases i with
    | zero =>
      have : a = v := by simpa using h
      subst this
      rw [List.getElem?_append_left (by simp [verV]; omega)]
      simp
    | succ i =>
      have h' : L[i]? = some v := by simpa using h
      rw [List.getElem?_append_right (by simp [verV]; omega)]
      have e2 : (i + 1) * 5 + j - (verV a).length = i * 5 + j := by simp [verV]; omega
      rw [e2]
      exact ih h' j hj
theorem infoV : (Tryd.prog.info? 47).map (fun i => (i.zero, i.size, i.bytes)) = some (some (.agg #[.int .i64 0, .int .i64 0, .bool false, .int .i64 0, .bool false]), 5, 40) := by kernel_rfl
/-- A chain in memory. -/
structure ChAt (w : World) (c : Nat) (v : Value) (L : List Ver) : Prop where
  head : w.heap[c]? = some (.cells #[v] 58 (0, 0))
  row : RowIs w 5 v L.length (verC L)
  off : v.ownBlock ≠ some c
theorem ChAt.below {w w' : World} {c : Nat} {v : Value} {L : List Ver} (h : ChAt w c v L) (hb : Below w.heap.size w w') : ChAt w' c v L :=
  ⟨(hb.block c (heap_lt h.head)).trans h.head, h.row.below hb, h.off⟩
/-- What a version's cells hold. -/
theorem RowIs.ver {w : World} {v : Value} {L : List Ver} (h : RowIs w 5 v L.length (verC L)) {i : Nat} {u : Ver} (hi : L[i]? = some u) : ∃ g cap, v = .slice (some ⟨g, 0, none⟩) L.length cap ∧ L.length ≤ cap ∧ cap ≤ maxLen ∧ v.ownBlock = some g ∧ w.cell? ⟨g, i * 5, none⟩ = some (.int .i64 u.at_) ∧ w.cell? ⟨g, i * 5 + 1, none⟩ = some (.int .i64 u.n) ∧ w.cell? ⟨g, i * 5 + 2, none⟩ = some (.bool u.there) ∧ w.cell? ⟨g, i * 5 + 3, none⟩ = some (.int .i64 u.read) ∧ w.cell? ⟨g, i * 5 + 4, none⟩ = some (.bool u.opn) := by
  rcases h with ⟨rfl, h1, h2⟩ | ⟨g, cap, rfl, h1, h2, hc⟩
  · have := (List.getElem?_eq_some_iff.1 hi).1
    omega
  · have hg := verC_get hi
    exact ⟨g, cap, rfl, h2, hc.max, rfl, hc.holds _ _ (hg 0 (by omega)), hc.holds _ _ (hg 1 (by omega)), hc.holds _ _ (hg 2 (by omega)), hc.holds _ _ (hg 3 (by omega)), hc.holds _ _ (hg 4 (by omega))⟩
theorem below_grow (w : World) (os : Array Obj) : Below w.heap.size w (grow w os) :=
  ⟨rfl, rfl, rfl, by simp, fun k hk => heap_grow_old w os hk⟩
theorem grow_nil (w : World) : grow w #[] = w := by
  cases w
  simp [grow]
theorem below_grown_drew (w : World) (n : Nat) (os : Array Obj) : Below w.heap.size w (grow (w.drewN n) os) :=
  (below_drewN (Below.refl _ _) n).trans ((below_grow (w.drewN n) os).mono (by simp))
set_option maxRecDepth 100000 in
set_option maxHeartbeats 4000000 in
/-- The question of the search. -/
theorem ask_any {W : World} {c b0 b1 : Nat} {v : Value} {L : List Ver} {t : Int} {i : Nat} {u : Ver} (h : ChAt W c v L) (h0 : W.cell? ⟨b0, 0, none⟩ = some (.pointer (some ⟨c, 0, none⟩))) (h1 : W.cell? ⟨b1, 0, none⟩ = some (.int .i64 t)) (hi : L[i]? = some u) (hl : L.length ≤ 1000000) :
    Calls Tryd.prog 53 #[.int .i64 i, .pointer (some ⟨b0, 0, none⟩), .pointer (some ⟨b1, 0, none⟩)] W fun e w' => e = .returned (.bool (decide (t < u.at_))) ∧ w' = W.drewN 1 := by
  obtain ⟨g, cap, rfl, hc1, hc2, _, k0, _⟩ := h.row.ver hi
  have kc := cell_of h.head 0
  have hil := (List.getElem?_eq_some_iff.1 hi).1
  unfold maxLen at hc2
  have hiI : (i : Int) < (L.length : Int) := by omega
  have hlI : (L.length : Int) ≤ 1000000 := by omega
  have kc' : W.cell? ⟨c, 0, none⟩ = some (.slice (some ⟨g, 0, none⟩) L.length cap) := kc
  have HS : Hid (W.drew.cell? ⟨b0, 0, none⟩ = some (.pointer (some ⟨c, 0, none⟩)) ∧ W.drew.cell? ⟨b1, 0, none⟩ = some (.int .i64 t) ∧ W.drew.cell? ⟨c, 0, none⟩ = some (.slice (some ⟨g, 0, none⟩) L.length cap) ∧ W.drew.cell? ⟨g, i * 5, none⟩ = some (.int .i64 u.at_)) := Lib.hid ⟨h0, h1, kc', k0⟩
  clear h hi kc hil
  go_enter Tryd.func53, Tryd.ntmps53
  go_wp2_with fail
  refine wp_region_held_drew (S := fun W => W.cell? ⟨b0, 0, none⟩ = some (.pointer (some ⟨c, 0, none⟩)) ∧ W.cell? ⟨b1, 0, none⟩ = some (.int .i64 t) ∧ W.cell? ⟨c, 0, none⟩ = some (.slice (some ⟨g, 0, none⟩) L.length cap) ∧ W.cell? ⟨g, i * 5, none⟩ = some (.int .i64 u.at_)) (by kernel_rfl) HS.out (fun hHeld => ?_)
  clear h0 h1 kc' k0
  refine wpAnyH_take (i := 0) (oi := { dst := some 5, op := Op.load 23 (Operand.tmp 1), type := 23, pos := "chain.go:183", after := #[], guard := none }) (v := ?vv1) rfl (by kernel_rfl) (by kernel_rfl) (by kernel_rfl) (fun _ _ _ h => h) ?hy1 (by assumption) ?rest1
  case hy1 => (refine Or.inl ⟨by rfl, ?_⟩; intro W hSw; (try dsimp only at hSw); go_simp; (try with_reducible rfl))
  try simp only [Act.put, List.setIfInBounds_toArray, List.set_cons_zero, List.set_cons_succ]
  refine wpAnyH_take (i := 1) (oi := { dst := some 6, op := Op.nilCheck (Operand.tmp 5), type := 0, pos := "chain.go:183", after := #[{ on := 0, ground := Ground.data }], guard := none }) (v := ?vv2) rfl (by kernel_rfl) (by kernel_rfl) (by kernel_rfl) (fun _ _ _ h => h) ?hy2 (by assumption) ?rest2
  case hy2 => (refine Or.inl ⟨by rfl, ?_⟩; intro W hSw; (try dsimp only at hSw); go_simp; (try with_reducible rfl))
  try simp only [Act.put, List.setIfInBounds_toArray, List.set_cons_zero, List.set_cons_succ]
  refine wpAnyH_take (i := 2) (oi := { dst := some 7, op := Op.fieldAddr 58 (Operand.tmp 6) 0, type := 0, pos := "chain.go:183", after := #[{ on := 1, ground := Ground.data }], guard := none }) (v := ?vv3) rfl (by kernel_rfl) (by kernel_rfl) (by kernel_rfl) (fun _ _ _ h => h) ?hy3 (by assumption) ?rest3
  case hy3 => (refine Or.inl ⟨by rfl, ?_⟩; intro W hSw; (try dsimp only at hSw); go_simp; (try with_reducible rfl))
  try simp only [Act.put, List.setIfInBounds_toArray, List.set_cons_zero, List.set_cons_succ]
  refine wpAnyH_take (i := 3) (oi := { dst := some 8, op := Op.load 48 (Operand.tmp 7), type := 48, pos := "chain.go:183", after := #[{ on := 2, ground := Ground.data }], guard := none }) (v := ?vv4) rfl (by kernel_rfl) (by kernel_rfl) (by kernel_rfl) (fun _ _ _ h => h) ?hy4 (by assumption) ?rest4
  case hy4 => (refine Or.inl ⟨by rfl, ?_⟩; intro W hSw; (try dsimp only at hSw); go_simp; (try with_reducible rfl))
  try simp only [Act.put, List.setIfInBounds_toArray, List.set_cons_zero, List.set_cons_succ]
  refine wpAnyH_take (i := 4) (oi := { dst := some 9, op := Op.move (Operand.tmp 0), type := 3, pos := "chain.go:183", after := #[], guard := none }) (v := ?vv5) rfl (by kernel_rfl) (by kernel_rfl) (by kernel_rfl) (fun _ _ _ h => h) ?hy5 (by assumption) ?rest5
  case hy5 => (refine Or.inl ⟨by rfl, ?_⟩; intro W hSw; (try dsimp only at hSw); go_simp; (try with_reducible rfl))
  try simp only [Act.put, List.setIfInBounds_toArray, List.set_cons_zero, List.set_cons_succ]
  refine wpAnyH_take (i := 5) (oi := { dst := some 10, op := Op.indexAddr 48 (Operand.tmp 8) (Operand.tmp 9), type := 0, pos := "chain.go:183", after := #[{ on := 3, ground := Ground.data }, { on := 4, ground := Ground.data }], guard := none }) (v := ?vv6) rfl (by kernel_rfl) (by kernel_rfl) (by kernel_rfl) (fun _ _ _ h => h) ?hy6 (by assumption) ?rest6
  case hy6 => (refine Or.inl ⟨by rfl, ?_⟩; intro W hSw; (try dsimp only at hSw); go_simp; (try with_reducible rfl))
  try simp only [Act.put, List.setIfInBounds_toArray, List.set_cons_zero, List.set_cons_succ]
  refine wpAnyH_take (i := 6) (oi := { dst := some 11, op := Op.fieldAddr 47 (Operand.tmp 10) 0, type := 0, pos := "chain.go:183", after := #[{ on := 5, ground := Ground.data }], guard := none }) (v := ?vv7) rfl (by kernel_rfl) (by kernel_rfl) (by kernel_rfl) (fun _ _ _ h => h) ?hy7 (by assumption) ?rest7
  case hy7 => (refine Or.inl ⟨by rfl, ?_⟩; intro W hSw; (try dsimp only at hSw); go_simp; (try with_reducible rfl))
  try simp only [Act.put, List.setIfInBounds_toArray, List.set_cons_zero, List.set_cons_succ]
  refine wpAnyH_take (i := 7) (oi := { dst := some 12, op := Op.load 3 (Operand.tmp 11), type := 3, pos := "chain.go:183", after := #[{ on := 6, ground := Ground.data }], guard := none }) (v := ?vv8) rfl (by kernel_rfl) (by kernel_rfl) (by kernel_rfl) (fun _ _ _ h => h) ?hy8 (by assumption) ?rest8
  case hy8 => (refine Or.inl ⟨by rfl, ?_⟩; intro W hSw; (try dsimp only at hSw); go_simp; (try with_reducible rfl))
  try simp only [Act.put, List.setIfInBounds_toArray, List.set_cons_zero, List.set_cons_succ]
  refine wpAnyH_take (i := 8) (oi := { dst := some 13, op := Op.load 3 (Operand.tmp 2), type := 3, pos := "chain.go:183", after := #[], guard := none }) (v := ?vv9) rfl (by kernel_rfl) (by kernel_rfl) (by kernel_rfl) (fun _ _ _ h => h) ?hy9 (by assumption) ?rest9
  case hy9 => (refine Or.inl ⟨by rfl, ?_⟩; intro W hSw; (try dsimp only at hSw); go_simp; (try with_reducible rfl))
  try simp only [Act.put, List.setIfInBounds_toArray, List.set_cons_zero, List.set_cons_succ]
  refine wpAnyH_take (i := 9) (oi := { dst := some 14, op := Op.binOp BinOp.gtr 3 (Operand.tmp 12) (Operand.tmp 13) 3, type := 4, pos := "chain.go:183", after := #[{ on := 7, ground := Ground.data }, { on := 8, ground := Ground.data }], guard := none }) (v := ?vv10) rfl (by kernel_rfl) (by kernel_rfl) (by kernel_rfl) (fun _ _ _ h => h) ?hy10 (by assumption) ?rest10
  case hy10 => (refine Or.inl ⟨by rfl, ?_⟩; intro W hSw; (try dsimp only at hSw); go_simp; (try with_reducible rfl))
  try simp only [Act.put, List.setIfInBounds_toArray, List.set_cons_zero, List.set_cons_succ]
  refine wpAnyH_take (i := 10) (oi := { dst := some 4, op := Op.assign (Operand.tmp 14), type := 4, pos := "chain.go:183", after := #[{ on := 9, ground := Ground.data }, { on := 0, ground := Ground.phase }, { on := 1, ground := Ground.phase }, { on := 2, ground := Ground.phase }, { on := 3, ground := Ground.phase }, { on := 4, ground := Ground.phase }, { on := 5, ground := Ground.phase }, { on := 6, ground := Ground.phase }, { on := 7, ground := Ground.phase }, { on := 8, ground := Ground.phase }, { on := 9, ground := Ground.phase }], guard := none }) (v := ?vv11) rfl (by kernel_rfl) (by kernel_rfl) (by kernel_rfl) (fun _ _ _ h => h) ?hy11 (by assumption) ?rest11
  case hy11 => (refine Or.inl ⟨by rfl, ?_⟩; intro W hSw; (try dsimp only at hSw); go_simp; (try with_reducible rfl))
  try simp only [Act.put, List.setIfInBounds_toArray, List.set_cons_zero, List.set_cons_succ]
  refine wpAnyH_done (by kernel_rfl) ?_ _
  clear hHeld
  go_wp2_with fail
  go_ret
  exact ⟨rfl, rfl⟩
end Go.Proofs.YtmaokoekbjjgfaaDoor
