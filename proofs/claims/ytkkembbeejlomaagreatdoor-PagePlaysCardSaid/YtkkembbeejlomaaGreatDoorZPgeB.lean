/- rises. next: the page that stands behind those that were read. next: its rows. -/
import Derived.Test.YtkkembbeejlomaaGreatDoorZPgeA
import Derived.Test.YtkkembbeejlomaaGreatDoorZPgdD
import Derived.BigQuiet
set_option linter.unusedSimpArgs false
set_option linter.unusedVariables false
set_option linter.unnecessarySimpa false
namespace Go.Proofs.YtkkembbeejlomaaGreatDoor
open Go.RowKit Go.Shelf Go.Sort Go.Lib

theorem riseTo_last {acc p : List Row} {m : Nat} {r : Row} {k : K} (hm : p.length = m + 1) (hr : p[m]? = some r) : riseTo (acc ++ p) k = decide (r.k < k) := by
  have : (acc ++ p).getLast? = some r := by
    rw [List.getLast?_append, List.getLast?_eq_getElem?, hm]
    simp [hr]
  unfold riseTo
  rw [this]
theorem riseTo_flat {P : List (List Row)} {m j : Nat} {q : List Row} {r : Row} {k : K} (hm : P.length = m + 1) (hq : P[m]? = some q) (hj : q.length = j + 1) (hr : q[j]? = some r) : riseTo (P.flatten ++ []) k = decide (r.k < k) := by
  have e : P = P.take m ++ [q] := by
    have := List.take_append_drop m P
    rw [← this]
    congr 1
    · rw [this]
    · rw [List.drop_eq_getElem_cons (by omega), (List.getElem?_eq_some_iff.1 hq).2, List.drop_of_length_le (by omega)]
  rw [List.append_nil, e]
  simp only [List.flatten_append, List.flatten_cons, List.flatten_nil, List.append_nil]
  exact riseTo_last hj hr
set_option maxRecDepth 100000 in
set_option maxHeartbeats 4000000 in
theorem rises_any {w : World} {s most : Nat} {v : Value} {L : List Pl} {P : List (List Row)} (h : St w s most v L P) (hne : ∀ p ∈ P, p ≠ []) (hl : P.length ≤ 256) (h64 : ∀ p ∈ P, p.length ≤ 64) {B : Nat} {pv : Value} {p : List Row} (hp : RowsIs w B pv p) (hpl : p.length ≤ 100) (k : K) :
    Calls Tryz.prog 84 #[.pointer (some ⟨s, 0, none⟩), pv, strV k] w fun e w' => e = .returned (.bool (riseTo (P.flatten ++ p) k)) ∧ ∃ n, w' = w.drewN n := by
  obtain ⟨A, c, rfl, hc1, hc2, _, _, hcell⟩ := hp.1.form
  unfold maxLen at hc2
  have hpI : (p.length : Int) ≤ 100 := by omega
  unfold strV
  by_cases hpe : p.length = 0
  · obtain rfl : p = [] := List.length_eq_zero_iff.1 hpe
    obtain ⟨A2, c2, hv, hd1, hd2, _⟩ := h.row.form
    have ks : w.cell? ⟨s, 1, none⟩ = some v := cell_of h.head 1
    rw [hv] at ks
    unfold maxLen at hd2
    have hlI : (P.length : Int) ≤ 256 := by omega
    by_cases hPe : P.length = 0
    · obtain rfl : P = [] := List.length_eq_zero_iff.1 hPe
      clear h hp hv hcell
      go_enter Tryz.func84, Tryz.ntmps84
      go_wp2_with fail
      go_ret
      exact ⟨rfl, 0, rfl⟩
    · obtain ⟨m, hm⟩ : ∃ m, P.length = m + 1 := ⟨P.length - 1, by omega⟩
      obtain ⟨q, hq⟩ : ∃ q, P[m]? = some q := ⟨_, List.getElem?_eq_getElem (by omega)⟩
      have hqn := hne q (List.mem_of_getElem? hq)
      have hq64 := h64 q (List.mem_of_getElem? hq)
      obtain ⟨j, hj⟩ : ∃ j, q.length = j + 1 := ⟨q.length - 1, by have := List.length_pos_iff.2 hqn; omega⟩
      obtain ⟨r, hr⟩ : ∃ r, q[j]? = some r := ⟨_, List.getElem?_eq_getElem (by omega)⟩
      obtain ⟨a, g, c', ha, hv2, _, _, kc, hA, hac⟩ := row_page h hq
      have hv3 := hv.symm.trans hv2
      injection hv3 with e1 _ e3
      subst e1 e3
      have k1 := hA.holds _ _ (pgC_at hr).1
      unfold strV at k1
      have hmx := hA.max
      unfold maxLen at hmx
      rw [riseTo_flat hm hq hj hr]
      obtain ⟨N, hN⟩ : ∃ N, P.length = N := ⟨_, rfl⟩
      obtain ⟨M, hM⟩ : ∃ M, q.length = M := ⟨_, rfl⟩
      rw [hN] at ks hm hlI hd1
      rw [hM] at kc hj hq64 hac
      have u0 : (0 : Int) < (N : Int) := by omega
      have u1 : IntKind.i64.wrap ((N : Int) - 1) = (m : Int) := by rw [IntWalk.i64_in _ (by omega)]; omega
      have u2 : (m : Int) < (N : Int) := by omega
      have u3 : IntKind.i64.wrap ((M : Int) - 1) = (j : Int) := by rw [IntWalk.i64_in _ (by omega)]; omega
      have u4 : (j : Int) < (M : Int) := by omega
      have u5 : ((M : Int) == 0) = false := by simp; omega
      have u6 : Op.bytesLess r.k k = decide (r.k < k) := bytesLess_eq _ _
      have u7 : (M : Int) ≤ 64 := by omega
      obtain ⟨b, hb⟩ : ∃ b, decide (r.k < k) = b := ⟨_, rfl⟩
      rw [hb] at u6 ⊢
      clear h hp hv hcell hv2 hA ha hN hM hne h64 hq hr hb hj hm hpe hPe
      go_enter Tryz.func84, Tryz.ntmps84
      go_wp2_with fail
      go_quiet (fail)
      go_wp2_with fail
      go_ret
      exact ⟨rfl, _, rfl⟩
  · obtain ⟨m, hm⟩ : ∃ m, p.length = m + 1 := ⟨p.length - 1, by omega⟩
    obtain ⟨r, hr⟩ : ∃ r, p[m]? = some r := ⟨_, List.getElem?_eq_getElem (by omega)⟩
    obtain ⟨g, rfl, k1⟩ := hcell _ _ (pgC_at hr).1
    unfold strV at k1
    rw [riseTo_last hm hr]
    obtain ⟨M, hM⟩ : ∃ M, p.length = M := ⟨_, rfl⟩
    rw [hM] at hm hc1 hpI ⊢
    have u3 : IntKind.i64.wrap ((M : Int) - 1) = (m : Int) := by rw [IntWalk.i64_in _ (by omega)]; omega
    have u4 : (m : Int) < (M : Int) := by omega
    have u5 : ((M : Int) == 0) = false := by simp; omega
    have u6 : Op.bytesLess r.k k = decide (r.k < k) := bytesLess_eq _ _
    obtain ⟨b, hb⟩ : ∃ b, decide (r.k < k) = b := ⟨_, rfl⟩
    rw [hb] at u6 ⊢
    clear h hp hcell hM hne h64 hr hb hm hpe
    go_enter Tryz.func84, Tryz.ntmps84
    go_wp2_with fail
    go_ret
    exact ⟨rfl, 0, rfl⟩
end Go.Proofs.YtkkembbeejlomaaGreatDoor

namespace Go.Proofs.YtkkembbeejlomaaGreatDoor
open Go.RowKit Go.Shelf Go.Sort Go.Lib

def nextP (most : Nat) (bs : List UInt8) (P : List (List Row)) (st : Option Nat) : Option (List Row × Option Nat) :=
  if (natS bs st).1 < 1 ∨ min most (256 - P.flatten.length) < (natS bs st).1 then none else rowsS bs (natS bs st).1 P.flatten [] (natS bs st).2
theorem pagesS_next (most : Nat) (bs : List UInt8) (k : Nat) (P : List (List Row)) (st : Option Nat) : pagesS most bs (k + 1) P st = match nextP most bs P st with
    | none => none
    | some (p, st2) => pagesS most bs k (P ++ [p]) st2 := by
  unfold nextP
  rw [pagesS]
  split <;> rfl
/-- An error of the number ErrForm. -/
def FormErrN (N : Nat) (w : World) (v : Value) : Prop := ∃ c, ErrIs w c v ∧ c ≠ [] ∧ NumOk c ∧ codeOf c = 6 ∧ c.length ≤ N
def FormErr (w : World) (v : Value) : Prop := FormErrN 2 w v
theorem form_one {w : World} {ev : Value} {k : Lk} (hk : ∀ e, k ≠ .num e) (h : ErrIs w (onto k (newL 6)) ev) : FormErr w ev := by
  refine ⟨[k, .num 6], h, by simp, fun x hx => ?_, ?_, by simp⟩
  · simp only [List.mem_cons, List.not_mem_nil, or_false] at hx
    rcases hx with hx | hx
    · exact absurd hx.symm (hk x)
    · injection hx with hx
      omega
  · cases k with
    | num e => exact absurd rfl (hk e)
    | plc p => rfl
    | nam p => rfl
    | bnd a b => rfl
theorem Only.touch {g : Nat} {w w' : World} (h : Only g w w') : Touch (fun k => k = g) w w' := ⟨h.os, h.tape, h.output, h.size, fun k hk hne => h.block k hk hne⟩
theorem Glob.only {g : Nat} {w w' : World} (h : Glob w) (ho : Only g w w') (hg : g ≠ 0) : Glob w' := (World.cell?_of_block (a := ⟨0, 0, none⟩) (ho.block 0 h.lt (Ne.symm hg))).trans h
theorem ErrIs.form2 {w : World} {c : List Lk} {v : Value} (h : ErrIs w c v) (hc : c ≠ []) : ∃ t u, v = .iface t u := by
  cases c with
  | nil => exact absurd rfl hc
  | cons k r => exact h.form1
set_option maxRecDepth 100000 in
set_option maxHeartbeats 4000000 in
/-- The page's bound is broken. -/
theorem next_not {w : World} {s most : Nat} {v : Value} {L : List Pl} {P : List (List Row)} {g : Nat} {A : Option Addr} {cap : Nat} {bs : List UInt8} {st : Option Nat} (h : St w s most v L P) (hm : 2 ≤ most ∧ most ≤ 64) (ht : P.flatten.length ≤ 256) (hR : RdS w g A cap bs st) (hg : ∀ k, Owns s v L k → k ≠ g)
    (hn : (natS bs st).1 < 1 ∨ min most (256 - P.flatten.length) < (natS bs st).1) :
    Calls Tryz.prog 57 #[.pointer (some ⟨s, 0, none⟩), .pointer (some ⟨g, 0, none⟩)] w fun e w' => ∃ ev, e = .returned (.tuple #[.slice none 0 0, ev]) ∧ FormErr w' ev ∧ Only g w w' := by
  have HN := Lib.hid (nat_u hR)
  have hn64 := natS_le bs st
  obtain ⟨n, hnn⟩ : ∃ n, (natS bs st).1 = n := ⟨_, rfl⟩
  rw [hnn] at HN hn hn64
  have H := Lib.hid h
  have HG := Lib.hid hg
  obtain ⟨T, hT⟩ : ∃ T, P.flatten.length = T := ⟨_, rfl⟩
  have HT := Lib.hid hT
  rw [hT] at hn ht
  clear h hR hg hnn hT
  go_enter Tryz.func57, Tryz.ntmps57
  go_wp2_with fail
  refine (HN.out).mono ?_
  rintro e w1 ⟨rfl, hR1, hO1⟩
  have h1 := H.out.touch hO1.touch (fun k hk => HG.out k hk)
  have HO1 := Lib.hid hO1
  have km : ∀ W, Below w1.heap.size w1 W → W.cell? ⟨s, 0, none⟩ = some (.int .i64 most) := fun W hW => (hW.cell (p := ⟨s, 0, none⟩) (heap_lt h1.head)).trans (cell_of h1.head 0)
  have HKM := Lib.hid km
  have HLE := Lib.hid (fun W (hW : Below w1.heap.size w1 W) => Len_any (h1.below hW) (by have := HT.out; omega))
  rw [HT.out] at HLE
  have HERR := Lib.hid (fun W => new_any 6 W)
  clear hR1 hO1 h1 km
  have hcut : ∀ (c : Bool) (W : World), True := fun _ _ => trivial
  by_cases hn0 : n = 0
  · subst hn0
    clear hn hn64 hcut
    go_wp2_with fail
    refine wp_only ?_
    refine wp_region_held_drew (S := fun W => W.cell? ⟨s, 0, none⟩ = some (.int .i64 most)) (by kernel_rfl) (HKM.out _ (below_drew (Below.refl _ _))) (fun hHeld => ?_)
    refine wpAnyH_take (i := 0) (oi := { dst := some 11, op := Op.move (Operand.tmp 6), type := 68, pos := "bytes.go:52", after := #[], guard := none }) (v := ?vv1) rfl (by kernel_rfl) (by kernel_rfl) (by kernel_rfl) (fun _ _ _ h => h) ?hy1 (by assumption) ?rest1
    case hy1 => (refine Or.inl ⟨by rfl, ?_⟩; intro W hSw; (try dsimp only at hSw); go_simp; (try with_reducible rfl))
    try simp only [Act.put, List.setIfInBounds_toArray, List.set_cons_zero, List.set_cons_succ]
    refine wpAnyH_take (i := 1) (oi := { dst := some 12, op := Op.binOp BinOp.lss 68 (Operand.tmp 11) (Operand.const (Value.int IntKind.u64 1)) 68, type := 4, pos := "bytes.go:52", after := #[{ on := 0, ground := Ground.data }], guard := none }) (v := ?vv2) rfl (by kernel_rfl) (by kernel_rfl) (by kernel_rfl) (fun _ _ _ h => h) ?hy2 (by assumption) ?rest2
    case hy2 => (refine Or.inl ⟨by rfl, ?_⟩; intro W hSw; (try dsimp only at hSw); go_simp; (try with_reducible rfl))
    try simp only [Act.put, List.setIfInBounds_toArray, List.set_cons_zero, List.set_cons_succ]
    refine wpAnyH_take (i := 2) (oi := { dst := some 13, op := Op.move (Operand.tmp 12), type := 4, pos := "bytes.go:52", after := #[{ on := 1, ground := Ground.data }], guard := none }) (v := ?vv3) rfl (by kernel_rfl) (by kernel_rfl) (by kernel_rfl) (fun _ _ _ h => h) ?hy3 (by assumption) ?rest3
    case hy3 => (refine Or.inl ⟨by rfl, ?_⟩; intro W hSw; (try dsimp only at hSw); go_simp; (try with_reducible rfl))
    try simp only [Act.put, List.setIfInBounds_toArray, List.set_cons_zero, List.set_cons_succ]
    refine wpAnyH_take (i := 3) (oi := { dst := some 14, op := Op.move (Operand.tmp 6), type := 68, pos := "bytes.go:52", after := #[{ on := 2, ground := Ground.guard }], guard := some (2, false) }) (v := undef) rfl (by kernel_rfl) (by kernel_rfl) (by kernel_rfl) (fun _ _ _ h => h) ?hy4 (by assumption) ?rest4
    case hy4 => (exact Or.inr ⟨by rfl, rfl⟩)
    try simp only [Act.put, List.setIfInBounds_toArray, List.set_cons_zero, List.set_cons_succ]
    refine wpAnyH_take (i := 4) (oi := { dst := some 15, op := Op.move (Operand.tmp 0), type := 23, pos := "bytes.go:52", after := #[{ on := 2, ground := Ground.guard }], guard := some (2, false) }) (v := undef) rfl (by kernel_rfl) (by kernel_rfl) (by kernel_rfl) (fun _ _ _ h => h) ?hy5 (by assumption) ?rest5
    case hy5 => (exact Or.inr ⟨by rfl, rfl⟩)
    try simp only [Act.put, List.setIfInBounds_toArray, List.set_cons_zero, List.set_cons_succ]
    refine wpAnyH_take (i := 5) (oi := { dst := some 16, op := Op.nilCheck (Operand.tmp 15), type := 0, pos := "bytes.go:52", after := #[{ on := 4, ground := Ground.data }, { on := 2, ground := Ground.guard }], guard := some (2, false) }) (v := undef) rfl (by kernel_rfl) (by kernel_rfl) (by kernel_rfl) (fun _ _ _ h => h) ?hy6 (by assumption) ?rest6
    case hy6 => (exact Or.inr ⟨by rfl, rfl⟩)
    try simp only [Act.put, List.setIfInBounds_toArray, List.set_cons_zero, List.set_cons_succ]
    refine wpAnyH_take (i := 6) (oi := { dst := some 17, op := Op.fieldAddr 64 (Operand.tmp 16) 0, type := 0, pos := "bytes.go:52", after := #[{ on := 5, ground := Ground.data }, { on := 2, ground := Ground.guard }], guard := some (2, false) }) (v := undef) rfl (by kernel_rfl) (by kernel_rfl) (by kernel_rfl) (fun _ _ _ h => h) ?hy7 (by assumption) ?rest7
    case hy7 => (exact Or.inr ⟨by rfl, rfl⟩)
    try simp only [Act.put, List.setIfInBounds_toArray, List.set_cons_zero, List.set_cons_succ]
    refine wpAnyH_take (i := 7) (oi := { dst := some 18, op := Op.load 3 (Operand.tmp 17), type := 3, pos := "bytes.go:52", after := #[{ on := 6, ground := Ground.data }, { on := 2, ground := Ground.guard }], guard := some (2, false) }) (v := undef) rfl (by kernel_rfl) (by kernel_rfl) (by kernel_rfl) (fun _ _ _ h => h) ?hy8 (by assumption) ?rest8
    case hy8 => (exact Or.inr ⟨by rfl, rfl⟩)
    try simp only [Act.put, List.setIfInBounds_toArray, List.set_cons_zero, List.set_cons_succ]
    refine wpAnyH_take (i := 8) (oi := { dst := some 19, op := Op.move (Operand.tmp 0), type := 23, pos := "bytes.go:52", after := #[{ on := 2, ground := Ground.guard }], guard := some (2, false) }) (v := undef) rfl (by kernel_rfl) (by kernel_rfl) (by kernel_rfl) (fun _ _ _ h => h) ?hy9 (by assumption) ?rest9
    case hy9 => (exact Or.inr ⟨by rfl, rfl⟩)
    try simp only [Act.put, List.setIfInBounds_toArray, List.set_cons_zero, List.set_cons_succ]
    refine wpAnyH_take (i := 9) (oi := { dst := some 20, op := Op.call { callee := Callee.value (Operand.func 20), args := #[Operand.tmp 19], argTypes := #[23] }, type := 3, pos := "bytes.go:52", after := #[{ on := 8, ground := Ground.data }, { on := 2, ground := Ground.chain }, { on := 2, ground := Ground.guard }], guard := some (2, false) }) (v := undef) rfl (by kernel_rfl) (by kernel_rfl) (by kernel_rfl) (fun _ _ _ h => h) ?hy10 (by assumption) ?rest10
    case hy10 => (exact Or.inr ⟨by rfl, rfl⟩)
    try simp only [Act.put, List.setIfInBounds_toArray, List.set_cons_zero, List.set_cons_succ]
    refine wpAnyH_take (i := 10) (oi := { dst := some 21, op := Op.binOp BinOp.sub 3 (Operand.const (Value.int IntKind.i64 256)) (Operand.tmp 20) 3, type := 3, pos := "bytes.go:52", after := #[{ on := 9, ground := Ground.data }, { on := 2, ground := Ground.guard }], guard := some (2, false) }) (v := undef) rfl (by kernel_rfl) (by kernel_rfl) (by kernel_rfl) (fun _ _ _ h => h) ?hy11 (by assumption) ?rest11
    case hy11 => (exact Or.inr ⟨by rfl, rfl⟩)
    try simp only [Act.put, List.setIfInBounds_toArray, List.set_cons_zero, List.set_cons_succ]
    refine wpAnyH_take (i := 11) (oi := { dst := some 22, op := Op.call { callee := Callee.builtin Builtin.min, args := #[Operand.tmp 18, Operand.tmp 21], argTypes := #[3, 3] }, type := 3, pos := "bytes.go:52", after := #[{ on := 7, ground := Ground.data }, { on := 10, ground := Ground.data }, { on := 2, ground := Ground.guard }], guard := some (2, false) }) (v := undef) rfl (by kernel_rfl) (by kernel_rfl) (by kernel_rfl) (fun _ _ _ h => h) ?hy12 (by assumption) ?rest12
    case hy12 => (exact Or.inr ⟨by rfl, rfl⟩)
    try simp only [Act.put, List.setIfInBounds_toArray, List.set_cons_zero, List.set_cons_succ]
    refine wpAnyH_take (i := 12) (oi := { dst := some 23, op := Op.convert 3 68 (Operand.tmp 22), type := 68, pos := "bytes.go:52", after := #[{ on := 11, ground := Ground.data }, { on := 2, ground := Ground.guard }], guard := some (2, false) }) (v := undef) rfl (by kernel_rfl) (by kernel_rfl) (by kernel_rfl) (fun _ _ _ h => h) ?hy13 (by assumption) ?rest13
    case hy13 => (exact Or.inr ⟨by rfl, rfl⟩)
    try simp only [Act.put, List.setIfInBounds_toArray, List.set_cons_zero, List.set_cons_succ]
    refine wpAnyH_take (i := 13) (oi := { dst := some 24, op := Op.binOp BinOp.gtr 68 (Operand.tmp 14) (Operand.tmp 23) 68, type := 4, pos := "bytes.go:52", after := #[{ on := 3, ground := Ground.data }, { on := 12, ground := Ground.data }, { on := 2, ground := Ground.guard }], guard := some (2, false) }) (v := undef) rfl (by kernel_rfl) (by kernel_rfl) (by kernel_rfl) (fun _ _ _ h => h) ?hy14 (by assumption) ?rest14
    case hy14 => (exact Or.inr ⟨by rfl, rfl⟩)
    try simp only [Act.put, List.setIfInBounds_toArray, List.set_cons_zero, List.set_cons_succ]
    refine wpAnyH_take (i := 14) (oi := { dst := some 25, op := Op.pick (Operand.tmp 13) (Operand.const (Value.bool true)) (Operand.tmp 24), type := 4, pos := "bytes.go:52", after := #[{ on := 2, ground := Ground.data }, { on := 13, ground := Ground.data }], guard := none }) (v := ?vv15) rfl (by kernel_rfl) (by kernel_rfl) (by kernel_rfl) (fun _ _ _ h => h) ?hy15 (by assumption) ?rest15
    case hy15 => (refine Or.inl ⟨by rfl, ?_⟩; intro W hSw; (try dsimp only at hSw); go_simp; (try with_reducible rfl))
    try simp only [Act.put, List.setIfInBounds_toArray, List.set_cons_zero, List.set_cons_succ]
    refine wpAnyH_done (by kernel_rfl) ?_ _
    dsimp only [onlyN]
    clear hHeld
    go_wp2_with fail
    refine wp_only ?_
    refine wp_region_held_drew (S := fun W => W.cell? ⟨s, 0, none⟩ = some (.int .i64 most)) (by kernel_rfl) (HKM.out _ (below_drew (below_drew (Below.refl _ _)))) (fun hHeld => ?_)
    refine wpAnyH_take (i := 0) (oi := { dst := some 26, op := Op.move (Operand.tmp 0), type := 23, pos := "bytes.go:53", after := #[], guard := none }) (v := ?vv16) rfl (by kernel_rfl) (by kernel_rfl) (by kernel_rfl) (fun _ _ _ h => h) ?hy16 (by assumption) ?rest16
    case hy16 => (refine Or.inl ⟨by rfl, ?_⟩; intro W hSw; (try dsimp only at hSw); go_simp; (try with_reducible rfl))
    try simp only [Act.put, List.setIfInBounds_toArray, List.set_cons_zero, List.set_cons_succ]
    refine wpAnyH_take (i := 1) (oi := { dst := some 27, op := Op.nilCheck (Operand.tmp 26), type := 0, pos := "bytes.go:53", after := #[{ on := 0, ground := Ground.data }], guard := none }) (v := ?vv17) rfl (by kernel_rfl) (by kernel_rfl) (by kernel_rfl) (fun _ _ _ h => h) ?hy17 (by assumption) ?rest17
    case hy17 => (refine Or.inl ⟨by rfl, ?_⟩; intro W hSw; (try dsimp only at hSw); go_simp; (try with_reducible rfl))
    try simp only [Act.put, List.setIfInBounds_toArray, List.set_cons_zero, List.set_cons_succ]
    refine wpAnyH_take (i := 2) (oi := { dst := some 28, op := Op.fieldAddr 64 (Operand.tmp 27) 0, type := 0, pos := "bytes.go:53", after := #[{ on := 1, ground := Ground.data }], guard := none }) (v := ?vv18) rfl (by kernel_rfl) (by kernel_rfl) (by kernel_rfl) (fun _ _ _ h => h) ?hy18 (by assumption) ?rest18
    case hy18 => (refine Or.inl ⟨by rfl, ?_⟩; intro W hSw; (try dsimp only at hSw); go_simp; (try with_reducible rfl))
    try simp only [Act.put, List.setIfInBounds_toArray, List.set_cons_zero, List.set_cons_succ]
    refine wpAnyH_take (i := 3) (oi := { dst := some 29, op := Op.load 3 (Operand.tmp 28), type := 3, pos := "bytes.go:53", after := #[{ on := 2, ground := Ground.data }], guard := none }) (v := ?vv19) rfl (by kernel_rfl) (by kernel_rfl) (by kernel_rfl) (fun _ _ _ h => h) ?hy19 (by assumption) ?rest19
    case hy19 => (refine Or.inl ⟨by rfl, ?_⟩; intro W hSw; (try dsimp only at hSw); go_simp; (try with_reducible rfl))
    try simp only [Act.put, List.setIfInBounds_toArray, List.set_cons_zero, List.set_cons_succ]
    refine wpAnyH_take (i := 4) (oi := { dst := some 30, op := Op.move (Operand.tmp 6), type := 68, pos := "bytes.go:53", after := #[], guard := none }) (v := ?vv20) rfl (by kernel_rfl) (by kernel_rfl) (by kernel_rfl) (fun _ _ _ h => h) ?hy20 (by assumption) ?rest20
    case hy20 => (refine Or.inl ⟨by rfl, ?_⟩; intro W hSw; (try dsimp only at hSw); go_simp; (try with_reducible rfl))
    try simp only [Act.put, List.setIfInBounds_toArray, List.set_cons_zero, List.set_cons_succ]
    refine wpAnyH_take (i := 5) (oi := { dst := some 31, op := Op.convert 68 2 (Operand.tmp 30), type := 2, pos := "bytes.go:53", after := #[{ on := 4, ground := Ground.data }], guard := none }) (v := ?vv21) rfl (by kernel_rfl) (by kernel_rfl) (by kernel_rfl) (fun _ _ _ h => h) ?hy21 (by assumption) ?rest21
    case hy21 => (refine Or.inl ⟨by rfl, ?_⟩; intro W hSw; (try dsimp only at hSw); go_simp; (try with_reducible rfl))
    try simp only [Act.put, List.setIfInBounds_toArray, List.set_cons_zero, List.set_cons_succ]
    refine wpAnyH_ready (rs := [6]) (by kernel_rfl) (by simp) ?_
    refine AllReadyH.cons (o := { dst := some 32, op := Op.call { callee := Callee.value (Operand.func 41), args := #[Operand.const (Value.int IntKind.i64 6)], argTypes := #[24] }, type := 49, pos := "bytes.go:53", after := #[], guard := none }) rfl (fun K hK => ?step22) ?more22
    case more22 => exact AllReadyH.nil
    ((go_simp; go_at_call 41; refine (HERR.out _).mono ?_; rintro e w3 ⟨ev, rfl, hev, hb3⟩; obtain ⟨t3, u3, rfl⟩ := hev.form2 (by simp [newL, onto]); have HEV := Lib.hid hev; have HB3 := Lib.hid ((below_drew (below_drew (Below.refl w1.heap.size w1))).trans (hb3.mono (below_drew (below_drew (Below.refl w1.heap.size w1))).size)); clear hev hb3; go_wp2_with fail))
    refine hK.out _ _ ?hS22 (fun hHeld => ?rr22)
    case hS22 => (exact HKM.out _ HB3.out)
    clear hK K
    try simp only [Act.put, List.setIfInBounds_toArray, List.set_cons_zero, List.set_cons_succ]
    refine wpAnyH_ready (rs := [7]) (by kernel_rfl) (by simp) ?_
    refine AllReadyH.cons (o := { dst := some 33, op := Op.call { callee := Callee.value (Operand.func 65), args := #[Operand.tmp 29, Operand.tmp 31, Operand.tmp 32], argTypes := #[2, 2, 49] }, type := 49, pos := "bytes.go:53", after := #[{ on := 3, ground := Ground.data }, { on := 5, ground := Ground.data }, { on := 6, ground := Ground.data }, { on := 6, ground := Ground.chain }], guard := none }) rfl (fun K hK => ?step23) ?more23
    case more23 => exact AllReadyH.nil
    ((go_simp; go_at_call 65; refine (bound_any _ _ HEV.out).mono ?_; rintro e w4 ⟨ev, rfl, hev, hb4⟩; obtain ⟨t4, u4, rfl⟩ := hev.form2 (by simp [newL, onto]); have HEV2 := Lib.hid hev; have HB4 := Lib.hid (HB3.out.trans (hb4.mono HB3.out.size)); clear hev hb4; go_wp2_with fail))
    refine hK.out _ _ ?hS23 (fun hHeld => ?rr23)
    case hS23 => (exact HKM.out _ HB4.out)
    clear hK K
    try simp only [Act.put, List.setIfInBounds_toArray, List.set_cons_zero, List.set_cons_succ]
    refine wpAnyH_take (i := 8) (oi := { dst := some 4, op := Op.assign (Operand.const (Value.slice none 0 0)), type := 40, pos := "bytes.go:53", after := #[{ on := 7, ground := Ground.chain }, { on := 0, ground := Ground.textOnly Departure.lateStores }, { on := 1, ground := Ground.textOnly Departure.lateStores }, { on := 2, ground := Ground.textOnly Departure.lateStores }, { on := 3, ground := Ground.textOnly Departure.lateStores }, { on := 4, ground := Ground.textOnly Departure.lateStores }, { on := 5, ground := Ground.textOnly Departure.lateStores }, { on := 6, ground := Ground.textOnly Departure.lateStoresUnsure }, { on := 7, ground := Ground.textOnly Departure.lateStoresUnsure }], guard := none }) (v := ?vv24) rfl (by kernel_rfl) (by kernel_rfl) (by kernel_rfl) (fun _ _ _ h => h) ?hy24 (by assumption) ?rest24
    case hy24 => (refine Or.inl ⟨by rfl, ?_⟩; intro W hSw; (try dsimp only at hSw); go_simp; (try with_reducible rfl))
    try simp only [Act.put, List.setIfInBounds_toArray, List.set_cons_zero, List.set_cons_succ]
    refine wpAnyH_take (i := 9) (oi := { dst := some 5, op := Op.assign (Operand.tmp 33), type := 49, pos := "bytes.go:53", after := #[{ on := 7, ground := Ground.data }, { on := 8, ground := Ground.chain }, { on := 0, ground := Ground.phase }, { on := 1, ground := Ground.phase }, { on := 2, ground := Ground.phase }, { on := 3, ground := Ground.phase }, { on := 4, ground := Ground.phase }, { on := 5, ground := Ground.phase }, { on := 6, ground := Ground.phase }, { on := 7, ground := Ground.phase }, { on := 8, ground := Ground.phase }], guard := none }) (v := ?vv25) rfl (by kernel_rfl) (by kernel_rfl) (by kernel_rfl) (fun _ _ _ h => h) ?hy25 (by assumption) ?rest25
    case hy25 => (refine Or.inl ⟨by rfl, ?_⟩; intro W hSw; (try dsimp only at hSw); go_simp; (try with_reducible rfl))
    try simp only [Act.put, List.setIfInBounds_toArray, List.set_cons_zero, List.set_cons_succ]
    refine wpAnyH_done (by kernel_rfl) ?_ _
    dsimp only [onlyN]
    clear hHeld
    go_wp2_with fail
    refine bodyPost_ret (v := .tuple #[.slice none 0 0, .iface t4 u4]) (by simp [results, Tryz.results57, go_sem]) rfl ?_
    exact ⟨_, rfl, form_one (by intro e h; cases h) HEV2.out, HO1.out.trans (Only.of_below HB4.out)⟩
  · have h1n : ¬ (n : Int) < 1 := by omega
    have h1d : decide ((n : Int) < 1) = false := by simpa using h1n
    obtain ⟨Bd, hBd⟩ : ∃ Bd, min most (256 - T) = Bd := ⟨_, rfl⟩
    have hBw : IntKind.u64.wrap (min (most : Int) (256 - (T : Int))) = (Bd : Int) := by rw [IntKind.wrap_u64]; omega
    have hBn : (Bd : Int) < (n : Int) := by omega
    clear hBd
    have hTw : IntKind.i64.wrap (256 - (T : Int)) = 256 - (T : Int) := IntWalk.i64_in _ (by omega)
    go_wp2_with fail
    refine wp_only ?_
    refine wp_region_held_drew (S := fun W => W.cell? ⟨s, 0, none⟩ = some (.int .i64 most)) (by kernel_rfl) (HKM.out _ (below_drew (Below.refl _ _))) (fun hHeld => ?_)
    refine wpAnyH_take (i := 0) (oi := { dst := some 11, op := Op.move (Operand.tmp 6), type := 68, pos := "bytes.go:52", after := #[], guard := none }) (v := ?vv26) rfl (by kernel_rfl) (by kernel_rfl) (by kernel_rfl) (fun _ _ _ h => h) ?hy26 (by assumption) ?rest26
    case hy26 => (refine Or.inl ⟨by rfl, ?_⟩; intro W hSw; (try dsimp only at hSw); go_simp; (try with_reducible rfl))
    try simp only [Act.put, List.setIfInBounds_toArray, List.set_cons_zero, List.set_cons_succ]
    refine wpAnyH_take (i := 1) (oi := { dst := some 12, op := Op.binOp BinOp.lss 68 (Operand.tmp 11) (Operand.const (Value.int IntKind.u64 1)) 68, type := 4, pos := "bytes.go:52", after := #[{ on := 0, ground := Ground.data }], guard := none }) (v := ?vv27) rfl (by kernel_rfl) (by kernel_rfl) (by kernel_rfl) (fun _ _ _ h => h) ?hy27 (by assumption) ?rest27
    case hy27 => (refine Or.inl ⟨by rfl, ?_⟩; intro W hSw; (try dsimp only at hSw); go_simp; (try with_reducible rfl))
    try simp only [Act.put, List.setIfInBounds_toArray, List.set_cons_zero, List.set_cons_succ]
    refine wpAnyH_take (i := 2) (oi := { dst := some 13, op := Op.move (Operand.tmp 12), type := 4, pos := "bytes.go:52", after := #[{ on := 1, ground := Ground.data }], guard := none }) (v := ?vv28) rfl (by kernel_rfl) (by kernel_rfl) (by kernel_rfl) (fun _ _ _ h => h) ?hy28 (by assumption) ?rest28
    case hy28 => (refine Or.inl ⟨by rfl, ?_⟩; intro W hSw; (try dsimp only at hSw); go_simp; (try with_reducible rfl))
    try simp only [Act.put, List.setIfInBounds_toArray, List.set_cons_zero, List.set_cons_succ]
    refine wpAnyH_take (i := 3) (oi := { dst := some 14, op := Op.move (Operand.tmp 6), type := 68, pos := "bytes.go:52", after := #[{ on := 2, ground := Ground.guard }], guard := some (2, false) }) (v := ?vv29) rfl (by kernel_rfl) (by kernel_rfl) (by kernel_rfl) (fun _ _ _ h => h) ?hy29 (by assumption) ?rest29
    case hy29 => (refine Or.inl ⟨by rfl, ?_⟩; intro W hSw; (try dsimp only at hSw); go_simp; (try with_reducible rfl))
    try simp only [Act.put, List.setIfInBounds_toArray, List.set_cons_zero, List.set_cons_succ]
    refine wpAnyH_take (i := 4) (oi := { dst := some 15, op := Op.move (Operand.tmp 0), type := 23, pos := "bytes.go:52", after := #[{ on := 2, ground := Ground.guard }], guard := some (2, false) }) (v := ?vv30) rfl (by kernel_rfl) (by kernel_rfl) (by kernel_rfl) (fun _ _ _ h => h) ?hy30 (by assumption) ?rest30
    case hy30 => (refine Or.inl ⟨by rfl, ?_⟩; intro W hSw; (try dsimp only at hSw); go_simp; (try with_reducible rfl))
    try simp only [Act.put, List.setIfInBounds_toArray, List.set_cons_zero, List.set_cons_succ]
    refine wpAnyH_take (i := 5) (oi := { dst := some 16, op := Op.nilCheck (Operand.tmp 15), type := 0, pos := "bytes.go:52", after := #[{ on := 4, ground := Ground.data }, { on := 2, ground := Ground.guard }], guard := some (2, false) }) (v := ?vv31) rfl (by kernel_rfl) (by kernel_rfl) (by kernel_rfl) (fun _ _ _ h => h) ?hy31 (by assumption) ?rest31
    case hy31 => (refine Or.inl ⟨by rfl, ?_⟩; intro W hSw; (try dsimp only at hSw); go_simp; (try with_reducible rfl))
    try simp only [Act.put, List.setIfInBounds_toArray, List.set_cons_zero, List.set_cons_succ]
    refine wpAnyH_take (i := 6) (oi := { dst := some 17, op := Op.fieldAddr 64 (Operand.tmp 16) 0, type := 0, pos := "bytes.go:52", after := #[{ on := 5, ground := Ground.data }, { on := 2, ground := Ground.guard }], guard := some (2, false) }) (v := ?vv32) rfl (by kernel_rfl) (by kernel_rfl) (by kernel_rfl) (fun _ _ _ h => h) ?hy32 (by assumption) ?rest32
    case hy32 => (refine Or.inl ⟨by rfl, ?_⟩; intro W hSw; (try dsimp only at hSw); go_simp; (try with_reducible rfl))
    try simp only [Act.put, List.setIfInBounds_toArray, List.set_cons_zero, List.set_cons_succ]
    refine wpAnyH_take (i := 7) (oi := { dst := some 18, op := Op.load 3 (Operand.tmp 17), type := 3, pos := "bytes.go:52", after := #[{ on := 6, ground := Ground.data }, { on := 2, ground := Ground.guard }], guard := some (2, false) }) (v := ?vv33) rfl (by kernel_rfl) (by kernel_rfl) (by kernel_rfl) (fun _ _ _ h => h) ?hy33 (by assumption) ?rest33
    case hy33 => (refine Or.inl ⟨by rfl, ?_⟩; intro W hSw; (try dsimp only at hSw); go_simp; (try with_reducible rfl))
    try simp only [Act.put, List.setIfInBounds_toArray, List.set_cons_zero, List.set_cons_succ]
    refine wpAnyH_take (i := 8) (oi := { dst := some 19, op := Op.move (Operand.tmp 0), type := 23, pos := "bytes.go:52", after := #[{ on := 2, ground := Ground.guard }], guard := some (2, false) }) (v := ?vv34) rfl (by kernel_rfl) (by kernel_rfl) (by kernel_rfl) (fun _ _ _ h => h) ?hy34 (by assumption) ?rest34
    case hy34 => (refine Or.inl ⟨by rfl, ?_⟩; intro W hSw; (try dsimp only at hSw); go_simp; (try with_reducible rfl))
    try simp only [Act.put, List.setIfInBounds_toArray, List.set_cons_zero, List.set_cons_succ]
    refine wpAnyH_ready (rs := [9]) (by kernel_rfl) (by simp) ?_
    refine AllReadyH.cons (o := { dst := some 20, op := Op.call { callee := Callee.value (Operand.func 20), args := #[Operand.tmp 19], argTypes := #[23] }, type := 3, pos := "bytes.go:52", after := #[{ on := 8, ground := Ground.data }, { on := 2, ground := Ground.chain }, { on := 2, ground := Ground.guard }], guard := some (2, false) }) rfl (fun K hK => ?step35) ?more35
    case more35 => exact AllReadyH.nil
    ((go_simp; go_at_call 20; refine (HLE.out _ (below_drew (Below.refl _ _))).mono ?_; rintro e w2 ⟨rfl, hb2⟩; have HB2 := Lib.hid (below_of_drew hb2); clear hb2; go_wp2_with fail))
    refine hK.out _ _ ?hS35 (fun hHeld => ?rr35)
    case hS35 => (exact HKM.out _ HB2.out)
    clear hK K
    try simp only [Act.put, List.setIfInBounds_toArray, List.set_cons_zero, List.set_cons_succ]
    refine wpAnyH_take (i := 10) (oi := { dst := some 21, op := Op.binOp BinOp.sub 3 (Operand.const (Value.int IntKind.i64 256)) (Operand.tmp 20) 3, type := 3, pos := "bytes.go:52", after := #[{ on := 9, ground := Ground.data }, { on := 2, ground := Ground.guard }], guard := some (2, false) }) (v := ?vv36) rfl (by kernel_rfl) (by kernel_rfl) (by kernel_rfl) (fun _ _ _ h => h) ?hy36 (by assumption) ?rest36
    case hy36 => (refine Or.inl ⟨by rfl, ?_⟩; intro W hSw; (try dsimp only at hSw); go_simp; (try with_reducible rfl))
    try simp only [Act.put, List.setIfInBounds_toArray, List.set_cons_zero, List.set_cons_succ]
    refine wpAnyH_take (i := 11) (oi := { dst := some 22, op := Op.call { callee := Callee.builtin Builtin.min, args := #[Operand.tmp 18, Operand.tmp 21], argTypes := #[3, 3] }, type := 3, pos := "bytes.go:52", after := #[{ on := 7, ground := Ground.data }, { on := 10, ground := Ground.data }, { on := 2, ground := Ground.guard }], guard := some (2, false) }) (v := ?vv37) rfl (by kernel_rfl) (by kernel_rfl) (by kernel_rfl) (fun _ _ _ h => h) ?hy37 (by assumption) ?rest37
    case hy37 => (refine Or.inl ⟨by rfl, ?_⟩; intro W hSw; (try dsimp only at hSw); go_simp; (try with_reducible rfl))
    try simp only [Act.put, List.setIfInBounds_toArray, List.set_cons_zero, List.set_cons_succ]
    refine wpAnyH_take (i := 12) (oi := { dst := some 23, op := Op.convert 3 68 (Operand.tmp 22), type := 68, pos := "bytes.go:52", after := #[{ on := 11, ground := Ground.data }, { on := 2, ground := Ground.guard }], guard := some (2, false) }) (v := ?vv38) rfl (by kernel_rfl) (by kernel_rfl) (by kernel_rfl) (fun _ _ _ h => h) ?hy38 (by assumption) ?rest38
    case hy38 => (refine Or.inl ⟨by rfl, ?_⟩; intro W hSw; (try dsimp only at hSw); go_simp; (try with_reducible rfl))
    try simp only [Act.put, List.setIfInBounds_toArray, List.set_cons_zero, List.set_cons_succ]
    refine wpAnyH_take (i := 13) (oi := { dst := some 24, op := Op.binOp BinOp.gtr 68 (Operand.tmp 14) (Operand.tmp 23) 68, type := 4, pos := "bytes.go:52", after := #[{ on := 3, ground := Ground.data }, { on := 12, ground := Ground.data }, { on := 2, ground := Ground.guard }], guard := some (2, false) }) (v := ?vv39) rfl (by kernel_rfl) (by kernel_rfl) (by kernel_rfl) (fun _ _ _ h => h) ?hy39 (by assumption) ?rest39
    case hy39 => (refine Or.inl ⟨by rfl, ?_⟩; intro W hSw; (try dsimp only at hSw); go_simp; (try with_reducible rfl))
    try simp only [Act.put, List.setIfInBounds_toArray, List.set_cons_zero, List.set_cons_succ]
    refine wpAnyH_take (i := 14) (oi := { dst := some 25, op := Op.pick (Operand.tmp 13) (Operand.const (Value.bool true)) (Operand.tmp 24), type := 4, pos := "bytes.go:52", after := #[{ on := 2, ground := Ground.data }, { on := 13, ground := Ground.data }], guard := none }) (v := ?vv40) rfl (by kernel_rfl) (by kernel_rfl) (by kernel_rfl) (fun _ _ _ h => h) ?hy40 (by assumption) ?rest40
    case hy40 => (refine Or.inl ⟨by rfl, ?_⟩; intro W hSw; (try dsimp only at hSw); go_simp; (try with_reducible rfl))
    try simp only [Act.put, List.setIfInBounds_toArray, List.set_cons_zero, List.set_cons_succ]
    refine wpAnyH_done (by kernel_rfl) ?_ _
    dsimp only [onlyN]
    clear hHeld
    go_wp2_with fail
    refine wp_only ?_
    refine wp_region_held_drew (S := fun W => W.cell? ⟨s, 0, none⟩ = some (.int .i64 most)) (by kernel_rfl) (HKM.out _ (below_drew HB2.out)) (fun hHeld => ?_)
    refine wpAnyH_take (i := 0) (oi := { dst := some 26, op := Op.move (Operand.tmp 0), type := 23, pos := "bytes.go:53", after := #[], guard := none }) (v := ?vv41) rfl (by kernel_rfl) (by kernel_rfl) (by kernel_rfl) (fun _ _ _ h => h) ?hy41 (by assumption) ?rest41
    case hy41 => (refine Or.inl ⟨by rfl, ?_⟩; intro W hSw; (try dsimp only at hSw); go_simp; (try with_reducible rfl))
    try simp only [Act.put, List.setIfInBounds_toArray, List.set_cons_zero, List.set_cons_succ]
    refine wpAnyH_take (i := 1) (oi := { dst := some 27, op := Op.nilCheck (Operand.tmp 26), type := 0, pos := "bytes.go:53", after := #[{ on := 0, ground := Ground.data }], guard := none }) (v := ?vv42) rfl (by kernel_rfl) (by kernel_rfl) (by kernel_rfl) (fun _ _ _ h => h) ?hy42 (by assumption) ?rest42
    case hy42 => (refine Or.inl ⟨by rfl, ?_⟩; intro W hSw; (try dsimp only at hSw); go_simp; (try with_reducible rfl))
    try simp only [Act.put, List.setIfInBounds_toArray, List.set_cons_zero, List.set_cons_succ]
    refine wpAnyH_take (i := 2) (oi := { dst := some 28, op := Op.fieldAddr 64 (Operand.tmp 27) 0, type := 0, pos := "bytes.go:53", after := #[{ on := 1, ground := Ground.data }], guard := none }) (v := ?vv43) rfl (by kernel_rfl) (by kernel_rfl) (by kernel_rfl) (fun _ _ _ h => h) ?hy43 (by assumption) ?rest43
    case hy43 => (refine Or.inl ⟨by rfl, ?_⟩; intro W hSw; (try dsimp only at hSw); go_simp; (try with_reducible rfl))
    try simp only [Act.put, List.setIfInBounds_toArray, List.set_cons_zero, List.set_cons_succ]
    refine wpAnyH_take (i := 3) (oi := { dst := some 29, op := Op.load 3 (Operand.tmp 28), type := 3, pos := "bytes.go:53", after := #[{ on := 2, ground := Ground.data }], guard := none }) (v := ?vv44) rfl (by kernel_rfl) (by kernel_rfl) (by kernel_rfl) (fun _ _ _ h => h) ?hy44 (by assumption) ?rest44
    case hy44 => (refine Or.inl ⟨by rfl, ?_⟩; intro W hSw; (try dsimp only at hSw); go_simp; (try with_reducible rfl))
    try simp only [Act.put, List.setIfInBounds_toArray, List.set_cons_zero, List.set_cons_succ]
    refine wpAnyH_take (i := 4) (oi := { dst := some 30, op := Op.move (Operand.tmp 6), type := 68, pos := "bytes.go:53", after := #[], guard := none }) (v := ?vv45) rfl (by kernel_rfl) (by kernel_rfl) (by kernel_rfl) (fun _ _ _ h => h) ?hy45 (by assumption) ?rest45
    case hy45 => (refine Or.inl ⟨by rfl, ?_⟩; intro W hSw; (try dsimp only at hSw); go_simp; (try with_reducible rfl))
    try simp only [Act.put, List.setIfInBounds_toArray, List.set_cons_zero, List.set_cons_succ]
    refine wpAnyH_take (i := 5) (oi := { dst := some 31, op := Op.convert 68 2 (Operand.tmp 30), type := 2, pos := "bytes.go:53", after := #[{ on := 4, ground := Ground.data }], guard := none }) (v := ?vv46) rfl (by kernel_rfl) (by kernel_rfl) (by kernel_rfl) (fun _ _ _ h => h) ?hy46 (by assumption) ?rest46
    case hy46 => (refine Or.inl ⟨by rfl, ?_⟩; intro W hSw; (try dsimp only at hSw); go_simp; (try with_reducible rfl))
    try simp only [Act.put, List.setIfInBounds_toArray, List.set_cons_zero, List.set_cons_succ]
    refine wpAnyH_ready (rs := [6]) (by kernel_rfl) (by simp) ?_
    refine AllReadyH.cons (o := { dst := some 32, op := Op.call { callee := Callee.value (Operand.func 41), args := #[Operand.const (Value.int IntKind.i64 6)], argTypes := #[24] }, type := 49, pos := "bytes.go:53", after := #[], guard := none }) rfl (fun K hK => ?step47) ?more47
    case more47 => exact AllReadyH.nil
    ((go_simp; go_at_call 41; refine (HERR.out _).mono ?_; rintro e w3 ⟨ev, rfl, hev, hb3⟩; obtain ⟨t3, u3, rfl⟩ := hev.form2 (by simp [newL, onto]); have HEV := Lib.hid hev; have HB3 := Lib.hid ((below_drew HB2.out).trans (hb3.mono (below_drew HB2.out).size)); clear hev hb3; go_wp2_with fail))
    refine hK.out _ _ ?hS47 (fun hHeld => ?rr47)
    case hS47 => (exact HKM.out _ HB3.out)
    clear hK K
    try simp only [Act.put, List.setIfInBounds_toArray, List.set_cons_zero, List.set_cons_succ]
    refine wpAnyH_ready (rs := [7]) (by kernel_rfl) (by simp) ?_
    refine AllReadyH.cons (o := { dst := some 33, op := Op.call { callee := Callee.value (Operand.func 65), args := #[Operand.tmp 29, Operand.tmp 31, Operand.tmp 32], argTypes := #[2, 2, 49] }, type := 49, pos := "bytes.go:53", after := #[{ on := 3, ground := Ground.data }, { on := 5, ground := Ground.data }, { on := 6, ground := Ground.data }, { on := 6, ground := Ground.chain }], guard := none }) rfl (fun K hK => ?step48) ?more48
    case more48 => exact AllReadyH.nil
    ((go_simp; go_at_call 65; refine (bound_any _ _ HEV.out).mono ?_; rintro e w4 ⟨ev, rfl, hev, hb4⟩; obtain ⟨t4, u4, rfl⟩ := hev.form2 (by simp [newL, onto]); have HEV2 := Lib.hid hev; have HB4 := Lib.hid (HB3.out.trans (hb4.mono HB3.out.size)); clear hev hb4; go_wp2_with fail))
    refine hK.out _ _ ?hS48 (fun hHeld => ?rr48)
    case hS48 => (exact HKM.out _ HB4.out)
    clear hK K
    try simp only [Act.put, List.setIfInBounds_toArray, List.set_cons_zero, List.set_cons_succ]
    refine wpAnyH_take (i := 8) (oi := { dst := some 4, op := Op.assign (Operand.const (Value.slice none 0 0)), type := 40, pos := "bytes.go:53", after := #[{ on := 7, ground := Ground.chain }, { on := 0, ground := Ground.textOnly Departure.lateStores }, { on := 1, ground := Ground.textOnly Departure.lateStores }, { on := 2, ground := Ground.textOnly Departure.lateStores }, { on := 3, ground := Ground.textOnly Departure.lateStores }, { on := 4, ground := Ground.textOnly Departure.lateStores }, { on := 5, ground := Ground.textOnly Departure.lateStores }, { on := 6, ground := Ground.textOnly Departure.lateStoresUnsure }, { on := 7, ground := Ground.textOnly Departure.lateStoresUnsure }], guard := none }) (v := ?vv49) rfl (by kernel_rfl) (by kernel_rfl) (by kernel_rfl) (fun _ _ _ h => h) ?hy49 (by assumption) ?rest49
    case hy49 => (refine Or.inl ⟨by rfl, ?_⟩; intro W hSw; (try dsimp only at hSw); go_simp; (try with_reducible rfl))
    try simp only [Act.put, List.setIfInBounds_toArray, List.set_cons_zero, List.set_cons_succ]
    refine wpAnyH_take (i := 9) (oi := { dst := some 5, op := Op.assign (Operand.tmp 33), type := 49, pos := "bytes.go:53", after := #[{ on := 7, ground := Ground.data }, { on := 8, ground := Ground.chain }, { on := 0, ground := Ground.phase }, { on := 1, ground := Ground.phase }, { on := 2, ground := Ground.phase }, { on := 3, ground := Ground.phase }, { on := 4, ground := Ground.phase }, { on := 5, ground := Ground.phase }, { on := 6, ground := Ground.phase }, { on := 7, ground := Ground.phase }, { on := 8, ground := Ground.phase }], guard := none }) (v := ?vv50) rfl (by kernel_rfl) (by kernel_rfl) (by kernel_rfl) (fun _ _ _ h => h) ?hy50 (by assumption) ?rest50
    case hy50 => (refine Or.inl ⟨by rfl, ?_⟩; intro W hSw; (try dsimp only at hSw); go_simp; (try with_reducible rfl))
    try simp only [Act.put, List.setIfInBounds_toArray, List.set_cons_zero, List.set_cons_succ]
    refine wpAnyH_done (by kernel_rfl) ?_ _
    dsimp only [onlyN]
    clear hHeld
    go_wp2_with fail
    refine bodyPost_ret (v := .tuple #[.slice none 0 0, .iface t4 u4]) (by simp [results, Tryz.results57, go_sem]) rfl ?_
    exact ⟨_, rfl, form_one (by intro e h; cases h) HEV2.out, HO1.out.trans (Only.of_below HB4.out)⟩
end Go.Proofs.YtkkembbeejlomaaGreatDoor

namespace Go.Proofs.YtkkembbeejlomaaGreatDoor
open Go.RowKit Go.Shelf Go.Sort Go.Lib

/-- What next leaves. -/
def NextPost (w : World) (g : Nat) (A : Option Addr) (cap : Nat) (bs : List UInt8) (o : Option (List Row × Option Nat)) (e : Ending) (w' : World) : Prop :=
  Only g w w' ∧ ((o = none ∧ ∃ ev, e = .returned (.tuple #[.slice none 0 0, ev]) ∧ FormErr w' ev) ∨ ∃ p q v', o = some (p, some q) ∧ e = .returned (.tuple #[v', .nilIface]) ∧ RowsIs w' w.heap.size v' p ∧ Rd w' g A cap bs q .nilIface [])
theorem rowsS_none {bs : List UInt8} {k : Nat} {B p : List Row} {q : Nat} {r : Row} (h : rowS bs (some q) = (r, none)) : rowsS bs (k + 1) B p (some q) = none := by
  rw [rowsS, h]
theorem rowsS_not {bs : List UInt8} {k : Nat} {B p : List Row} {q q2 : Nat} {r : Row} (h : rowS bs (some q) = (r, some q2)) (hr : riseTo (B ++ p) r.k = false) : rowsS bs (k + 1) B p (some q) = none := by
  rw [rowsS, h]
  simp [hr]
theorem rowsS_next {bs : List UInt8} {k : Nat} {B p : List Row} {q q2 : Nat} {r : Row} (h : rowS bs (some q) = (r, some q2)) (hr : riseTo (B ++ p) r.k = true) : rowsS bs (k + 1) B p (some q) = rowsS bs k B (p ++ [r]) (some q2) := by
  rw [rowsS, h]
  simp [hr]
set_option maxRecDepth 100000 in
set_option maxHeartbeats 8000000 in
theorem next_rows {w : World} {s most : Nat} {v : Value} {L : List Pl} {P : List (List Row)} {g : Nat} {A : Option Addr} {cap : Nat} {bs : List UInt8} {q0 q1 n : Nat} (h : St w s most v L P) (hm : 2 ≤ most ∧ most ≤ 64) (ht : P.flatten.length ≤ 256) (hne : ∀ p ∈ P, p ≠ []) (hl : P.length ≤ 256) (h64 : ∀ p ∈ P, p.length ≤ 64)
    (hGl : Glob w) (hgE : g ≠ 0) (hR : Rd w g A cap bs q0 .nilIface []) (hg : ∀ k, Owns s v L k → k ≠ g)
    (hn : natS bs (some q0) = (n, some q1)) (h1n : 1 ≤ n) (hnm : n ≤ most) (hnt : n ≤ 256 - P.flatten.length) :
    Calls Tryz.prog 57 #[.pointer (some ⟨s, 0, none⟩), .pointer (some ⟨g, 0, none⟩)] w (NextPost w g A cap bs (rowsS bs n P.flatten [] (some q1))) := by
  have HN := Lib.hid (nat_u (st := some q0) hR)
  rw [hn] at HN
  have hgl := ErrIs.lt hR.blk
  have H := Lib.hid h
  have HG := Lib.hid hg
  have HR0 := Lib.hid hR
  have HGL := Lib.hid hGl
  have HGE := Lib.hid hgE
  obtain ⟨F, hF⟩ : ∃ F, P.flatten = F := ⟨_, rfl⟩
  obtain ⟨T, hT⟩ : ∃ T, P.flatten.length = T := ⟨_, rfl⟩
  have HT := Lib.hid hT
  have HF := Lib.hid hF
  rw [hF]
  rw [hT] at hnt ht
  have HPG := Lib.hid (And.intro hne (And.intro hl h64))
  clear h hR hg hn hT hGl hgE hF hne hl h64
  have h1d : decide ((n : Int) < 1) = false := by simp; omega
  obtain ⟨Bd, hBd⟩ : ∃ Bd, min most (256 - T) = Bd := ⟨_, rfl⟩
  have hBw : IntKind.u64.wrap (min (most : Int) (256 - (T : Int))) = (Bd : Int) := by rw [IntKind.wrap_u64]; omega
  have hBn : ¬ (Bd : Int) < (n : Int) := by omega
  have hn64 : (n : Int) ≤ 64 := by omega
  clear hBd
  have hTw : IntKind.i64.wrap (256 - (T : Int)) = 256 - (T : Int) := IntWalk.i64_in _ (by omega)
  go_enter Tryz.func57, Tryz.ntmps57
  go_wp2_with fail
  refine (HN.out).mono ?_
  rintro e w1 ⟨rfl, hR1, hO1⟩
  have h1 := H.out.touch hO1.touch (fun k hk => HG.out k hk)
  have HO1 := Lib.hid hO1
  have HR1 := Lib.hid hR1
  have km : ∀ W, Below w1.heap.size w1 W → W.cell? ⟨s, 0, none⟩ = some (.int .i64 most) := fun W hW => (hW.cell (p := ⟨s, 0, none⟩) (heap_lt h1.head)).trans (cell_of h1.head 0)
  have HKM := Lib.hid km
  have HLE := Lib.hid (fun W (hW : Below w1.heap.size w1 W) => Len_any (h1.below hW) (by have := HT.out; omega))
  rw [HT.out] at HLE
  clear hR1 hO1 h1 km
  go_wp2_with fail
  refine wp_only ?_
  refine wp_region_held_drew (S := fun W => W.cell? ⟨s, 0, none⟩ = some (.int .i64 most)) (by kernel_rfl) (HKM.out _ (below_drew (Below.refl _ _))) (fun hHeld => ?_)
  refine wpAnyH_take (i := 0) (oi := { dst := some 11, op := Op.move (Operand.tmp 6), type := 68, pos := "bytes.go:52", after := #[], guard := none }) (v := ?vv1) rfl (by kernel_rfl) (by kernel_rfl) (by kernel_rfl) (fun _ _ _ h => h) ?hy1 (by assumption) ?rest1
  case hy1 => (refine Or.inl ⟨by rfl, ?_⟩; intro W hSw; (try dsimp only at hSw); go_simp; (try with_reducible rfl))
  try simp only [Act.put, List.setIfInBounds_toArray, List.set_cons_zero, List.set_cons_succ]
  refine wpAnyH_take (i := 1) (oi := { dst := some 12, op := Op.binOp BinOp.lss 68 (Operand.tmp 11) (Operand.const (Value.int IntKind.u64 1)) 68, type := 4, pos := "bytes.go:52", after := #[{ on := 0, ground := Ground.data }], guard := none }) (v := ?vv2) rfl (by kernel_rfl) (by kernel_rfl) (by kernel_rfl) (fun _ _ _ h => h) ?hy2 (by assumption) ?rest2
  case hy2 => (refine Or.inl ⟨by rfl, ?_⟩; intro W hSw; (try dsimp only at hSw); go_simp; (try with_reducible rfl))
  try simp only [Act.put, List.setIfInBounds_toArray, List.set_cons_zero, List.set_cons_succ]
  refine wpAnyH_take (i := 2) (oi := { dst := some 13, op := Op.move (Operand.tmp 12), type := 4, pos := "bytes.go:52", after := #[{ on := 1, ground := Ground.data }], guard := none }) (v := ?vv3) rfl (by kernel_rfl) (by kernel_rfl) (by kernel_rfl) (fun _ _ _ h => h) ?hy3 (by assumption) ?rest3
  case hy3 => (refine Or.inl ⟨by rfl, ?_⟩; intro W hSw; (try dsimp only at hSw); go_simp; (try with_reducible rfl))
  try simp only [Act.put, List.setIfInBounds_toArray, List.set_cons_zero, List.set_cons_succ]
  refine wpAnyH_take (i := 3) (oi := { dst := some 14, op := Op.move (Operand.tmp 6), type := 68, pos := "bytes.go:52", after := #[{ on := 2, ground := Ground.guard }], guard := some (2, false) }) (v := ?vv4) rfl (by kernel_rfl) (by kernel_rfl) (by kernel_rfl) (fun _ _ _ h => h) ?hy4 (by assumption) ?rest4
  case hy4 => (refine Or.inl ⟨by rfl, ?_⟩; intro W hSw; (try dsimp only at hSw); go_simp; (try with_reducible rfl))
  try simp only [Act.put, List.setIfInBounds_toArray, List.set_cons_zero, List.set_cons_succ]
  refine wpAnyH_take (i := 4) (oi := { dst := some 15, op := Op.move (Operand.tmp 0), type := 23, pos := "bytes.go:52", after := #[{ on := 2, ground := Ground.guard }], guard := some (2, false) }) (v := ?vv5) rfl (by kernel_rfl) (by kernel_rfl) (by kernel_rfl) (fun _ _ _ h => h) ?hy5 (by assumption) ?rest5
  case hy5 => (refine Or.inl ⟨by rfl, ?_⟩; intro W hSw; (try dsimp only at hSw); go_simp; (try with_reducible rfl))
  try simp only [Act.put, List.setIfInBounds_toArray, List.set_cons_zero, List.set_cons_succ]
  refine wpAnyH_take (i := 5) (oi := { dst := some 16, op := Op.nilCheck (Operand.tmp 15), type := 0, pos := "bytes.go:52", after := #[{ on := 4, ground := Ground.data }, { on := 2, ground := Ground.guard }], guard := some (2, false) }) (v := ?vv6) rfl (by kernel_rfl) (by kernel_rfl) (by kernel_rfl) (fun _ _ _ h => h) ?hy6 (by assumption) ?rest6
  case hy6 => (refine Or.inl ⟨by rfl, ?_⟩; intro W hSw; (try dsimp only at hSw); go_simp; (try with_reducible rfl))
  try simp only [Act.put, List.setIfInBounds_toArray, List.set_cons_zero, List.set_cons_succ]
  refine wpAnyH_take (i := 6) (oi := { dst := some 17, op := Op.fieldAddr 64 (Operand.tmp 16) 0, type := 0, pos := "bytes.go:52", after := #[{ on := 5, ground := Ground.data }, { on := 2, ground := Ground.guard }], guard := some (2, false) }) (v := ?vv7) rfl (by kernel_rfl) (by kernel_rfl) (by kernel_rfl) (fun _ _ _ h => h) ?hy7 (by assumption) ?rest7
  case hy7 => (refine Or.inl ⟨by rfl, ?_⟩; intro W hSw; (try dsimp only at hSw); go_simp; (try with_reducible rfl))
  try simp only [Act.put, List.setIfInBounds_toArray, List.set_cons_zero, List.set_cons_succ]
  refine wpAnyH_take (i := 7) (oi := { dst := some 18, op := Op.load 3 (Operand.tmp 17), type := 3, pos := "bytes.go:52", after := #[{ on := 6, ground := Ground.data }, { on := 2, ground := Ground.guard }], guard := some (2, false) }) (v := ?vv8) rfl (by kernel_rfl) (by kernel_rfl) (by kernel_rfl) (fun _ _ _ h => h) ?hy8 (by assumption) ?rest8
  case hy8 => (refine Or.inl ⟨by rfl, ?_⟩; intro W hSw; (try dsimp only at hSw); go_simp; (try with_reducible rfl))
  try simp only [Act.put, List.setIfInBounds_toArray, List.set_cons_zero, List.set_cons_succ]
  refine wpAnyH_take (i := 8) (oi := { dst := some 19, op := Op.move (Operand.tmp 0), type := 23, pos := "bytes.go:52", after := #[{ on := 2, ground := Ground.guard }], guard := some (2, false) }) (v := ?vv9) rfl (by kernel_rfl) (by kernel_rfl) (by kernel_rfl) (fun _ _ _ h => h) ?hy9 (by assumption) ?rest9
  case hy9 => (refine Or.inl ⟨by rfl, ?_⟩; intro W hSw; (try dsimp only at hSw); go_simp; (try with_reducible rfl))
  try simp only [Act.put, List.setIfInBounds_toArray, List.set_cons_zero, List.set_cons_succ]
  refine wpAnyH_ready (rs := [9]) (by kernel_rfl) (by simp) ?_
  refine AllReadyH.cons (o := { dst := some 20, op := Op.call { callee := Callee.value (Operand.func 20), args := #[Operand.tmp 19], argTypes := #[23] }, type := 3, pos := "bytes.go:52", after := #[{ on := 8, ground := Ground.data }, { on := 2, ground := Ground.chain }, { on := 2, ground := Ground.guard }], guard := some (2, false) }) rfl (fun K hK => ?step10) ?more10
  case more10 => exact AllReadyH.nil
  ((go_simp; go_at_call 20; refine (HLE.out _ (below_drew (Below.refl _ _))).mono ?_; rintro e w2 ⟨rfl, hb2⟩; have HB2 := Lib.hid (below_of_drew hb2); clear hb2; go_wp2_with fail))
  refine hK.out _ _ ?hS10 (fun hHeld => ?rr10)
  case hS10 => (exact HKM.out _ HB2.out)
  clear hK K
  try simp only [Act.put, List.setIfInBounds_toArray, List.set_cons_zero, List.set_cons_succ]
  refine wpAnyH_take (i := 10) (oi := { dst := some 21, op := Op.binOp BinOp.sub 3 (Operand.const (Value.int IntKind.i64 256)) (Operand.tmp 20) 3, type := 3, pos := "bytes.go:52", after := #[{ on := 9, ground := Ground.data }, { on := 2, ground := Ground.guard }], guard := some (2, false) }) (v := ?vv11) rfl (by kernel_rfl) (by kernel_rfl) (by kernel_rfl) (fun _ _ _ h => h) ?hy11 (by assumption) ?rest11
  case hy11 => (refine Or.inl ⟨by rfl, ?_⟩; intro W hSw; (try dsimp only at hSw); go_simp; (try with_reducible rfl))
  try simp only [Act.put, List.setIfInBounds_toArray, List.set_cons_zero, List.set_cons_succ]
  refine wpAnyH_take (i := 11) (oi := { dst := some 22, op := Op.call { callee := Callee.builtin Builtin.min, args := #[Operand.tmp 18, Operand.tmp 21], argTypes := #[3, 3] }, type := 3, pos := "bytes.go:52", after := #[{ on := 7, ground := Ground.data }, { on := 10, ground := Ground.data }, { on := 2, ground := Ground.guard }], guard := some (2, false) }) (v := ?vv12) rfl (by kernel_rfl) (by kernel_rfl) (by kernel_rfl) (fun _ _ _ h => h) ?hy12 (by assumption) ?rest12
  case hy12 => (refine Or.inl ⟨by rfl, ?_⟩; intro W hSw; (try dsimp only at hSw); go_simp; (try with_reducible rfl))
  try simp only [Act.put, List.setIfInBounds_toArray, List.set_cons_zero, List.set_cons_succ]
  refine wpAnyH_take (i := 12) (oi := { dst := some 23, op := Op.convert 3 68 (Operand.tmp 22), type := 68, pos := "bytes.go:52", after := #[{ on := 11, ground := Ground.data }, { on := 2, ground := Ground.guard }], guard := some (2, false) }) (v := ?vv13) rfl (by kernel_rfl) (by kernel_rfl) (by kernel_rfl) (fun _ _ _ h => h) ?hy13 (by assumption) ?rest13
  case hy13 => (refine Or.inl ⟨by rfl, ?_⟩; intro W hSw; (try dsimp only at hSw); go_simp; (try with_reducible rfl))
  try simp only [Act.put, List.setIfInBounds_toArray, List.set_cons_zero, List.set_cons_succ]
  refine wpAnyH_take (i := 13) (oi := { dst := some 24, op := Op.binOp BinOp.gtr 68 (Operand.tmp 14) (Operand.tmp 23) 68, type := 4, pos := "bytes.go:52", after := #[{ on := 3, ground := Ground.data }, { on := 12, ground := Ground.data }, { on := 2, ground := Ground.guard }], guard := some (2, false) }) (v := (.bool false)) rfl (by kernel_rfl) (by kernel_rfl) (by kernel_rfl) (fun _ _ _ h => h) ?hy14 (by assumption) ?rest14
  case hy14 => ((refine Or.inl ⟨by rfl, ?_⟩; intro W hSw; (try dsimp only at hSw); go_simp; (try simpa using hBn)))
  try simp only [Act.put, List.setIfInBounds_toArray, List.set_cons_zero, List.set_cons_succ]
  refine wpAnyH_take (i := 14) (oi := { dst := some 25, op := Op.pick (Operand.tmp 13) (Operand.const (Value.bool true)) (Operand.tmp 24), type := 4, pos := "bytes.go:52", after := #[{ on := 2, ground := Ground.data }, { on := 13, ground := Ground.data }], guard := none }) (v := ?vv15) rfl (by kernel_rfl) (by kernel_rfl) (by kernel_rfl) (fun _ _ _ h => h) ?hy15 (by assumption) ?rest15
  case hy15 => (refine Or.inl ⟨by rfl, ?_⟩; intro W hSw; (try dsimp only at hSw); go_simp; (try with_reducible rfl))
  try simp only [Act.put, List.setIfInBounds_toArray, List.set_cons_zero, List.set_cons_succ]
  refine wpAnyH_done (by kernel_rfl) ?_ _
  dsimp only [onlyN]
  clear hHeld
  have HOB : Hid (Only g w w2) := Lib.hid (HO1.out.trans (Only.of_below HB2.out))
  have HRB : Hid (Rd w2 g A cap bs q1 .nilIface []) := Lib.hid (Rd.below HR1.out HB2.out)
  clear HN HLE HKM HB2
  go_wp2_with fail
  go_loopw [7, 35] (fun pv iv wr => ∃ (j : Nat) (p : List Row) (q : Nat), j ≤ n ∧ iv = .int .u64 j ∧ p.length = j ∧ RowsIs wr w.heap.size pv p ∧ Rd wr g A cap bs q .nilIface [] ∧ Only g w wr ∧ rowsS bs n F [] (some q1) = rowsS bs (n - j) F p (some q)) (fun _ iv _ => n - (intOf iv).toNat)
  case atStart => exact ⟨0, [], q1, Nat.zero_le _, rfl, rfl, ⟨RowIs.nil _ _, fun b e => by cases e⟩, HRB.out, HOB.out, rfl⟩
  case round =>
    obtain ⟨j, p, q, hj, rfl, hpl, hrw, hRq, hOw, hcont⟩ := hrel
    obtain ⟨Al, cl, rfl, _⟩ := hrw.1.form
    rw [hpl]
    by_cases hlt : j < n
    · have hjI : (j : Int) < (n : Int) := by omega
      obtain ⟨m0, hm0⟩ : ∃ m0, n - j = m0 + 1 := ⟨n - j - 1, by omega⟩
      rw [hm0] at hcont
      have HM0 : Hid (n - (j + 1) = m0) := Lib.hid (by omega)
      have HCONT := Lib.hid hcont
      have HRW := Lib.hid hrw
      have HOW := Lib.hid hOw
      have HPL := Lib.hid hpl
      have HLT := Lib.hid hlt
      have HS := Lib.hid (str_u (most := 16) (st := some q) (by omega) hRq)
      obtain ⟨sv, o1, hsv⟩ : ∃ sv o1, strS 16 bs (some q) = (sv, o1) := ⟨_, _, rfl⟩
      rw [hsv] at HS
      obtain ⟨k, rfl⟩ : ∃ k : K, sv = ⟨k.toArray⟩ := ⟨sv.data.toList, by simp⟩
      obtain ⟨m, o2, hmv⟩ : ∃ m o2, numS bs o1 = (m, o2) := ⟨_, _, rfl⟩
      have hrow : rowS bs (some q) = (⟨k, m⟩, o2) := by
        unfold rowS
        rw [hsv]
        simp only
        rw [hmv]
      have HROW := Lib.hid hrow
      have HMV := Lib.hid hmv
      clear hcont hrw hOw hpl hlt hRq hsv hmv hrow hm0
      go_wp2_with fail
      refine (HS.out).mono ?_
      rintro e w3 ⟨rfl, hR3, hO3⟩
      have HNU := Lib.hid (num_u hR3)
      rw [HMV.out] at HNU
      have HO3 := Lib.hid (HOW.out.trans hO3)
      have hrw3 : RowsIs w3 w.heap.size (.slice Al p.length cl) p := ⟨RowIs.touch HRW.out.1 hO3.touch (fun b e => by have := HRW.out.2 b e; omega), HRW.out.2⟩
      have HRW3 := Lib.hid hrw3
      clear hR3 hO3 hrw3 HS
      go_wp2_with fail
      refine (HNU.out).mono ?_
      rintro e w4 ⟨rfl, hR4, hO4⟩
      have HO4 := Lib.hid (HO3.out.trans hO4)
      have hrw4 : RowsIs w4 w.heap.size (.slice Al p.length cl) p := ⟨RowIs.touch HRW3.out.1 hO4.touch (fun b e => by have := HRW3.out.2 b e; omega), HRW3.out.2⟩
      have HR4 := Lib.hid hR4
      have HRW4 := Lib.hid hrw4
      have hb5 := below_new (w := w4) (.cells #[.string ⟨k.toArray⟩, .int .i64 m] 42)
      have hat := alloc_at w4 (.cells #[.string ⟨k.toArray⟩, .int .i64 m] 42)
      have HAT : Hid (∀ W, Below (w4.heap.size + 1) (w4.alloc (.cells #[.string ⟨k.toArray⟩, .int .i64 m] 42)) W → W.cell? ⟨w4.heap.size, 0, none⟩ = some (.string ⟨k.toArray⟩) ∧ W.cell? ⟨w4.heap.size, 1, none⟩ = some (.int .i64 m)) := Lib.hid (fun W hW => ⟨(hW.cell (p := ⟨w4.heap.size, 0, none⟩) (by show w4.heap.size < w4.heap.size + 1; omega)).trans (cell_of hat 0), (hW.cell (p := ⟨w4.heap.size, 1, none⟩) (by show w4.heap.size < w4.heap.size + 1; omega)).trans (cell_of hat 1)⟩)
      have HER := Lib.hid (err_u ((HGL.out.only HO4.out HGE.out).below hb5) (hR4.below hb5))
      have HB5 := Lib.hid hb5
      clear hR4 hO4 hrw4 hb5 hat HNU
      go_wp2_with fail
      refine (HER.out).mono ?_
      rintro e w6 ⟨x, rfl, hx, hb6⟩
      have hk6 := HAT.out w6 (by rw [asz] at hb6; exact hb6)
      obtain ⟨k0, k1⟩ := hk6
      have HB6 := Lib.hid (HB5.out.trans (hb6.mono HB5.out.size))
      cases o2 with
      | none =>
        have hx : (x == 0) = false := hx
        have hx2 : ¬ x = 0 := by simpa using hx
        clear hb6
        have HK0 := Lib.hid k0
        go_wp2_with fail
        refine wp_only ?_
        refine wp_region_held_drew (S := fun W => W.cell? ⟨w4.heap.size, 0, none⟩ = some (.string ⟨k.toArray⟩)) (by kernel_rfl) HK0.out (fun hHeld => ?_)
        refine wpAnyH_take (i := 0) (oi := { dst := some 53, op := Op.fieldAddr 42 (Operand.tmp 8) 0, type := 0, pos := "bytes.go:59", after := #[], guard := none }) (v := ?vv16) rfl (by kernel_rfl) (by kernel_rfl) (by kernel_rfl) (fun _ _ _ h => h) ?hy16 (by assumption) ?rest16
        case hy16 => (refine Or.inl ⟨by rfl, ?_⟩; intro W hSw; (try dsimp only at hSw); go_simp; (try with_reducible rfl))
        try simp only [Act.put, List.setIfInBounds_toArray, List.set_cons_zero, List.set_cons_succ]
        refine wpAnyH_take (i := 1) (oi := { dst := some 54, op := Op.load 9 (Operand.tmp 53), type := 9, pos := "bytes.go:59", after := #[{ on := 0, ground := Ground.data }], guard := none }) (v := ?vv17) rfl (by kernel_rfl) (by kernel_rfl) (by kernel_rfl) (fun _ _ _ h => h) ?hy17 (by assumption) ?rest17
        case hy17 => (refine Or.inl ⟨by rfl, ?_⟩; intro W hSw; (try dsimp only at hSw); go_simp; (try with_reducible rfl))
        try simp only [Act.put, List.setIfInBounds_toArray, List.set_cons_zero, List.set_cons_succ]
        refine wpAnyH_ready (rs := [2]) (by kernel_rfl) (by simp) ?_
        refine AllReadyH.cons (o := { dst := some 55, op := Op.call { callee := Callee.value (Operand.func 41), args := #[Operand.const (Value.int IntKind.i64 6)], argTypes := #[24] }, type := 49, pos := "bytes.go:59", after := #[], guard := none }) rfl (fun K hK => ?step18) ?more18
        case more18 => exact AllReadyH.nil
        ((go_simp; go_at_call 41; refine (new_any 6 _).mono ?_; rintro e w8 ⟨ev, rfl, hev, hb8⟩; obtain ⟨t8, u8, rfl⟩ := hev.form2 (by simp [newL, onto]); have HEV := Lib.hid hev; have HB8 := Lib.hid (below_of_drew hb8); clear hev hb8; go_wp2_with fail))
        refine hK.out _ _ ?hS18 (fun hHeld => ?rr18)
        case hS18 => (exact (HB8.out.cell (World.block_lt_of_cell? _ _ HK0.out)).trans HK0.out)
        clear hK K
        try simp only [Act.put, List.setIfInBounds_toArray, List.set_cons_zero, List.set_cons_succ]
        refine wpAnyH_ready (rs := [3]) (by kernel_rfl) (by simp) ?_
        refine AllReadyH.cons (o := { dst := some 56, op := Op.call { callee := Callee.value (Operand.func 40), args := #[Operand.tmp 54, Operand.tmp 55], argTypes := #[9, 49] }, type := 49, pos := "bytes.go:59", after := #[{ on := 1, ground := Ground.data }, { on := 2, ground := Ground.data }, { on := 2, ground := Ground.chain }], guard := none }) rfl (fun K hK => ?step19) ?more19
        case more19 => exact AllReadyH.nil
        ((go_simp; go_at_call 40; refine (in_any _ HEV.out).mono ?_; rintro e w9 ⟨ev, rfl, hev, hb9⟩; obtain ⟨t9, u9, rfl⟩ := hev.form2 (by simp [newL, onto]); have HEV2 := Lib.hid hev; have HB9 := Lib.hid (HB8.out.trans (hb9.mono HB8.out.size)); clear hev hb9; go_wp2_with fail))
        refine hK.out _ _ ?hS19 (fun hHeld => ?rr19)
        case hS19 => (exact (HB9.out.cell (World.block_lt_of_cell? _ _ HK0.out)).trans HK0.out)
        clear hK K
        try simp only [Act.put, List.setIfInBounds_toArray, List.set_cons_zero, List.set_cons_succ]
        refine wpAnyH_take (i := 4) (oi := { dst := some 4, op := Op.assign (Operand.const (Value.slice none 0 0)), type := 40, pos := "bytes.go:59", after := #[{ on := 3, ground := Ground.chain }, { on := 0, ground := Ground.textOnly Departure.lateStores }, { on := 1, ground := Ground.textOnly Departure.lateStores }, { on := 2, ground := Ground.textOnly Departure.lateStoresUnsure }, { on := 3, ground := Ground.textOnly Departure.lateStoresUnsure }], guard := none }) (v := ?vv20) rfl (by kernel_rfl) (by kernel_rfl) (by kernel_rfl) (fun _ _ _ h => h) ?hy20 (by assumption) ?rest20
        case hy20 => (refine Or.inl ⟨by rfl, ?_⟩; intro W hSw; (try dsimp only at hSw); go_simp; (try with_reducible rfl))
        try simp only [Act.put, List.setIfInBounds_toArray, List.set_cons_zero, List.set_cons_succ]
        refine wpAnyH_take (i := 5) (oi := { dst := some 5, op := Op.assign (Operand.tmp 56), type := 49, pos := "bytes.go:59", after := #[{ on := 3, ground := Ground.data }, { on := 4, ground := Ground.chain }, { on := 0, ground := Ground.phase }, { on := 1, ground := Ground.phase }, { on := 2, ground := Ground.phase }, { on := 3, ground := Ground.phase }, { on := 4, ground := Ground.phase }], guard := none }) (v := ?vv21) rfl (by kernel_rfl) (by kernel_rfl) (by kernel_rfl) (fun _ _ _ h => h) ?hy21 (by assumption) ?rest21
        case hy21 => (refine Or.inl ⟨by rfl, ?_⟩; intro W hSw; (try dsimp only at hSw); go_simp; (try with_reducible rfl))
        try simp only [Act.put, List.setIfInBounds_toArray, List.set_cons_zero, List.set_cons_succ]
        refine wpAnyH_done (by kernel_rfl) ?_ _
        dsimp only [onlyN]
        clear hHeld
        go_wp2_with fail
        refine bodyPost_ret (v := .tuple #[.slice none 0 0, .iface t9 u9]) (by simp [results, Tryz.results57, go_sem]) rfl ?_
        exact ⟨HO4.out.trans (Only.of_below (HB6.out.trans (HB9.out.mono HB6.out.size))), .inl ⟨by rw [HCONT.out]; exact rowsS_none HROW.out, _, rfl, form_one (by intro e h; cases h) HEV2.out⟩⟩
      | some q2 =>
        obtain rfl : x = 0 := by
          have hx : (x == 0) = true := hx
          simpa using hx
        clear hb6
        obtain ⟨hne, hlP, h64⟩ := HPG.out
        have HRI := Lib.hid (rises_any (((H.out.touch HO4.out.touch (fun k hk => HG.out k hk))).below HB6.out) hne hlP h64 (HRW4.out.below HB6.out) (by have := HPL.out; omega) k)
        rw [HF.out] at HRI
        obtain ⟨rb, hrb⟩ : ∃ rb, riseTo (F ++ p) k = rb := ⟨_, rfl⟩
        rw [hrb] at HRI
        simp only [strV] at HRI
        rw [HPL.out] at HRI
        have HRB := Lib.hid hrb
        have HK := Lib.hid (And.intro k0 k1)
        clear hne hlP h64 hrb
        go_wp2_with fail
        refine (HRI.out).mono ?_
        rintro e w7 ⟨rfl, nn, hw7⟩
        have hb67 : Below w6.heap.size w6 w7 := by rw [hw7]; exact below_drewN (Below.refl _ _) nn
        have k07 : w7.cell? ⟨w4.heap.size, 0, none⟩ = some (.string ⟨k.toArray⟩) := by rw [hw7]; exact HK.out.1
        have k17 : w7.cell? ⟨w4.heap.size, 1, none⟩ = some (.int .i64 m) := by rw [hw7]; exact HK.out.2
        have HB67 := Lib.hid (HB6.out.trans (hb67.mono HB6.out.size))
        clear hw7 hb67
        cases rb with
        | false =>
          have HK0 := Lib.hid k07
          go_wp2_with fail
          refine wp_only ?_
          refine wp_region_held_drew (S := fun W => W.cell? ⟨w4.heap.size, 0, none⟩ = some (.string ⟨k.toArray⟩)) (by kernel_rfl) HK0.out (fun hHeld => ?_)
          refine wpAnyH_take (i := 0) (oi := { dst := some 53, op := Op.fieldAddr 42 (Operand.tmp 8) 0, type := 0, pos := "bytes.go:59", after := #[], guard := none }) (v := ?vv22) rfl (by kernel_rfl) (by kernel_rfl) (by kernel_rfl) (fun _ _ _ h => h) ?hy22 (by assumption) ?rest22
          case hy22 => (refine Or.inl ⟨by rfl, ?_⟩; intro W hSw; (try dsimp only at hSw); go_simp; (try with_reducible rfl))
          try simp only [Act.put, List.setIfInBounds_toArray, List.set_cons_zero, List.set_cons_succ]
          refine wpAnyH_take (i := 1) (oi := { dst := some 54, op := Op.load 9 (Operand.tmp 53), type := 9, pos := "bytes.go:59", after := #[{ on := 0, ground := Ground.data }], guard := none }) (v := ?vv23) rfl (by kernel_rfl) (by kernel_rfl) (by kernel_rfl) (fun _ _ _ h => h) ?hy23 (by assumption) ?rest23
          case hy23 => (refine Or.inl ⟨by rfl, ?_⟩; intro W hSw; (try dsimp only at hSw); go_simp; (try with_reducible rfl))
          try simp only [Act.put, List.setIfInBounds_toArray, List.set_cons_zero, List.set_cons_succ]
          refine wpAnyH_ready (rs := [2]) (by kernel_rfl) (by simp) ?_
          refine AllReadyH.cons (o := { dst := some 55, op := Op.call { callee := Callee.value (Operand.func 41), args := #[Operand.const (Value.int IntKind.i64 6)], argTypes := #[24] }, type := 49, pos := "bytes.go:59", after := #[], guard := none }) rfl (fun K hK => ?step24) ?more24
          case more24 => exact AllReadyH.nil
          ((go_simp; go_at_call 41; refine (new_any 6 _).mono ?_; rintro e w8 ⟨ev, rfl, hev, hb8⟩; obtain ⟨t8, u8, rfl⟩ := hev.form2 (by simp [newL, onto]); have HEV := Lib.hid hev; have HB8 := Lib.hid (below_of_drew hb8); clear hev hb8; go_wp2_with fail))
          refine hK.out _ _ ?hS24 (fun hHeld => ?rr24)
          case hS24 => (exact (HB8.out.cell (World.block_lt_of_cell? _ _ HK0.out)).trans HK0.out)
          clear hK K
          try simp only [Act.put, List.setIfInBounds_toArray, List.set_cons_zero, List.set_cons_succ]
          refine wpAnyH_ready (rs := [3]) (by kernel_rfl) (by simp) ?_
          refine AllReadyH.cons (o := { dst := some 56, op := Op.call { callee := Callee.value (Operand.func 40), args := #[Operand.tmp 54, Operand.tmp 55], argTypes := #[9, 49] }, type := 49, pos := "bytes.go:59", after := #[{ on := 1, ground := Ground.data }, { on := 2, ground := Ground.data }, { on := 2, ground := Ground.chain }], guard := none }) rfl (fun K hK => ?step25) ?more25
          case more25 => exact AllReadyH.nil
          ((go_simp; go_at_call 40; refine (in_any _ HEV.out).mono ?_; rintro e w9 ⟨ev, rfl, hev, hb9⟩; obtain ⟨t9, u9, rfl⟩ := hev.form2 (by simp [newL, onto]); have HEV2 := Lib.hid hev; have HB9 := Lib.hid (HB8.out.trans (hb9.mono HB8.out.size)); clear hev hb9; go_wp2_with fail))
          refine hK.out _ _ ?hS25 (fun hHeld => ?rr25)
          case hS25 => (exact (HB9.out.cell (World.block_lt_of_cell? _ _ HK0.out)).trans HK0.out)
          clear hK K
          try simp only [Act.put, List.setIfInBounds_toArray, List.set_cons_zero, List.set_cons_succ]
          refine wpAnyH_take (i := 4) (oi := { dst := some 4, op := Op.assign (Operand.const (Value.slice none 0 0)), type := 40, pos := "bytes.go:59", after := #[{ on := 3, ground := Ground.chain }, { on := 0, ground := Ground.textOnly Departure.lateStores }, { on := 1, ground := Ground.textOnly Departure.lateStores }, { on := 2, ground := Ground.textOnly Departure.lateStoresUnsure }, { on := 3, ground := Ground.textOnly Departure.lateStoresUnsure }], guard := none }) (v := ?vv26) rfl (by kernel_rfl) (by kernel_rfl) (by kernel_rfl) (fun _ _ _ h => h) ?hy26 (by assumption) ?rest26
          case hy26 => (refine Or.inl ⟨by rfl, ?_⟩; intro W hSw; (try dsimp only at hSw); go_simp; (try with_reducible rfl))
          try simp only [Act.put, List.setIfInBounds_toArray, List.set_cons_zero, List.set_cons_succ]
          refine wpAnyH_take (i := 5) (oi := { dst := some 5, op := Op.assign (Operand.tmp 56), type := 49, pos := "bytes.go:59", after := #[{ on := 3, ground := Ground.data }, { on := 4, ground := Ground.chain }, { on := 0, ground := Ground.phase }, { on := 1, ground := Ground.phase }, { on := 2, ground := Ground.phase }, { on := 3, ground := Ground.phase }, { on := 4, ground := Ground.phase }], guard := none }) (v := ?vv27) rfl (by kernel_rfl) (by kernel_rfl) (by kernel_rfl) (fun _ _ _ h => h) ?hy27 (by assumption) ?rest27
          case hy27 => (refine Or.inl ⟨by rfl, ?_⟩; intro W hSw; (try dsimp only at hSw); go_simp; (try with_reducible rfl))
          try simp only [Act.put, List.setIfInBounds_toArray, List.set_cons_zero, List.set_cons_succ]
          refine wpAnyH_done (by kernel_rfl) ?_ _
          dsimp only [onlyN]
          clear hHeld
          go_wp2_with fail
          refine bodyPost_ret (v := .tuple #[.slice none 0 0, .iface t9 u9]) (by simp [results, Tryz.results57, go_sem]) rfl ?_
          exact ⟨HO4.out.trans (Only.of_below (HB67.out.trans (HB9.out.mono HB67.out.size))), .inl ⟨by rw [HCONT.out]; exact rowsS_not HROW.out HRB.out, _, rfl, form_one (by intro e h; cases h) HEV2.out⟩⟩
        | true =>
          have hB7 : Below w4.heap.size w4 w7 := HB67.out
          have hW2 := below_new (w := w7) (.cells #[.string ⟨k.toArray⟩, .int .i64 m] 42)
          have hat := alloc_at w7 (.cells #[.string ⟨k.toArray⟩, .int .i64 m] 42)
          have HSRC := Lib.hid (src_lit hat)
          have hB8 := hB7.trans (hW2.mono hB7.size)
          have HRW8 := Lib.hid (HRW4.out.below hB8)
          have HR8 := Lib.hid (RdS.below HR4.out hB8)
          have HO8 := Lib.hid (HO4.out.trans (Only.of_below hB8))
          have HRWJ : Hid (RowIs (w7.alloc (.cells #[.string ⟨k.toArray⟩, .int .i64 m] 42)) 2 (.slice Al j cl) j (pgC p)) := Lib.hid (by
            have := HRW8.out.1
            rw [HPL.out] at this
            exact this)
          clear hB7 hW2 hat hB8
          go_wp2_with (at_builtin; refine wpList_append_row _ _ Tryz.underlying40 infoR rfl (by decide) (by decide) _ rfl _ _ 40 rfl j 1 (pgC p) [strV k, .int .i64 m] _ _ rfl rfl HRWJ.out HSRC.out ?_ ?_)
          all_goals first | omega | skip
          intro v' w' hrow hgrow hblk
          obtain ⟨h5, h6⟩ := push_rows (r := ⟨k, m⟩) HRW8.out HO8.out.size (by rw [HPL.out]; exact hrow) (by rw [HPL.out]; exact hgrow) (by rw [asz, HPL.out]; exact hblk)
          have HNEW : Hid (RowsIs w' w.heap.size v' (p ++ [⟨k, m⟩]) ∧ Rd w' g A cap bs q2 .nilIface [] ∧ Only g w w' ∧ rowsS bs n F [] (some q1) = rowsS bs (n - (j + 1)) F (p ++ [⟨k, m⟩]) (some q2)) := Lib.hid ⟨h5, Rd.keepB HR0.out HR8.out h6, HO8.out.below_after h6 (Nat.le_refl _), by rw [HCONT.out, HM0.out]; exact rowsS_next HROW.out HRB.out⟩
          have HPL2 : Hid ((p ++ [(⟨k, m⟩ : Row)]).length = j + 1) := Lib.hid (by rw [List.length_append, HPL.out]; rfl)
          clear hrow hgrow hblk h5 h6
          go_wp2_with fail
          go_roundw
          case rel => exact ⟨j + 1, p ++ [⟨k, m⟩], q2, HLT.out, by go_num, HPL2.out, HNEW.out⟩
          case measure => have := HLT.out; simp [intOf]; omega
    · obtain rfl : j = n := by omega
      rw [Nat.sub_self] at hcont
      have HFIN : Hid (NextPost w g A cap bs (rowsS bs j F [] (some q1)) (.returned (.tuple #[.slice Al j cl, .nilIface])) wr) := Lib.hid ⟨hOw, .inr ⟨p, q, _, by rw [hcont]; rfl, rfl, by rw [hpl] at hrw; exact hrw, hRq⟩⟩
      clear hcont hrw hOw hpl hlt hRq
      go_wp2_with fail
      refine bodyPost_ret (v := .tuple #[.slice Al j cl, .nilIface]) (by simp [results, Tryz.results57, go_sem]) rfl ?_
      exact HFIN.out
end Go.Proofs.YtkkembbeejlomaaGreatDoor
