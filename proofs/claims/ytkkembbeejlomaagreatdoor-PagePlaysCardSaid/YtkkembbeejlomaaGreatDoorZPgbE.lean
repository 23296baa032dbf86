/- The document's own rows. The document's own rows: With. The rows that the document's own list holds; a call's keys are not too long. -/
import Derived.Test.YtkkembbeejlomaaGreatDoorZPgbB
import Derived.Test.YtkkembbeejlomaaGreatDoorZTak
set_option linter.unusedSimpArgs false
set_option linter.unusedVariables false
set_option linter.unnecessarySimpa false
namespace Go.Proofs.YtkkembbeejlomaaGreatDoor
open Go.RowKit Go.Shelf Go.Sort Go.Lib

def RowOf (w : World) (v : Value) (p : List Row) : Prop := RowIs w 2 v p.length (pgC p)
theorem RowOf.cells {w : World} {v : Value} {p : List Row} (h : RowOf w v p) {i : Nat} {r : Row} (hr : p[i]? = some r) : ∃ g c, v = .slice (some ⟨g, 0, none⟩) p.length c ∧ w.cell? ⟨g, i * 2, none⟩ = some (.string ⟨r.k.toArray⟩) ∧ w.cell? ⟨g, i * 2 + 1, none⟩ = some (.int .i64 r.n) ∧ p.length ≤ c ∧ c ≤ maxLen := by
  obtain ⟨A, c, rfl, h1, h2, _, _, h3⟩ := RowIs.form h
  obtain ⟨q1, q2⟩ := pgC_at hr
  obtain ⟨g, rfl, k1⟩ := h3 _ _ q1
  obtain ⟨_, e, k2⟩ := h3 _ _ q2
  injection e with e
  injection e with e
  subst e
  exact ⟨g, c, rfl, k1, k2, h1, h2⟩
def getR (p : List Row) (k : K) : Int × Bool := match p.find? (fun r => decide (r.k = k)) with
  | some r => (r.n, true)
  | none => (0, false)
theorem find_snoc {p : List Row} {i : Nat} {r : Row} {k : K} (h : p[i]? = some r) (hn : ∀ x ∈ p.take i, x.k ≠ k) : (∀ x ∈ p.take (i + 1), x.k ≠ k) ∨ (r.k = k ∧ getR p k = (r.n, true)) := by
  by_cases hk : r.k = k
  · right
    refine ⟨hk, ?_⟩
    have hi := (List.getElem?_eq_some_iff.1 h)
    obtain ⟨hil, hv⟩ := hi
    have : p.find? (fun r => decide (r.k = k)) = some r := by
      conv => lhs; rw [← List.take_append_drop i p, List.drop_eq_getElem_cons hil, hv]
      rw [List.find?_append, List.find?_eq_none.2 (fun x hx => by simpa using hn x hx)]
      simp [hk]
    unfold getR
    rw [this]
  · left
    intro x hx
    rw [List.take_add_one, h] at hx
    rcases List.mem_append.1 hx with hx | hx
    · exact hn x hx
    · obtain rfl := List.mem_singleton.1 hx
      exact hk
theorem find_end {p : List Row} {k : K} (hn : ∀ x ∈ p, x.k ≠ k) : getR p k = (0, false) := by
  unfold getR
  rw [List.find?_eq_none.2 (fun x hx => by simpa using hn x hx)]
theorem key_beq {a b : K} : ((⟨a.toArray⟩ : ByteArray) = ⟨b.toArray⟩) ↔ a = b := by
  constructor
  · intro e
    injection e with e
    simpa using e
  · rintro rfl; rfl
theorem row_ne {r r2 : Row} (h : ¬ r = r2) : r.k = r2.k → ¬ r.n = r2.n := fun e1 e2 => h (by
  cases r; cases r2
  simp only at e1 e2
  rw [e1, e2])
set_option maxRecDepth 100000 in
set_option maxHeartbeats 4000000 in
theorem RGet_any {w : World} {v : Value} {p : List Row} (h : RowOf w v p) (hl : p.length ≤ 1000) (k : K) :
    Calls Tryz.prog 29 #[v, strV k] w fun e w' => e = .returned (.tuple #[.int .i64 (getR p k).1, .bool (getR p k).2]) ∧ Below w.heap.size w w' := by
  obtain ⟨A, c, rfl, hc1, hc2, _⟩ := RowIs.form h
  unfold maxLen at hc2
  have hlI : (p.length : Int) ≤ 1000 := by omega
  have H := Lib.hid h
  clear h
  unfold strV
  go_enter Tryz.func29, Tryz.ntmps29
  go_wp2_with fail
  go_loopw [10] (fun iv wr => ∃ i : Nat, i ≤ p.length ∧ iv = .int .i64 i ∧ (∀ x ∈ p.take i, x.k ≠ k) ∧ Below w.heap.size w wr) (fun iv _ => p.length - (intOf iv).toNat)
  case atStart => exact ⟨0, Nat.zero_le _, rfl, fun x hx => by simp at hx, Below.refl _ _⟩
  case round =>
    obtain ⟨i, hi, rfl, hno, hbw⟩ := hrel
    by_cases hlt : i < p.length
    · have hp : p[i]? = some p[i] := List.getElem?_eq_getElem hlt
      generalize p[i] = r at hp
      obtain ⟨g, c', e, k1, k2, _, _⟩ := H.out.cells hp
      injection e with e1 _ e3
      subst e1 e3
      replace k1 := (hbw.cell (World.block_lt_of_cell? _ _ k1)).trans k1
      replace k2 := (hbw.cell (World.block_lt_of_cell? _ _ k2)).trans k2
      have hiI : (i : Int) < (p.length : Int) := by omega
      have hf := find_snoc hp hno
      have hW1 := below_new (w := wr) (.cells #[.string ⟨r.k.toArray⟩, .int .i64 r.n] 42)
      have HBW := Lib.hid (hbw.trans (hW1.mono hbw.size))
      have HLT := Lib.hid hlt
      by_cases hk : r.k = k
      · have hg : getR p k = (r.n, true) := by
          rcases hf with hf | hf
          · exact absurd hk (hf r (List.mem_of_getElem? (by rw [List.getElem?_take_of_lt (Nat.lt_succ_self i)]; exact hp)))
          · exact hf.2
        have HG := Lib.hid hg
        clear hf hno hbw hW1 hp hlt hg
        subst hk
        go_wp2_with fail
        refine bodyPost_ret (v := .tuple #[.int .i64 r.n, .bool true]) (by simp [results, Tryz.results29, go_sem]) rfl ?_
        exact ⟨by rw [HG.out], HBW.out⟩
      · have HN := Lib.hid (hf.resolve_right (fun e => hk e.1))
        have hkb : (r.k == k) = false := by simpa using hk
        clear hf hno hbw hW1 hp hlt
        go_wp2_with fail
        go_roundw
        case rel => exact ⟨i + 1, HLT.out, by go_num, HN.out, HBW.out⟩
        case measure => have := HLT.out; simp [intOf]; omega
    · obtain rfl : i = p.length := by omega
      rw [List.take_length] at hno
      have hg := find_end hno
      have HG := Lib.hid hg
      have HBW := Lib.hid hbw
      clear hno hbw hg
      go_wp2_with fail
      refine bodyPost_ret (v := .tuple #[.int .i64 0, .bool false]) (by simp [results, Tryz.results29, go_sem]) rfl ?_
      exact ⟨by rw [HG.out], HBW.out⟩
set_option maxRecDepth 100000 in
set_option maxHeartbeats 4000000 in
theorem RRows_any {w : World} {v u : Value} {p q : List Row} (h : RowOf w v p) (h2 : RowOf w u q) (hl : p.length ≤ 1000) (hl2 : q.length ≤ 1000) :
    Calls Tryz.prog 23 #[v, u] w fun e w' => e = .returned (.bool (decide (p = q))) ∧ Below w.heap.size w w' := by
  obtain ⟨A, c, rfl, hc1, hc2, _⟩ := RowIs.form h
  obtain ⟨A2, c2, rfl, hd1, hd2, _⟩ := RowIs.form h2
  unfold maxLen at hc2 hd2
  have hlI : (p.length : Int) ≤ 1000 := by omega
  have hlI2 : (q.length : Int) ≤ 1000 := by omega
  have H := Lib.hid h
  have H2 := Lib.hid h2
  clear h h2
  by_cases hne : p.length = q.length
  · obtain ⟨m, hm⟩ : ∃ m, p.length = m := ⟨_, rfl⟩
    have hm2 : q.length = m := hne.symm.trans hm
    rw [hm] at H hc1 hlI hl ⊢
    rw [hm2] at H2 hd1 ⊢
    have HM := Lib.hid hm
    have HM2 := Lib.hid hm2
    clear hm hm2 hne hl2 hlI2
    go_enter Tryz.func23, Tryz.ntmps23
    go_wp2_with fail
    go_loopw [13] (fun iv wr => ∃ i : Nat, i ≤ m ∧ iv = .int .i64 i ∧ (∀ j < i, p[j]? = q[j]?) ∧ Below w.heap.size w wr) (fun iv _ => m - (intOf iv).toNat)
    case atStart => exact ⟨0, Nat.zero_le _, rfl, fun j hj => by omega, Below.refl _ _⟩
    case round =>
      obtain ⟨i, hi, rfl, hsame, hbw⟩ := hrel
      have HB := Lib.hid hbw
      have HBD := Lib.hid (below_drew hbw)
      by_cases hlt : i < m
      · obtain ⟨r, hp⟩ : ∃ r, p[i]? = some r := ⟨_, List.getElem?_eq_getElem (by rw [HM.out]; exact hlt)⟩
        obtain ⟨r2, hq⟩ : ∃ r, q[i]? = some r := ⟨_, List.getElem?_eq_getElem (by rw [HM2.out]; exact hlt)⟩
        obtain ⟨g, c', e, k1, k2, _, _⟩ := H.out.cells hp
        injection e with e1 e2 e3
        subst e1 e3
        clear e2
        obtain ⟨g2, c2', e, l1, l2, _, _⟩ := H2.out.cells hq
        injection e with e1 e2 e3
        subst e1 e3
        clear e2
        replace k1 := (hbw.cell (World.block_lt_of_cell? _ _ k1)).trans k1
        replace k2 := (hbw.cell (World.block_lt_of_cell? _ _ k2)).trans k2
        replace l1 := (hbw.cell (World.block_lt_of_cell? _ _ l1)).trans l1
        replace l2 := (hbw.cell (World.block_lt_of_cell? _ _ l2)).trans l2
        clear hbw
        have hiI : (i : Int) < (m : Int) := by omega
        have HLT := Lib.hid hlt
        by_cases hk : r = r2
        · have HN : Hid (∀ j < i + 1, p[j]? = q[j]?) := Lib.hid (fun j hj => by
            by_cases hji : j = i
            · subst hji; rw [hp, hq, hk]
            · exact hsame j (by omega))
          subst hk
          clear hsame hp hq hlt
          go_wp2_with fail
          refine wp_only ?_
          refine wp_region_held_drew (S := fun W => W.cell? ⟨g, i * 2, none⟩ = some (.string ⟨r.k.toArray⟩) ∧ W.cell? ⟨g, i * 2 + 1, none⟩ = some (.int .i64 r.n) ∧ W.cell? ⟨g2, i * 2, none⟩ = some (.string ⟨r.k.toArray⟩) ∧ W.cell? ⟨g2, i * 2 + 1, none⟩ = some (.int .i64 r.n)) (by kernel_rfl) ⟨k1, k2, l1, l2⟩ (fun hHeld => ?_)
          refine wpAnyH_take (i := 0) (oi := { dst := some 16, op := Op.move (Operand.tmp 0), type := 40, pos := "ref.go:149", after := #[], guard := none }) (v := ?vv1) rfl (by kernel_rfl) (by kernel_rfl) (by kernel_rfl) (fun _ _ _ h => h) ?hy1 (by assumption) ?rest1
          case hy1 => (refine Or.inl ⟨by rfl, ?_⟩; intro W hSw; (try dsimp only at hSw); go_simp; (try with_reducible rfl))
          try simp only [Act.put, List.setIfInBounds_toArray, List.set_cons_zero, List.set_cons_succ]
          refine wpAnyH_take (i := 1) (oi := { dst := some 17, op := Op.move (Operand.tmp 5), type := 3, pos := "ref.go:149", after := #[], guard := none }) (v := ?vv2) rfl (by kernel_rfl) (by kernel_rfl) (by kernel_rfl) (fun _ _ _ h => h) ?hy2 (by assumption) ?rest2
          case hy2 => (refine Or.inl ⟨by rfl, ?_⟩; intro W hSw; (try dsimp only at hSw); go_simp; (try with_reducible rfl))
          try simp only [Act.put, List.setIfInBounds_toArray, List.set_cons_zero, List.set_cons_succ]
          refine wpAnyH_take (i := 2) (oi := { dst := some 18, op := Op.indexAddr 40 (Operand.tmp 16) (Operand.tmp 17), type := 0, pos := "ref.go:149", after := #[{ on := 0, ground := Ground.data }, { on := 1, ground := Ground.data }], guard := none }) (v := ?vv3) rfl (by kernel_rfl) (by kernel_rfl) (by kernel_rfl) (fun _ _ _ h => h) ?hy3 (by assumption) ?rest3
          case hy3 => (refine Or.inl ⟨by rfl, ?_⟩; intro W hSw; (try dsimp only at hSw); go_simp; (try with_reducible rfl))
          try simp only [Act.put, List.setIfInBounds_toArray, List.set_cons_zero, List.set_cons_succ]
          refine wpAnyH_take (i := 3) (oi := { dst := some 19, op := Op.load 42 (Operand.tmp 18), type := 42, pos := "ref.go:149", after := #[{ on := 2, ground := Ground.data }], guard := none }) (v := ?vv4) rfl (by kernel_rfl) (by kernel_rfl) (by kernel_rfl) (fun _ _ _ h => h) ?hy4 (by assumption) ?rest4
          case hy4 => (refine Or.inl ⟨by rfl, ?_⟩; intro W hSw; (try dsimp only at hSw); go_simp; (try with_reducible rfl))
          try simp only [Act.put, List.setIfInBounds_toArray, List.set_cons_zero, List.set_cons_succ]
          refine wpAnyH_take (i := 4) (oi := { dst := some 20, op := Op.move (Operand.tmp 1), type := 40, pos := "ref.go:149", after := #[], guard := none }) (v := ?vv5) rfl (by kernel_rfl) (by kernel_rfl) (by kernel_rfl) (fun _ _ _ h => h) ?hy5 (by assumption) ?rest5
          case hy5 => (refine Or.inl ⟨by rfl, ?_⟩; intro W hSw; (try dsimp only at hSw); go_simp; (try with_reducible rfl))
          try simp only [Act.put, List.setIfInBounds_toArray, List.set_cons_zero, List.set_cons_succ]
          refine wpAnyH_take (i := 5) (oi := { dst := some 21, op := Op.move (Operand.tmp 5), type := 3, pos := "ref.go:149", after := #[], guard := none }) (v := ?vv6) rfl (by kernel_rfl) (by kernel_rfl) (by kernel_rfl) (fun _ _ _ h => h) ?hy6 (by assumption) ?rest6
          case hy6 => (refine Or.inl ⟨by rfl, ?_⟩; intro W hSw; (try dsimp only at hSw); go_simp; (try with_reducible rfl))
          try simp only [Act.put, List.setIfInBounds_toArray, List.set_cons_zero, List.set_cons_succ]
          refine wpAnyH_take (i := 6) (oi := { dst := some 22, op := Op.indexAddr 40 (Operand.tmp 20) (Operand.tmp 21), type := 0, pos := "ref.go:149", after := #[{ on := 4, ground := Ground.data }, { on := 5, ground := Ground.data }], guard := none }) (v := ?vv7) rfl (by kernel_rfl) (by kernel_rfl) (by kernel_rfl) (fun _ _ _ h => h) ?hy7 (by assumption) ?rest7
          case hy7 => (refine Or.inl ⟨by rfl, ?_⟩; intro W hSw; (try dsimp only at hSw); go_simp; (try with_reducible rfl))
          try simp only [Act.put, List.setIfInBounds_toArray, List.set_cons_zero, List.set_cons_succ]
          refine wpAnyH_take (i := 7) (oi := { dst := some 23, op := Op.load 42 (Operand.tmp 22), type := 42, pos := "ref.go:149", after := #[{ on := 6, ground := Ground.data }], guard := none }) (v := ?vv8) rfl (by kernel_rfl) (by kernel_rfl) (by kernel_rfl) (fun _ _ _ h => h) ?hy8 (by assumption) ?rest8
          case hy8 => (refine Or.inl ⟨by rfl, ?_⟩; intro W hSw; (try dsimp only at hSw); go_simp; (try with_reducible rfl))
          try simp only [Act.put, List.setIfInBounds_toArray, List.set_cons_zero, List.set_cons_succ]
          refine wpAnyH_take (i := 8) (oi := { dst := some 24, op := Op.binOp BinOp.neq 42 (Operand.tmp 19) (Operand.tmp 23) 42, type := 4, pos := "ref.go:149", after := #[{ on := 3, ground := Ground.data }, { on := 7, ground := Ground.data }], guard := none }) (v := (.bool false)) rfl (by kernel_rfl) (by kernel_rfl) (by kernel_rfl) (fun _ _ _ h => h) ?hy9 (by assumption) ?rest9
          case hy9 => ((refine Or.inl ⟨by rfl, ?_⟩; intro W hSw; (try dsimp only at hSw); go_simp; (try with_reducible rfl)))
          try simp only [Act.put, List.setIfInBounds_toArray, List.set_cons_zero, List.set_cons_succ]
          refine wpAnyH_done (by kernel_rfl) ?_ _
          dsimp only [onlyN]
          clear hHeld
          go_wp2_with fail
          go_roundw
          case rel => exact ⟨i + 1, HLT.out, by go_num, HN.out, HBD.out⟩
          case measure => have := HLT.out; simp [intOf]; omega
        · have hpq : decide (p = q) = false := by
            simp only [decide_eq_false_iff_not]
            rintro rfl
            exact hk (Option.some.inj (hp.symm.trans hq))
          have HPQ := Lib.hid hpq
          clear hsame hp hq hlt hpq
          go_wp2_with fail
          refine wp_only ?_
          refine wp_region_held_drew (S := fun W => W.cell? ⟨g, i * 2, none⟩ = some (.string ⟨r.k.toArray⟩) ∧ W.cell? ⟨g, i * 2 + 1, none⟩ = some (.int .i64 r.n) ∧ W.cell? ⟨g2, i * 2, none⟩ = some (.string ⟨r2.k.toArray⟩) ∧ W.cell? ⟨g2, i * 2 + 1, none⟩ = some (.int .i64 r2.n)) (by kernel_rfl) ⟨k1, k2, l1, l2⟩ (fun hHeld => ?_)
          refine wpAnyH_take (i := 0) (oi := { dst := some 16, op := Op.move (Operand.tmp 0), type := 40, pos := "ref.go:149", after := #[], guard := none }) (v := ?vv10) rfl (by kernel_rfl) (by kernel_rfl) (by kernel_rfl) (fun _ _ _ h => h) ?hy10 (by assumption) ?rest10
          case hy10 => (refine Or.inl ⟨by rfl, ?_⟩; intro W hSw; (try dsimp only at hSw); go_simp; (try with_reducible rfl))
          try simp only [Act.put, List.setIfInBounds_toArray, List.set_cons_zero, List.set_cons_succ]
          refine wpAnyH_take (i := 1) (oi := { dst := some 17, op := Op.move (Operand.tmp 5), type := 3, pos := "ref.go:149", after := #[], guard := none }) (v := ?vv11) rfl (by kernel_rfl) (by kernel_rfl) (by kernel_rfl) (fun _ _ _ h => h) ?hy11 (by assumption) ?rest11
          case hy11 => (refine Or.inl ⟨by rfl, ?_⟩; intro W hSw; (try dsimp only at hSw); go_simp; (try with_reducible rfl))
          try simp only [Act.put, List.setIfInBounds_toArray, List.set_cons_zero, List.set_cons_succ]
          refine wpAnyH_take (i := 2) (oi := { dst := some 18, op := Op.indexAddr 40 (Operand.tmp 16) (Operand.tmp 17), type := 0, pos := "ref.go:149", after := #[{ on := 0, ground := Ground.data }, { on := 1, ground := Ground.data }], guard := none }) (v := ?vv12) rfl (by kernel_rfl) (by kernel_rfl) (by kernel_rfl) (fun _ _ _ h => h) ?hy12 (by assumption) ?rest12
          case hy12 => (refine Or.inl ⟨by rfl, ?_⟩; intro W hSw; (try dsimp only at hSw); go_simp; (try with_reducible rfl))
          try simp only [Act.put, List.setIfInBounds_toArray, List.set_cons_zero, List.set_cons_succ]
          refine wpAnyH_take (i := 3) (oi := { dst := some 19, op := Op.load 42 (Operand.tmp 18), type := 42, pos := "ref.go:149", after := #[{ on := 2, ground := Ground.data }], guard := none }) (v := ?vv13) rfl (by kernel_rfl) (by kernel_rfl) (by kernel_rfl) (fun _ _ _ h => h) ?hy13 (by assumption) ?rest13
          case hy13 => (refine Or.inl ⟨by rfl, ?_⟩; intro W hSw; (try dsimp only at hSw); go_simp; (try with_reducible rfl))
          try simp only [Act.put, List.setIfInBounds_toArray, List.set_cons_zero, List.set_cons_succ]
          refine wpAnyH_take (i := 4) (oi := { dst := some 20, op := Op.move (Operand.tmp 1), type := 40, pos := "ref.go:149", after := #[], guard := none }) (v := ?vv14) rfl (by kernel_rfl) (by kernel_rfl) (by kernel_rfl) (fun _ _ _ h => h) ?hy14 (by assumption) ?rest14
          case hy14 => (refine Or.inl ⟨by rfl, ?_⟩; intro W hSw; (try dsimp only at hSw); go_simp; (try with_reducible rfl))
          try simp only [Act.put, List.setIfInBounds_toArray, List.set_cons_zero, List.set_cons_succ]
          refine wpAnyH_take (i := 5) (oi := { dst := some 21, op := Op.move (Operand.tmp 5), type := 3, pos := "ref.go:149", after := #[], guard := none }) (v := ?vv15) rfl (by kernel_rfl) (by kernel_rfl) (by kernel_rfl) (fun _ _ _ h => h) ?hy15 (by assumption) ?rest15
          case hy15 => (refine Or.inl ⟨by rfl, ?_⟩; intro W hSw; (try dsimp only at hSw); go_simp; (try with_reducible rfl))
          try simp only [Act.put, List.setIfInBounds_toArray, List.set_cons_zero, List.set_cons_succ]
          refine wpAnyH_take (i := 6) (oi := { dst := some 22, op := Op.indexAddr 40 (Operand.tmp 20) (Operand.tmp 21), type := 0, pos := "ref.go:149", after := #[{ on := 4, ground := Ground.data }, { on := 5, ground := Ground.data }], guard := none }) (v := ?vv16) rfl (by kernel_rfl) (by kernel_rfl) (by kernel_rfl) (fun _ _ _ h => h) ?hy16 (by assumption) ?rest16
          case hy16 => (refine Or.inl ⟨by rfl, ?_⟩; intro W hSw; (try dsimp only at hSw); go_simp; (try with_reducible rfl))
          try simp only [Act.put, List.setIfInBounds_toArray, List.set_cons_zero, List.set_cons_succ]
          refine wpAnyH_take (i := 7) (oi := { dst := some 23, op := Op.load 42 (Operand.tmp 22), type := 42, pos := "ref.go:149", after := #[{ on := 6, ground := Ground.data }], guard := none }) (v := ?vv17) rfl (by kernel_rfl) (by kernel_rfl) (by kernel_rfl) (fun _ _ _ h => h) ?hy17 (by assumption) ?rest17
          case hy17 => (refine Or.inl ⟨by rfl, ?_⟩; intro W hSw; (try dsimp only at hSw); go_simp; (try with_reducible rfl))
          try simp only [Act.put, List.setIfInBounds_toArray, List.set_cons_zero, List.set_cons_succ]
          refine wpAnyH_take (i := 8) (oi := { dst := some 24, op := Op.binOp BinOp.neq 42 (Operand.tmp 19) (Operand.tmp 23) 42, type := 4, pos := "ref.go:149", after := #[{ on := 3, ground := Ground.data }, { on := 7, ground := Ground.data }], guard := none }) (v := (.bool true)) rfl (by kernel_rfl) (by kernel_rfl) (by kernel_rfl) (fun _ _ _ h => h) ?hy18 (by assumption) ?rest18
          case hy18 => ((refine Or.inl ⟨by rfl, ?_⟩; intro W hSw; (try dsimp only at hSw); go_simp; exact row_ne hk))
          try simp only [Act.put, List.setIfInBounds_toArray, List.set_cons_zero, List.set_cons_succ]
          refine wpAnyH_done (by kernel_rfl) ?_ _
          dsimp only [onlyN]
          clear hHeld
          go_wp2_with fail
          go_ret
          exact ⟨by rw [HPQ.out]; rfl, HBD.out⟩
      · obtain rfl : i = m := by omega
        have hpq : decide (p = q) = true := by
          simp only [decide_eq_true_eq]
          apply List.ext_getElem?
          intro j
          by_cases hj : j < i
          · exact hsame j hj
          · rw [List.getElem?_eq_none (by rw [HM.out]; omega), List.getElem?_eq_none (by rw [HM2.out]; omega)]
        have HPQ := Lib.hid hpq
        clear hsame hpq hbw
        go_wp2_with fail
        go_ret
        exact ⟨by rw [HPQ.out]; rfl, HB.out⟩
  · have hneI : ¬ (p.length : Int) = (q.length : Int) := by omega
    have hpq : (decide (p = q)) = false := by simp; rintro rfl; exact hne rfl
    rw [hpq]
    go_enter Tryz.func23, Tryz.ntmps23
    go_wp2_with fail
    go_ret
    exact ⟨by simp, Below.refl _ _⟩
end Go.Proofs.YtkkembbeejlomaaGreatDoor

namespace Go.Proofs.YtkkembbeejlomaaGreatDoor
open Go.RowKit Go.Shelf Go.Sort Go.Lib

def stepW (k : K) (n : Int) (s : List Row × Bool) (r : Row) : List Row × Bool :=
  (s.1 ++ (if !s.2 && !decide (r.k < k) then [⟨k, n⟩] else []) ++ (if r.k = k then [] else [r]), s.2 || !decide (r.k < k))
def withS (k : K) (n : Int) (t : Bool) (p : List Row) : List Row :=
  (p.foldl (stepW k n) ([], !t)).1 ++ if (p.foldl (stepW k n) ([], !t)).2 then [] else [⟨k, n⟩]
theorem fold_snoc {α β : Type} {f : β → α → β} {a : β} {p : List α} {i : Nat} {r : α} (h : p[i]? = some r) : (p.take (i + 1)).foldl f a = f ((p.take i).foldl f a) r := by
  rw [List.take_add_one, h, List.foldl_append]
  rfl
theorem stepW_len (k : K) (n : Int) (s : List Row × Bool) (r : Row) : (stepW k n s r).1.length ≤ s.1.length + 2 := by
  unfold stepW
  simp only [List.length_append]
  split <;> split <;> simp <;> omega
theorem kept_cell {W W' : World} {v : Value} (hg : W.grownBy W' v.ownBlock) {b j : Nat} {u : Value} (hb : ∀ g, v.ownBlock = some g → g ≠ b) (h : W.cell? ⟨b, j, none⟩ = some u) : W'.cell? ⟨b, j, none⟩ = some u :=
  (World.cell?_of_block (a := ⟨b, j, none⟩) (hg.block b (World.block_lt_of_cell? _ _ h) (fun e => hb b e.symm rfl))).trans h
set_option maxRecDepth 100000 in
set_option maxHeartbeats 8000000 in
theorem With_any {w : World} {v : Value} {p : List Row} (h : RowOf w v p) (hl : p.length ≤ 1000) (k : K) (n : Int) (t : Bool) :
    Calls Tryz.prog 54 #[v, .agg #[strV k, .int .i64 n, .bool t]] w fun e w' => ∃ v', e = .returned v' ∧ RowsIs w' w.heap.size v' (withS k n t p) ∧ Below w.heap.size w w' := by
  obtain ⟨A, c, rfl, hc1, hc2, _⟩ := RowIs.form h
  unfold maxLen at hc2
  have hlI : (p.length : Int) ≤ 1000 := by omega
  have H := Lib.hid h
  have hX1 := below_new (w := w) (.cells #[.string ⟨k.toArray⟩, .int .i64 n, .bool t] 98)
  have hXa := alloc_at w (.cells #[.string ⟨k.toArray⟩, .int .i64 n, .bool t] 98)
  obtain ⟨w1, hw1⟩ : ∃ w1, w1 = w.alloc (.cells #[.string ⟨k.toArray⟩, .int .i64 n, .bool t] 98) := ⟨_, rfl⟩
  have hsz : w1.heap.size = w.heap.size + 1 := by rw [hw1, asz]
  have HX1 : Hid (Below w.heap.size w w1) := Lib.hid (by rw [hw1]; exact hX1)
  have HX : Hid (∀ W, Below w1.heap.size w1 W → W.cell? ⟨w.heap.size, 0, none⟩ = some (.string ⟨k.toArray⟩) ∧ W.cell? ⟨w.heap.size, 1, none⟩ = some (.int .i64 n)) := Lib.hid (fun W hW => by
    have h0 : w1.cell? ⟨w.heap.size, 0, none⟩ = some (.string ⟨k.toArray⟩) := by rw [hw1]; exact cell_of hXa 0
    have h1 : w1.cell? ⟨w.heap.size, 1, none⟩ = some (.int .i64 n) := by rw [hw1]; exact cell_of hXa 1
    exact ⟨(hW.cell (World.block_lt_of_cell? _ _ h0)).trans h0, (hW.cell (World.block_lt_of_cell? _ _ h1)).trans h1⟩)
  have HSZ := Lib.hid hsz
  have HFIN : Hid (∀ W v', Below w1.heap.size w1 W → RowsIs W w1.heap.size v' (withS k n t p) → RowsIs W w.heap.size v' (withS k n t p) ∧ Below w.heap.size w W) := Lib.hid (fun W v' hb hr => ⟨⟨hr.1, fun b e => by have := hr.2 b e; omega⟩, HX1.out.trans (hb.mono (by omega))⟩)
  clear h hX1 hXa hsz
  unfold strV
  go_enter Tryz.func54, Tryz.ntmps54
  go_wp2_with fail
  rw [← hw1]
  clear hw1
  go_loopw [5, 6, 14] (fun ov bv iv wr => ∃ i : Nat, i ≤ p.length ∧ iv = .int .i64 i ∧ bv = .bool ((p.take i).foldl (stepW k n) ([], !t)).2 ∧ RowsIs wr w1.heap.size ov ((p.take i).foldl (stepW k n) ([], !t)).1 ∧ ((p.take i).foldl (stepW k n) ([], !t)).1.length ≤ 2 * i ∧ Below w1.heap.size w1 wr) (fun _ _ iv _ => p.length - (intOf iv).toNat)
  case atStart => exact ⟨0, Nat.zero_le _, rfl, rfl, ⟨RowIs.nil _ _, fun b e => by cases e⟩, Nat.zero_le _, Below.refl _ _⟩
  case round =>
    obtain ⟨i, hi, rfl, rfl, hrw, hol, hbw⟩ := hrel
    by_cases hlt : i < p.length
    · obtain ⟨r, hp⟩ : ∃ r, p[i]? = some r := ⟨_, List.getElem?_eq_getElem hlt⟩
      obtain ⟨g, c', e, k1, k2, _, _⟩ := H.out.cells hp
      injection e with e1 e2 e3
      subst e1 e3
      clear e2
      have hbw0 := HX1.out.trans (hbw.mono HX1.out.size)
      replace k1 := (hbw0.cell (World.block_lt_of_cell? _ _ k1)).trans k1
      replace k2 := (hbw0.cell (World.block_lt_of_cell? _ _ k2)).trans k2
      have hiI : (i : Int) < (p.length : Int) := by omega
      have hT := fold_snoc (f := stepW k n) (a := (([], !t) : List Row × Bool)) hp
      obtain ⟨⟨o, inn⟩, hst⟩ : ∃ st, (p.take i).foldl (stepW k n) ([], !t) = st := ⟨_, rfl⟩
      rw [hst] at hT hrw hol ⊢
      simp only at hrw hol ⊢
      have hnl : ((p.take (i + 1)).foldl (stepW k n) ([], !t)).1.length ≤ 2 * (i + 1) := by
        rw [hT]
        have := stepW_len k n (o, inn) r
        simp only at this
        omega
      have HT := Lib.hid hT
      have HNL := Lib.hid hnl
      have HLT := Lib.hid hlt
      obtain ⟨Ao, co, rfl, _⟩ := hrw.1.form
      have hW1 := below_new (w := wr) (.cells #[.string ⟨r.k.toArray⟩, .int .i64 r.n] 42)
      have hat1 := alloc_at wr (.cells #[.string ⟨r.k.toArray⟩, .int .i64 r.n] 42)
      have hB1 := hbw.trans (hW1.mono hbw.size)
      have hR1 := hrw.below hW1
      have HB1 := Lib.hid hB1
      have HR1 := Lib.hid hR1
      have HNE : Hid (∀ g, (Value.slice Ao o.length co).ownBlock = some g → g ≠ wr.heap.size) := Lib.hid (fun g e => by have := RowIs.lt hrw.1 g e; omega)
      -- the literal of the row, behind
      have hW2 := below_new (w := wr.alloc (.cells #[.string ⟨r.k.toArray⟩, .int .i64 r.n] 42)) (.cells #[.string ⟨r.k.toArray⟩, .int .i64 r.n] 42)
      have hat2 := alloc_at (wr.alloc (.cells #[.string ⟨r.k.toArray⟩, .int .i64 r.n] 42)) (.cells #[.string ⟨r.k.toArray⟩, .int .i64 r.n] 42)
      rw [asz] at hat2
      have HR2 := Lib.hid (hR1.below hW2)
      have HB2 := Lib.hid (hB1.trans (hW2.mono hB1.size))
      have HS2 := Lib.hid (src_lit hat2)
      -- the literal of the new row, behind
      have hW3 := below_new (w := wr.alloc (.cells #[.string ⟨r.k.toArray⟩, .int .i64 r.n] 42)) (.cells #[.string ⟨k.toArray⟩, .int .i64 n] 42)
      have hat3 := alloc_at (wr.alloc (.cells #[.string ⟨r.k.toArray⟩, .int .i64 r.n] 42)) (.cells #[.string ⟨k.toArray⟩, .int .i64 n] 42)
      rw [asz] at hat3
      have HR3 := Lib.hid (hR1.below hW3)
      have HB3 := Lib.hid (hB1.trans (hW3.mono hB1.size))
      have HS3 := Lib.hid (src_lit hat3)
      have HC3 := Lib.hid (And.intro ((hW3.cell (p := ⟨wr.heap.size, 0, none⟩) (by rw [asz]; exact Nat.lt_succ_self _)).trans (cell_of hat1 0)) ((hW3.cell (p := ⟨wr.heap.size, 1, none⟩) (by rw [asz]; exact Nat.lt_succ_self _)).trans (cell_of hat1 1)))
      obtain ⟨x0, x1⟩ := HX.out _ hB1
      have hoI : (o.length : Int) ≤ 3000 := by omega
      have hol2 : o.length ≤ 3000 := by omega
      clear hT hnl hlt hrw hbw hbw0 hW1 hat1 hB1 hR1 hW2 hat2 hW3 hat3 hp hst hol
      have hgeq := bytesLess_eq r.k k
      cases inn with
      | true =>
        by_cases hk : r.k = k
        · have hkb : (r.k == k) = true := by simpa using hk
          have HST : Hid (stepW k n (o, true) r = (o, true)) := Lib.hid (by unfold stepW; simp [hk])
          clear hgeq hkb
          subst hk
          go_wp2_with fail
          go_roundw
          case rel => exact ⟨i + 1, HLT.out, by go_num, by rw [HT.out, HST.out], by rw [HT.out, HST.out]; exact HR1.out, HNL.out, HB1.out⟩
          case measure => have := HLT.out; simp [intOf]; omega
        · have hkb : (r.k == k) = false := by simpa using hk
          have HST : Hid (stepW k n (o, true) r = (o ++ [r], true)) := Lib.hid (by unfold stepW; simp [hk])
          clear hgeq
          go_wp2_with (at_builtin; refine wpList_append_row _ _ Tryz.underlying40 infoR rfl (by decide) (by decide) _ rfl _ _ 40 rfl o.length 1 (pgC o) [strV r.k, .int .i64 r.n] _ _ rfl rfl HR2.out.1 HS2.out ?_ ?_)
          all_goals first | omega | skip
          intro v' w' hrow hgrow hblk
          obtain ⟨h5, h6⟩ := push_rows (r := r) HR2.out HB2.out.size hrow hgrow (by rw [asz, asz]; exact hblk)
          have H5 := Lib.hid h5
          have H6 := Lib.hid (HB2.out.trans h6)
          obtain ⟨Av, cv, rfl, _⟩ := h5.1.form
          clear hrow hgrow hblk h5 h6
          go_wp2_with fail
          go_roundw
          case rel => exact ⟨i + 1, HLT.out, by go_num, by rw [HT.out, HST.out], by rw [HT.out, HST.out]; exact H5.out, HNL.out, H6.out⟩
          case measure => have := HLT.out; simp [intOf]; omega
      | false =>
        by_cases hl1 : r.k < k
        · have hk : ¬ r.k = k := fun e => by rw [e] at hl1; exact List.lt_irrefl _ hl1
          have hkb : (r.k == k) = false := by simpa using hk
          have hb1 : Op.bytesLess r.k k = true := by rw [hgeq]; simpa using hl1
          have HST : Hid (stepW k n (o, false) r = (o ++ [r], false)) := Lib.hid (by unfold stepW; simp [hk, hl1])
          clear hgeq
          go_wp2_with (at_builtin; refine wpList_append_row _ _ Tryz.underlying40 infoR rfl (by decide) (by decide) _ rfl _ _ 40 rfl o.length 1 (pgC o) [strV r.k, .int .i64 r.n] _ _ rfl rfl HR2.out.1 HS2.out ?_ ?_)
          all_goals first | omega | skip
          intro v' w' hrow hgrow hblk
          obtain ⟨h5, h6⟩ := push_rows (r := r) HR2.out HB2.out.size hrow hgrow (by rw [asz, asz]; exact hblk)
          have H5 := Lib.hid h5
          have H6 := Lib.hid (HB2.out.trans h6)
          obtain ⟨Av, cv, rfl, _⟩ := h5.1.form
          clear hrow hgrow hblk h5 h6
          go_wp2_with fail
          go_roundw
          case rel => exact ⟨i + 1, HLT.out, by go_num, by rw [HT.out, HST.out], by rw [HT.out, HST.out]; exact H5.out, HNL.out, H6.out⟩
          case measure => have := HLT.out; simp [intOf]; omega
        · have hb1 : Op.bytesLess r.k k = false := by rw [hgeq]; simpa using hl1
          clear hgeq
          go_wp2_with (at_builtin; refine wpList_append_row _ _ Tryz.underlying40 infoR rfl (by decide) (by decide) _ rfl _ _ 40 rfl o.length 1 (pgC o) [strV k, .int .i64 n] _ _ rfl rfl HR3.out.1 HS3.out ?_ ?_)
          all_goals first | omega | skip
          intro v' w' hrow hgrow hblk
          obtain ⟨h5, h6⟩ := push_rows (r := ⟨k, n⟩) HR3.out HB3.out.size hrow hgrow (by rw [asz, asz]; exact hblk)
          have y0 := kept_cell hgrow HNE.out HC3.out.1
          have y1 := kept_cell hgrow HNE.out HC3.out.2
          have hB5 := HB3.out.trans h6
          obtain ⟨x0, x1⟩ := HX.out _ hB5
          have H5 := Lib.hid h5
          have HB5 := Lib.hid hB5
          have hW7 := below_new (w := w') (.cells #[.string ⟨r.k.toArray⟩, .int .i64 r.n] 42)
          have hat7 := alloc_at w' (.cells #[.string ⟨r.k.toArray⟩, .int .i64 r.n] 42)
          have HR7 := Lib.hid (h5.below hW7)
          have HB7 := Lib.hid (hB5.trans (hW7.mono hB5.size))
          have HS7 := Lib.hid (src_lit hat7)
          obtain ⟨Av, cv, rfl, _⟩ := h5.1.form
          clear hrow hgrow hblk h5 h6 hB5 hW7 hat7
          have hol3 : (o ++ [(⟨k, n⟩ : Row)]).length = o.length + 1 := by simp
          by_cases hk : r.k = k
          · have hkb : (r.k == k) = true := by simpa using hk
            have HST : Hid (stepW k n (o, false) r = (o ++ [⟨k, n⟩], true)) := Lib.hid (by unfold stepW; simp [hk])
            clear hkb
            subst hk
            go_wp2_with fail
            go_roundw
            case rel => exact ⟨i + 1, HLT.out, by go_num, by rw [HT.out, HST.out], by rw [HT.out, HST.out]; exact H5.out, HNL.out, HB5.out⟩
            case measure => have := HLT.out; simp [intOf]; omega
          · have hkb : (r.k == k) = false := by simpa using hk
            have HST : Hid (stepW k n (o, false) r = (o ++ [⟨k, n⟩] ++ [r], true)) := Lib.hid (by unfold stepW; simp [hk, hl1])
            go_wp2_with (at_builtin; refine wpList_append_row _ _ Tryz.underlying40 infoR rfl (by decide) (by decide) _ rfl _ _ 40 rfl (o ++ [(⟨k, n⟩ : Row)]).length 1 (pgC (o ++ [(⟨k, n⟩ : Row)])) [strV r.k, .int .i64 r.n] _ _ rfl rfl HR7.out.1 HS7.out ?_ ?_)
            all_goals first | omega | skip
            intro v7 w7 hrow hgrow hblk
            obtain ⟨h5, h6⟩ := push_rows (r := r) (v' := v7) HR7.out HB7.out.size (by rw [hol3]; exact hrow) (by rw [hol3]; exact hgrow) (by rw [asz, hol3]; exact hblk)
            have H8 := Lib.hid h5
            have H9 := Lib.hid (HB7.out.trans h6)
            obtain ⟨Aw, cw, rfl, _⟩ := h5.1.form
            clear hrow hgrow hblk h5 h6
            go_wp2_with fail
            go_roundw
            case rel => exact ⟨i + 1, HLT.out, by go_num, by rw [HT.out, HST.out], by rw [HT.out, HST.out]; exact H8.out, HNL.out, H9.out⟩
            case measure => have := HLT.out; simp [intOf]; omega
    · obtain rfl : i = p.length := by omega
      rw [List.take_length] at hrw hol ⊢
      obtain ⟨⟨o, inn⟩, hst⟩ : ∃ st, p.foldl (stepW k n) ([], !t) = st := ⟨_, rfl⟩
      rw [hst] at hrw hol ⊢
      simp only at hrw hol ⊢
      have HFN : Hid (withS k n t p = o ++ if inn then [] else [⟨k, n⟩]) := Lib.hid (by unfold withS; rw [hst])
      obtain ⟨Ao, co, rfl, _⟩ := hrw.1.form
      obtain ⟨x0, x1⟩ := HX.out _ hbw
      have hoI : (o.length : Int) ≤ 3000 := by omega
      have hol2 : o.length ≤ 3000 := by omega
      cases inn with
      | true =>
        have HF := Lib.hid (HFIN.out _ _ hbw (by rw [HFN.out]; simpa using hrw))
        clear hrw hbw hst hol
        go_wp2_with fail
        go_ret
        exact ⟨_, rfl, HF.out⟩
      | false =>
        have hW3 := below_new (w := wr) (.cells #[.string ⟨k.toArray⟩, .int .i64 n] 42)
        have hat3 := alloc_at wr (.cells #[.string ⟨k.toArray⟩, .int .i64 n] 42)
        have HR3 := Lib.hid (hrw.below hW3)
        have HB3 := Lib.hid (hbw.trans (hW3.mono hbw.size))
        have HS3 := Lib.hid (src_lit hat3)
        clear hrw hbw hst hol hW3 hat3
        go_wp2_with (at_builtin; refine wpList_append_row _ _ Tryz.underlying40 infoR rfl (by decide) (by decide) _ rfl _ _ 40 rfl o.length 1 (pgC o) [strV k, .int .i64 n] _ _ rfl rfl HR3.out.1 HS3.out ?_ ?_)
        all_goals first | omega | skip
        intro v' w' hrow hgrow hblk
        obtain ⟨h5, h6⟩ := push_rows (r := ⟨k, n⟩) HR3.out HB3.out.size hrow hgrow (by rw [asz]; exact hblk)
        have HF := Lib.hid (HFIN.out _ _ (HB3.out.trans h6) (by rw [HFN.out]; exact h5))
        obtain ⟨Av, cv, rfl, _⟩ := h5.1.form
        clear hrow hgrow hblk h5 h6
        go_wp2_with fail
        go_ret
        exact ⟨_, rfl, HF.out⟩
end Go.Proofs.YtkkembbeejlomaaGreatDoor

namespace Go.Proofs.YtkkembbeejlomaaGreatDoor
open Go.RowKit Go.Shelf Go.Sort Go.Lib

/-- With, row by row. -/
def withF (k : K) (n : Int) : List Row → Bool → List Row
  | [], inn => if inn then [] else [⟨k, n⟩]
  | r :: l, inn => (if !inn && !decide (r.k < k) then [⟨k, n⟩] else []) ++ ((if r.k = k then [] else [r]) ++ withF k n l (inn || !decide (r.k < k)))
theorem with_fold (k : K) (n : Int) : ∀ (l : List Row) (o : List Row) (inn : Bool), (l.foldl (stepW k n) (o, inn)).1 ++ (if (l.foldl (stepW k n) (o, inn)).2 then [] else [⟨k, n⟩]) = o ++ withF k n l inn
  | [], o, inn => rfl
  | r :: l, o, inn => by
    rw [List.foldl_cons]
    have h := with_fold k n l (stepW k n (o, inn) r).1 (stepW k n (o, inn) r).2
    rw [h]
    unfold stepW
    simp only [withF, List.append_assoc]
theorem withS_eq (k : K) (n : Int) (t : Bool) (p : List Row) : withS k n t p = withF k n p (!t) := by
  have h := with_fold k n p [] (!t)
  rw [List.nil_append] at h
  exact h
theorem withF_mem (k : K) (n : Int) : ∀ (l : List Row) (inn : Bool) (r : Row), r ∈ withF k n l inn ↔ (inn = false ∧ r = ⟨k, n⟩) ∨ (r ∈ l ∧ r.k ≠ k)
  | [], inn, r => by
    unfold withF
    cases inn <;> simp
  | x :: l, inn, r => by
    have ih := withF_mem k n l
    unfold withF
    have hne : x.k < k → x.k ≠ k := fun hx e => by rw [e] at hx; exact List.lt_irrefl _ hx
    by_cases hx : x.k < k
    · have hk := hne hx
      cases inn <;> simp [hx, hk, ih] <;> grind
    · by_cases hk : x.k = k
      · cases inn <;> simp [hx, hk, ih] <;> grind
      · cases inn <;> simp [hx, hk, ih] <;> grind
theorem withF_filter (k : K) : ∀ l : List Row, withF k 0 l true = l.filter (fun r => !decide (r.k = k))
  | [] => rfl
  | x :: l => by
    have ih := withF_filter k l
    unfold withF
    simp only [Bool.not_true, Bool.false_and, Bool.true_or, ih, List.filter_cons]
    by_cases hk : x.k = k <;> simp [hk]
theorem withF_rise (k : K) (n : Int) : ∀ (l : List Row) (inn : Bool), Rise l → (inn = true → ∀ r ∈ l, ¬ r.k < k) → Rise (withF k n l inn)
  | [], inn, _, _ => by
    unfold withF
    cases inn
    · exact List.pairwise_singleton _ _
    · exact List.Pairwise.nil
  | x :: l, inn, hl, hin => by
    obtain ⟨hx0, hl0⟩ := List.pairwise_cons.1 hl
    unfold withF
    by_cases hx : x.k < k
    · have hne : x.k ≠ k := fun e => by rw [e] at hx; exact List.lt_irrefl _ hx
      have hif : inn = false := by
        cases inn with
        | false => rfl
        | true => exact absurd hx (hin rfl x (List.mem_cons_self ..))
      subst hif
      simp only [hx, decide_true, Bool.not_true, Bool.and_false, Bool.or_false, hne, if_false]
      have h := withF_rise k n l false hl0 (fun e => by cases e)
      show Rise ([] ++ ([x] ++ withF k n l false))
      refine List.pairwise_cons.2 ⟨fun y hy => ?_, h⟩
      rcases (withF_mem k n l false y).1 hy with ⟨_, rfl⟩ | ⟨hy, _⟩
      · exact hx
      · exact hx0 y hy
    · have hall : ∀ r ∈ l, ¬ r.k < k := fun r hr e => hx (k_trans (hx0 r hr) e)
      have h := withF_rise k n l true hl0 (fun _ => hall)
      have hgt : ∀ r ∈ withF k n l true, r ∈ l ∧ r.k ≠ k := fun r hr => by
        rcases (withF_mem k n l true r).1 hr with ⟨e, _⟩ | h
        · cases e
        · exact h
      simp only [hx, decide_false, Bool.not_false, Bool.and_true, Bool.or_true]
      have h2 : Rise ((if x.k = k then [] else [x]) ++ withF k n l true) := by
        split
        · exact h
        · exact List.pairwise_cons.2 ⟨fun y hy => hx0 y (hgt y hy).1, h⟩
      cases inn with
      | true => exact h2
      | false =>
        show Rise (⟨k, n⟩ :: ((if x.k = k then [] else [x]) ++ withF k n l true))
        refine List.pairwise_cons.2 ⟨fun y hy => ?_, h2⟩
        show k < y.k
        have hy2 : ¬ y.k < k ∧ y.k ≠ k := by
          rcases List.mem_append.1 hy with hy | hy
          · split at hy
            · cases hy
            · rename_i hne
              obtain rfl := List.mem_singleton.1 hy
              exact ⟨hx, hne⟩
          · exact ⟨hall y (hgt y hy).1, (hgt y hy).2⟩
        rcases k_tri k y.k with h | h | h
        · exact h
        · exact absurd h.symm hy2.2
        · exact absurd h hy2.1
theorem getR_iff {p : List Row} {k : K} : (getR p k).2 = true ↔ ∃ r ∈ p, r.k = k := by
  unfold getR
  cases h : p.find? (fun r => decide (r.k = k)) with
  | none =>
    have := List.find?_eq_none.1 h
    simp only [decide_eq_true_eq] at this
    simp only [Bool.false_eq_true, false_iff, not_exists, not_and]
    exact fun r hr => this r hr
  | some r =>
    have h1 := List.mem_of_find?_eq_some h
    have h2 := List.find?_some h
    simp only [decide_eq_true_eq] at h2
    simp only [true_iff]
    exact ⟨r, h1, h2⟩
/-- What put does to the rows is what the list does. -/
theorem put_with {most : Nat} {P : List (List Row)} (hF : Fine most P) {k : K} {n : Int} (hk : k.length ≤ 16) (hl : P.flatten.length < 256) : (putP most P ⟨k, n⟩).2 = 0 ∧ (putP most P ⟨k, n⟩).1.flatten = withS k n true P.flatten ∧ (putP most P ⟨k, n⟩).1.flatten.length ≤ P.flatten.length + 1 := by
  obtain ⟨h1, h2, h3⟩ := put_ok hF (x := ⟨k, n⟩) hk (.inr hl)
  refine ⟨h1, ?_, by rw [h3]; split <;> omega⟩
  rw [withS_eq]
  refine rise_ext (fine_put hF _).rise (withF_rise k n _ _ hF.rise (fun e => by cases e)) (fun r => ?_)
  rw [h2, withF_mem]
  simp
theorem put_over {most : Nat} {P : List (List Row)} {k : K} {n : Int} (hk : 16 < k.length) : putP most P ⟨k, n⟩ = (P, 2) := by
  unfold putP
  rw [if_pos hk]
/-- What del does to the rows is what the list does. -/
theorem del_with {most : Nat} {P : List (List Row)} (hF : Fine most P) {k : K} : Fine most (delP most P k).1 ∧ (delP most P k).2 = (getR P.flatten k).2 ∧ (delP most P k).1.flatten = withS k 0 false P.flatten ∧ (delP most P k).1.flatten.length ≤ P.flatten.length := by
  obtain ⟨h1, h2, h3⟩ := del_ok hF (k := k)
  have he : (delP most P k).1.flatten = withS k 0 false P.flatten := by
    rw [withS_eq]
    have hr : Rise (withF k 0 P.flatten (!false)) := by
      show Rise (withF k 0 P.flatten true)
      rw [withF_filter]
      exact List.Pairwise.sublist List.filter_sublist hF.rise
    refine rise_ext h1.rise hr (fun r => ?_)
    rw [h3, withF_mem]
    simp
  refine ⟨h1, ?_, he, ?_⟩
  · rw [h2]
    have ha := find_iff hF (k := k)
    have hb := getR_iff (p := P.flatten) (k := k)
    cases hc : (findP P k).2.2 <;> cases hd : (getR P.flatten k).2
    · rfl
    · exact absurd (ha.2 (hb.1 hd)) (by rw [hc]; simp)
    · exact absurd (hb.2 (ha.1 hc)) (by rw [hd]; simp)
    · rfl
  · rw [he, withS_eq]
    show (withF k 0 P.flatten true).length ≤ _
    rw [withF_filter]
    exact List.length_filter_le ..
end Go.Proofs.YtkkembbeejlomaaGreatDoor
