/- The document's own rows. -/
import Derived.Test.YtkkfgdibficifaaDoorZPgbD
import Derived.Test.YtkkfgdibficifaaDoorZTak
set_option linter.unusedSimpArgs false
set_option linter.unusedVariables false
set_option linter.unnecessarySimpa false
namespace Go.Proofs.YtkkfgdibficifaaDoor
open Go.RowKit Go.Shelf Go.Sort Go.Lib

def RowOf (w : World) (v : Value) (p : List Row) : Prop := RowIs w 2 v p.length (pgC p)
theorem RowOf.cells {w : World} {v : Value} {p : List Row} (h : RowOf w v p) {i : Nat} {r : Row} (hr : p[i]? = some r) : ∃ g c, v = .slice (some ⟨g, 0, none⟩) p.length c ∧ w.cell? ⟨g, i * 2, none⟩ = some (.string ⟨r.k.toArray⟩) ∧ w.cell? ⟨g, i * 2 + 1, none⟩ = some (.int .i64 r.n) ∧ p.length ≤ c ∧ c ≤ maxLen := by
  obtain ⟨A, c, rfl, h1, h2, _, _, h3⟩ := RowIs.form h
  obtain ⟨q1, q2⟩ := pgC_at hr
  obtain ⟨g, rfl, k1⟩ := h3 _ _ q1
  obtain ⟨_, e, k2⟩ := h3 _ _ q2
  injection e with e
  injection e with e
  subst e
  exact ⟨g, c, rfl, k1, k2, h1, h2⟩
def getR (p : List Row) (k : K) : Int × Bool := match p.find? (fun r => decide (r.k = k)) with
  | some r => (r.n, true)
  | none => (0, false)
theorem find_snoc {p : List Row} {i : Nat} {r : Row} {k : K} (h : p[i]? = some r) (hn : ∀ x ∈ p.take i, x.k ≠ k) : (∀ x ∈ p.take (i + 1), x.k ≠ k) ∨ (r.k = k ∧ getR p k = (r.n, true)) := by
  by_cases hk : r.k = k
  · right
    refine ⟨hk, ?_⟩
    have hi := (List.getElem?_eq_some_iff.1 h)
    obtain ⟨hil, hv⟩ := hi
    have : p.find? (fun r => decide (r.k = k)) = some r := by
      conv => lhs; rw [← List.take_append_drop i p, List.drop_eq_getElem_cons hil, hv]
      rw [List.find?_append, List.find?_eq_none.2 (fun x hx => by simpa using hn x hx)]
      simp [hk]
    unfold getR
    rw [this]
  · left
    intro x hx
    rw [List.take_add_one, h] at hx
    rcases List.mem_append.1 hx with hx | hx
    · exact hn x hx
    · obtain rfl := List.mem_singleton.1 hx
      exact hk
theorem find_end {p : List Row} {k : K} (hn : ∀ x ∈ p, x.k ≠ k) : getR p k = (0, false) := by
  unfold getR
  rw [List.find?_eq_none.2 (fun x hx => by simpa using hn x hx)]
theorem key_beq {a b : K} : ((⟨a.toArray⟩ : ByteArray) = ⟨b.toArray⟩) ↔ a = b := by
  constructor
  · intro e
    injection e with e
    simpa using e
  · rintro rfl; rfl
theorem row_ne {r r2 : Row} (h : ¬ r = r2) : r.k = r2.k → ¬ r.n = r2.n := fun e1 e2 => h (by
  cases r; cases r2
  simp only at e1 e2
  rw [e1, e2])
set_option maxRecDepth 100000 in
set_option maxHeartbeats 4000000 in
theorem RGet_any {w : World} {v : Value} {p : List Row} (h : RowOf w v p) (hl : p.length ≤ 1000) (k : K) :
    Calls Tryd.prog 11 #[v, strV k] w fun e w' => e = .returned (.tuple #[.int .i64 (getR p k).1, .bool (getR p k).2]) ∧ Below w.heap.size w w' := by
  obtain ⟨A, c, rfl, hc1, hc2, _⟩ := RowIs.form h
  unfold maxLen at hc2
  have hlI : (p.length : Int) ≤ 1000 := by omega
  have H := Lib.hid h
  clear h
  unfold strV
  go_enter Tryd.func11, Tryd.ntmps11
  go_wp2_with fail
  go_loopw [10] (fun iv wr => ∃ i : Nat, i ≤ p.length ∧ iv = .int .i64 i ∧ (∀ x ∈ p.take i, x.k ≠ k) ∧ Below w.heap.size w wr) (fun iv _ => p.length - (intOf iv).toNat)
  case atStart => exact ⟨0, Nat.zero_le _, rfl, fun x hx => by simp at hx, Below.refl _ _⟩
  case round =>
    obtain ⟨i, hi, rfl, hno, hbw⟩ := hrel
    by_cases hlt : i < p.length
    · have hp : p[i]? = some p[i] := List.getElem?_eq_getElem hlt
      generalize p[i] = r at hp
      obtain ⟨g, c', e, k1, k2, _, _⟩ := H.out.cells hp
      injection e with e1 _ e3
      subst e1 e3
      replace k1 := (hbw.cell (World.block_lt_of_cell? _ _ k1)).trans k1
      replace k2 := (hbw.cell (World.block_lt_of_cell? _ _ k2)).trans k2
      have hiI : (i : Int) < (p.length : Int) := by omega
      have hf := find_snoc hp hno
      have hW1 := below_new (w := wr) (.cells #[.string ⟨r.k.toArray⟩, .int .i64 r.n] 52)
      have HBW := Lib.hid (hbw.trans (hW1.mono hbw.size))
      have HLT := Lib.hid hlt
      by_cases hk : r.k = k
      · have hg : getR p k = (r.n, true) := by
          rcases hf with hf | hf
          · exact absurd hk (hf r (List.mem_of_getElem? (by rw [List.getElem?_take_of_lt (Nat.lt_succ_self i)]; exact hp)))
          · exact hf.2
        have HG := Lib.hid hg
        clear hf hno hbw hW1 hp hlt hg
        subst hk
        go_wp2_with fail
        refine bodyPost_ret (v := .tuple #[.int .i64 r.n, .bool true]) (by simp [results, Tryd.results11, go_sem]) rfl ?_
        exact ⟨by rw [HG.out], HBW.out⟩
      · have HN := Lib.hid (hf.resolve_right (fun e => hk e.1))
        have hkb : (r.k == k) = false := by simpa using hk
        clear hf hno hbw hW1 hp hlt
        go_wp2_with fail
        go_roundw
        case rel => exact ⟨i + 1, HLT.out, by go_num, HN.out, HBW.out⟩
        case measure => have := HLT.out; simp [intOf]; omega
    · obtain rfl : i = p.length := by omega
      rw [List.take_length] at hno
      have hg := find_end hno
      have HG := Lib.hid hg
      have HBW := Lib.hid hbw
      clear hno hbw hg
      go_wp2_with fail
      refine bodyPost_ret (v := .tuple #[.int .i64 0, .bool false]) (by simp [results, Tryd.results11, go_sem]) rfl ?_
      exact ⟨by rw [HG.out], HBW.out⟩
set_option maxRecDepth 100000 in
set_option maxHeartbeats 4000000 in
theorem RRows_any {w : World} {v u : Value} {p q : List Row} (h : RowOf w v p) (h2 : RowOf w u q) (hl : p.length ≤ 1000) (hl2 : q.length ≤ 1000) :
    Calls Tryd.prog 13 #[v, u] w fun e w' => e = .returned (.bool (decide (p = q))) ∧ Below w.heap.size w w' := by
  obtain ⟨A, c, rfl, hc1, hc2, _⟩ := RowIs.form h
  obtain ⟨A2, c2, rfl, hd1, hd2, _⟩ := RowIs.form h2
  unfold maxLen at hc2 hd2
  have hlI : (p.length : Int) ≤ 1000 := by omega
  have hlI2 : (q.length : Int) ≤ 1000 := by omega
  have H := Lib.hid h
  have H2 := Lib.hid h2
  clear h h2
  by_cases hne : p.length = q.length
  · obtain ⟨m, hm⟩ : ∃ m, p.length = m := ⟨_, rfl⟩
    have hm2 : q.length = m := hne.symm.trans hm
    rw [hm] at H hc1 hlI hl ⊢
    rw [hm2] at H2 hd1 ⊢
    have HM := Lib.hid hm
    have HM2 := Lib.hid hm2
    clear hm hm2 hne hl2 hlI2
    go_enter Tryd.func13, Tryd.ntmps13
    go_wp2_with fail
    go_loopw [13] (fun iv wr => ∃ i : Nat, i ≤ m ∧ iv = .int .i64 i ∧ (∀ j < i, p[j]? = q[j]?) ∧ Below w.heap.size w wr) (fun iv _ => m - (intOf iv).toNat)
    case atStart => exact ⟨0, Nat.zero_le _, rfl, fun j hj => by omega, Below.refl _ _⟩
    case round =>
      obtain ⟨i, hi, rfl, hsame, hbw⟩ := hrel
      have HB := Lib.hid hbw
      have HBD := Lib.hid (below_drew hbw)
      by_cases hlt : i < m
      · obtain ⟨r, hp⟩ : ∃ r, p[i]? = some r := ⟨_, List.getElem?_eq_getElem (by rw [HM.out]; exact hlt)⟩
        obtain ⟨r2, hq⟩ : ∃ r, q[i]? = some r := ⟨_, List.getElem?_eq_getElem (by rw [HM2.out]; exact hlt)⟩
        obtain ⟨g, c', e, k1, k2, _, _⟩ := H.out.cells hp
        injection e with e1 e2 e3
        subst e1 e3
        clear e2
        obtain ⟨g2, c2', e, l1, l2, _, _⟩ := H2.out.cells hq
        injection e with e1 e2 e3
        subst e1 e3
        clear e2
        replace k1 := (hbw.cell (World.block_lt_of_cell? _ _ k1)).trans k1
        replace k2 := (hbw.cell (World.block_lt_of_cell? _ _ k2)).trans k2
        replace l1 := (hbw.cell (World.block_lt_of_cell? _ _ l1)).trans l1
        replace l2 := (hbw.cell (World.block_lt_of_cell? _ _ l2)).trans l2
        clear hbw
        have hiI : (i : Int) < (m : Int) := by omega
        have HLT := Lib.hid hlt
        by_cases hk : r = r2
        · have HN : Hid (∀ j < i + 1, p[j]? = q[j]?) := Lib.hid (fun j hj => by
            by_cases hji : j = i
            · subst hji; rw [hp, hq, hk]
            · exact hsame j (by omega))
          subst hk
          clear hsame hp hq hlt
          go_wp2_with fail
          refine wp_only ?_
          refine wp_region_held_drew (S := fun W => W.cell? ⟨g, i * 2, none⟩ = some (.string ⟨r.k.toArray⟩) ∧ W.cell? ⟨g, i * 2 + 1, none⟩ = some (.int .i64 r.n) ∧ W.cell? ⟨g2, i * 2, none⟩ = some (.string ⟨r.k.toArray⟩) ∧ W.cell? ⟨g2, i * 2 + 1, none⟩ = some (.int .i64 r.n)) (by kernel_rfl) ⟨k1, k2, l1, l2⟩ (fun hHeld => ?_)
          refine wpAnyH_take (i := 0) (oi := { dst := some 16, op := Op.move (Operand.tmp 0), type := 28, pos := "ref.go:149", after := #[], guard := none }) (v := ?vv1) rfl (by kernel_rfl) (by kernel_rfl) (by kernel_rfl) (fun _ _ _ h => h) ?hy1 (by assumption) ?rest1
          case hy1 => (refine Or.inl ⟨by rfl, ?_⟩; intro W hSw; (try dsimp only at hSw); go_simp; (try with_reducible rfl))
          try simp only [Act.put, List.setIfInBounds_toArray, List.set_cons_zero, List.set_cons_succ]
          refine wpAnyH_take (i := 1) (oi := { dst := some 17, op := Op.move (Operand.tmp 5), type := 3, pos := "ref.go:149", after := #[], guard := none }) (v := ?vv2) rfl (by kernel_rfl) (by kernel_rfl) (by kernel_rfl) (fun _ _ _ h => h) ?hy2 (by assumption) ?rest2
          case hy2 => (refine Or.inl ⟨by rfl, ?_⟩; intro W hSw; (try dsimp only at hSw); go_simp; (try with_reducible rfl))
          try simp only [Act.put, List.setIfInBounds_toArray, List.set_cons_zero, List.set_cons_succ]
          refine wpAnyH_take (i := 2) (oi := { dst := some 18, op := Op.indexAddr 28 (Operand.tmp 16) (Operand.tmp 17), type := 0, pos := "ref.go:149", after := #[{ on := 0, ground := Ground.data }, { on := 1, ground := Ground.data }], guard := none }) (v := ?vv3) rfl (by kernel_rfl) (by kernel_rfl) (by kernel_rfl) (fun _ _ _ h => h) ?hy3 (by assumption) ?rest3
          case hy3 => (refine Or.inl ⟨by rfl, ?_⟩; intro W hSw; (try dsimp only at hSw); go_simp; (try with_reducible rfl))
          try simp only [Act.put, List.setIfInBounds_toArray, List.set_cons_zero, List.set_cons_succ]
          refine wpAnyH_take (i := 3) (oi := { dst := some 19, op := Op.load 52 (Operand.tmp 18), type := 52, pos := "ref.go:149", after := #[{ on := 2, ground := Ground.data }], guard := none }) (v := ?vv4) rfl (by kernel_rfl) (by kernel_rfl) (by kernel_rfl) (fun _ _ _ h => h) ?hy4 (by assumption) ?rest4
          case hy4 => (refine Or.inl ⟨by rfl, ?_⟩; intro W hSw; (try dsimp only at hSw); go_simp; (try with_reducible rfl))
          try simp only [Act.put, List.setIfInBounds_toArray, List.set_cons_zero, List.set_cons_succ]
          refine wpAnyH_take (i := 4) (oi := { dst := some 20, op := Op.move (Operand.tmp 1), type := 28, pos := "ref.go:149", after := #[], guard := none }) (v := ?vv5) rfl (by kernel_rfl) (by kernel_rfl) (by kernel_rfl) (fun _ _ _ h => h) ?hy5 (by assumption) ?rest5
          case hy5 => (refine Or.inl ⟨by rfl, ?_⟩; intro W hSw; (try dsimp only at hSw); go_simp; (try with_reducible rfl))
          try simp only [Act.put, List.setIfInBounds_toArray, List.set_cons_zero, List.set_cons_succ]
          refine wpAnyH_take (i := 5) (oi := { dst := some 21, op := Op.move (Operand.tmp 5), type := 3, pos := "ref.go:149", after := #[], guard := none }) (v := ?vv6) rfl (by kernel_rfl) (by kernel_rfl) (by kernel_rfl) (fun _ _ _ h => h) ?hy6 (by assumption) ?rest6
          case hy6 => (refine Or.inl ⟨by rfl, ?_⟩; intro W hSw; (try dsimp only at hSw); go_simp; (try with_reducible rfl))
          try simp only [Act.put, List.setIfInBounds_toArray, List.set_cons_zero, List.set_cons_succ]
          refine wpAnyH_take (i := 6) (oi := { dst := some 22, op := Op.indexAddr 28 (Operand.tmp 20) (Operand.tmp 21), type := 0, pos := "ref.go:149", after := #[{ on := 4, ground := Ground.data }, { on := 5, ground := Ground.data }], guard := none }) (v := ?vv7) rfl (by kernel_rfl) (by kernel_rfl) (by kernel_rfl) (fun _ _ _ h => h) ?hy7 (by assumption) ?rest7
          case hy7 => (refine Or.inl ⟨by rfl, ?_⟩; intro W hSw; (try dsimp only at hSw); go_simp; (try with_reducible rfl))
          try simp only [Act.put, List.setIfInBounds_toArray, List.set_cons_zero, List.set_cons_succ]
          refine wpAnyH_take (i := 7) (oi := { dst := some 23, op := Op.load 52 (Operand.tmp 22), type := 52, pos := "ref.go:149", after := #[{ on := 6, ground := Ground.data }], guard := none }) (v := ?vv8) rfl (by kernel_rfl) (by kernel_rfl) (by kernel_rfl) (fun _ _ _ h => h) ?hy8 (by assumption) ?rest8
          case hy8 => (refine Or.inl ⟨by rfl, ?_⟩; intro W hSw; (try dsimp only at hSw); go_simp; (try with_reducible rfl))
          try simp only [Act.put, List.setIfInBounds_toArray, List.set_cons_zero, List.set_cons_succ]
          refine wpAnyH_take (i := 8) (oi := { dst := some 24, op := Op.binOp BinOp.neq 52 (Operand.tmp 19) (Operand.tmp 23) 52, type := 4, pos := "ref.go:149", after := #[{ on := 3, ground := Ground.data }, { on := 7, ground := Ground.data }], guard := none }) (v := (.bool false)) rfl (by kernel_rfl) (by kernel_rfl) (by kernel_rfl) (fun _ _ _ h => h) ?hy9 (by assumption) ?rest9
          case hy9 => ((refine Or.inl ⟨by rfl, ?_⟩; intro W hSw; (try dsimp only at hSw); go_simp; (try with_reducible rfl)))
          try simp only [Act.put, List.setIfInBounds_toArray, List.set_cons_zero, List.set_cons_succ]
          refine wpAnyH_done (by kernel_rfl) ?_ _
          dsimp only [onlyN]
          clear hHeld
          go_wp2_with fail
          go_roundw
          case rel => exact ⟨i + 1, HLT.out, by go_num, HN.out, HBD.out⟩
          case measure => have := HLT.out; simp [intOf]; omega
        · have hpq : decide (p = q) = false := by
            simp only [decide_eq_false_iff_not]
            rintro rfl
            exact hk (Option.some.inj (hp.symm.trans hq))
          have HPQ := Lib.hid hpq
          clear hsame hp hq hlt hpq
          go_wp2_with fail
          refine wp_only ?_
          refine wp_region_held_drew (S := fun W => W.cell? ⟨g, i * 2, none⟩ = some (.string ⟨r.k.toArray⟩) ∧ W.cell? ⟨g, i * 2 + 1, none⟩ = some (.int .i64 r.n) ∧ W.cell? ⟨g2, i * 2, none⟩ = some (.string ⟨r2.k.toArray⟩) ∧ W.cell? ⟨g2, i * 2 + 1, none⟩ = some (.int .i64 r2.n)) (by kernel_rfl) ⟨k1, k2, l1, l2⟩ (fun hHeld => ?_)
          refine wpAnyH_take (i := 0) (oi := { dst := some 16, op := Op.move (Operand.tmp 0), type := 28, pos := "ref.go:149", after := #[], guard := none }) (v := ?vv10) rfl (by kernel_rfl) (by kernel_rfl) (by kernel_rfl) (fun _ _ _ h => h) ?hy10 (by assumption) ?rest10
          case hy10 => (refine Or.inl ⟨by rfl, ?_⟩; intro W hSw; (try dsimp only at hSw); go_simp; (try with_reducible rfl))
          try simp only [Act.put, List.setIfInBounds_toArray, List.set_cons_zero, List.set_cons_succ]
          refine wpAnyH_take (i := 1) (oi := { dst := some 17, op := Op.move (Operand.tmp 5), type := 3, pos := "ref.go:149", after := #[], guard := none }) (v := ?vv11) rfl (by kernel_rfl) (by kernel_rfl) (by kernel_rfl) (fun _ _ _ h => h) ?hy11 (by assumption) ?rest11
          case hy11 => (refine Or.inl ⟨by rfl, ?_⟩; intro W hSw; (try dsimp only at hSw); go_simp; (try with_reducible rfl))
          try simp only [Act.put, List.setIfInBounds_toArray, List.set_cons_zero, List.set_cons_succ]
          refine wpAnyH_take (i := 2) (oi := { dst := some 18, op := Op.indexAddr 28 (Operand.tmp 16) (Operand.tmp 17), type := 0, pos := "ref.go:149", after := #[{ on := 0, ground := Ground.data }, { on := 1, ground := Ground.data }], guard := none }) (v := ?vv12) rfl (by kernel_rfl) (by kernel_rfl) (by kernel_rfl) (fun _ _ _ h => h) ?hy12 (by assumption) ?rest12
          case hy12 => (refine Or.inl ⟨by rfl, ?_⟩; intro W hSw; (try dsimp only at hSw); go_simp; (try with_reducible rfl))
          try simp only [Act.put, List.setIfInBounds_toArray, List.set_cons_zero, List.set_cons_succ]
          refine wpAnyH_take (i := 3) (oi := { dst := some 19, op := Op.load 52 (Operand.tmp 18), type := 52, pos := "ref.go:149", after := #[{ on := 2, ground := Ground.data }], guard := none }) (v := ?vv13) rfl (by kernel_rfl) (by kernel_rfl) (by kernel_rfl) (fun _ _ _ h => h) ?hy13 (by assumption) ?rest13
          case hy13 => (refine Or.inl ⟨by rfl, ?_⟩; intro W hSw; (try dsimp only at hSw); go_simp; (try with_reducible rfl))
          try simp only [Act.put, List.setIfInBounds_toArray, List.set_cons_zero, List.set_cons_succ]
          refine wpAnyH_take (i := 4) (oi := { dst := some 20, op := Op.move (Operand.tmp 1), type := 28, pos := "ref.go:149", after := #[], guard := none }) (v := ?vv14) rfl (by kernel_rfl) (by kernel_rfl) (by kernel_rfl) (fun _ _ _ h => h) ?hy14 (by assumption) ?rest14
          case hy14 => (refine Or.inl ⟨by rfl, ?_⟩; intro W hSw; (try dsimp only at hSw); go_simp; (try with_reducible rfl))
          try simp only [Act.put, List.setIfInBounds_toArray, List.set_cons_zero, List.set_cons_succ]
          refine wpAnyH_take (i := 5) (oi := { dst := some 21, op := Op.move (Operand.tmp 5), type := 3, pos := "ref.go:149", after := #[], guard := none }) (v := ?vv15) rfl (by kernel_rfl) (by kernel_rfl) (by kernel_rfl) (fun _ _ _ h => h) ?hy15 (by assumption) ?rest15
          case hy15 => (refine Or.inl ⟨by rfl, ?_⟩; intro W hSw; (try dsimp only at hSw); go_simp; (try with_reducible rfl))
          try simp only [Act.put, List.setIfInBounds_toArray, List.set_cons_zero, List.set_cons_succ]
          refine wpAnyH_take (i := 6) (oi := { dst := some 22, op := Op.indexAddr 28 (Operand.tmp 20) (Operand.tmp 21), type := 0, pos := "ref.go:149", after := #[{ on := 4, ground := Ground.data }, { on := 5, ground := Ground.data }], guard := none }) (v := ?vv16) rfl (by kernel_rfl) (by kernel_rfl) (by kernel_rfl) (fun _ _ _ h => h) ?hy16 (by assumption) ?rest16
          case hy16 => (refine Or.inl ⟨by rfl, ?_⟩; intro W hSw; (try dsimp only at hSw); go_simp; (try with_reducible rfl))
          try simp only [Act.put, List.setIfInBounds_toArray, List.set_cons_zero, List.set_cons_succ]
          refine wpAnyH_take (i := 7) (oi := { dst := some 23, op := Op.load 52 (Operand.tmp 22), type := 52, pos := "ref.go:149", after := #[{ on := 6, ground := Ground.data }], guard := none }) (v := ?vv17) rfl (by kernel_rfl) (by kernel_rfl) (by kernel_rfl) (fun _ _ _ h => h) ?hy17 (by assumption) ?rest17
          case hy17 => (refine Or.inl ⟨by rfl, ?_⟩; intro W hSw; (try dsimp only at hSw); go_simp; (try with_reducible rfl))
          try simp only [Act.put, List.setIfInBounds_toArray, List.set_cons_zero, List.set_cons_succ]
          refine wpAnyH_take (i := 8) (oi := { dst := some 24, op := Op.binOp BinOp.neq 52 (Operand.tmp 19) (Operand.tmp 23) 52, type := 4, pos := "ref.go:149", after := #[{ on := 3, ground := Ground.data }, { on := 7, ground := Ground.data }], guard := none }) (v := (.bool true)) rfl (by kernel_rfl) (by kernel_rfl) (by kernel_rfl) (fun _ _ _ h => h) ?hy18 (by assumption) ?rest18
          case hy18 => ((refine Or.inl ⟨by rfl, ?_⟩; intro W hSw; (try dsimp only at hSw); go_simp; exact row_ne hk))
          try simp only [Act.put, List.setIfInBounds_toArray, List.set_cons_zero, List.set_cons_succ]
          refine wpAnyH_done (by kernel_rfl) ?_ _
          dsimp only [onlyN]
          clear hHeld
          go_wp2_with fail
          go_ret
          exact ⟨by rw [HPQ.out]; rfl, HBD.out⟩
      · obtain rfl : i = m := by omega
        have hpq : decide (p = q) = true := by
          simp only [decide_eq_true_eq]
          apply List.ext_getElem?
          intro j
          by_cases hj : j < i
          · exact hsame j hj
          · rw [List.getElem?_eq_none (by rw [HM.out]; omega), List.getElem?_eq_none (by rw [HM2.out]; omega)]
        have HPQ := Lib.hid hpq
        clear hsame hpq hbw
        go_wp2_with fail
        go_ret
        exact ⟨by rw [HPQ.out]; rfl, HB.out⟩
  · have hneI : ¬ (p.length : Int) = (q.length : Int) := by omega
    have hpq : (decide (p = q)) = false := by simp; rintro rfl; exact hne rfl
    rw [hpq]
    go_enter Tryd.func13, Tryd.ntmps13
    go_wp2_with fail
    go_ret
    exact ⟨by simp, Below.refl _ _⟩
end Go.Proofs.YtkkfgdibficifaaDoor
