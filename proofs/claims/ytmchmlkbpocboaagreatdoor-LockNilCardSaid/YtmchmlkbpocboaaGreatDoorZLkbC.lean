/- slices.Compact of edges, walked. -/
import Derived.Test.YtmchmlkbpocboaaGreatDoorZLkbB
set_option linter.unusedSimpArgs false
set_option linter.unusedVariables false
set_option linter.unnecessarySimpa false
namespace Go.Proofs.YtmchmlkbpocboaaGreatDoor
open Go.RowKit Go.Sort Go.Shelf Go.Lib

/-- While doubles are taken out: the first q are gone through, what is left of them stands in the first i. -/
structure DdP (E M : List Eg) (i q : Nat) : Prop where
  len : M.length = E.length
  lt : i + 1 ≤ q
  le : q ≤ E.length
  front : M.take i = dd E q
  back : ∀ n, q ≤ n + 1 → M[n]? = E[n]?
theorem DdP.start {E : List Eg} {k : Nat} {x : Eg} (h1 : E[k + 1]? = some x) (h2 : E[k]? = some x) (h3 : dd E (k + 1) = E.take (k + 1)) : DdP E E (k + 1) (k + 2) := by
  have := (List.getElem?_eq_some_iff.1 h1).1
  refine ⟨rfl, by omega, by omega, ?_, fun _ _ => rfl⟩
  rw [dd_step h1 h2, if_pos rfl, List.append_nil, h3]
theorem DdP.skip {E M : List Eg} {i q : Nat} {x : Eg} (h : DdP E M i (q + 1)) (h1 : E[q + 1]? = some x) (h2 : E[q]? = some x) : DdP E M i (q + 2) := by
  have := (List.getElem?_eq_some_iff.1 h1).1
  refine ⟨h.len, by have := h.lt; omega, by omega, ?_, fun n hn => h.back n (by omega)⟩
  rw [dd_step h1 h2, if_pos rfl, List.append_nil, h.front]
theorem DdP.take {E M : List Eg} {i q : Nat} {x y : Eg} (h : DdP E M i (q + 1)) (h1 : E[q + 1]? = some x) (h2 : E[q]? = some y) (hne : x ≠ y) : DdP E (M.set i x) (i + 1) (q + 2) := by
  have hq := (List.getElem?_eq_some_iff.1 h1).1
  have hlt := h.lt
  have hl := h.len
  refine ⟨by rw [List.length_set]; exact hl, by omega, by omega, ?_, fun n hn => ?_⟩
  · rw [dd_step h1 h2, if_neg hne, ← h.front, List.take_add_one, List.getElem?_set_self (by omega)]
    congr 1
    rw [List.take_set_of_le (Nat.le_refl _)]
  · rw [List.getElem?_set_ne (by omega)]
    exact h.back n (by omega)
/-- What is left without doubles. -/
def CompQ (w : World) (A : Option Addr) (n c : Nat) (E : List Eg) (e : Ending) (w' : World) : Prop := ∃ A' c', e = .returned (.slice A' (Lib.compact E).length c') ∧ RowIs w' 2 (.slice A' (Lib.compact E).length c') (Lib.compact E).length (edC (Lib.compact E)) ∧ (∀ g, (Value.slice A' (Lib.compact E).length c').ownBlock = some g → (Value.slice A n c).ownBlock = some g) ∧ Touch (fun k => (Value.slice A n c).ownBlock = some k) w w'
theorem compact_short {E : List Eg} (h : E.length < 2) : Lib.compact E = E := by
  match E, h with
  | [], _ => rfl
  | [a], _ => rw [← dd_all, show [a].length = 1 from rfl, dd_one (by simp)]; rfl
set_option maxRecDepth 100000 in
set_option maxHeartbeats 4000000 in
theorem comp_any {w : World} {A : Option Addr} {c : Nat} {E : List Eg} (h : RowIs w 2 (.slice A E.length c) E.length (edC E)) (hl : E.length ≤ 16777216) : Calls Tryz.prog 46 #[.slice A E.length c] w (CompQ w A E.length c E) := by
  by_cases hs : E.length < 2
  · have HC : Hid (CompQ w A E.length c E (.returned (.slice A E.length c)) w) := Lib.hid (by
      have hc := compact_short hs
      unfold CompQ
      rw [hc]
      exact ⟨A, c, rfl, h, fun g hg => hg, Touch.refl _ _⟩)
    have hsI : (E.length : Int) < 2 := by omega
    clear h hs
    go_enter Tryz.func46, Tryz.ntmps46
    go_wp2_with fail
    refine bodyPost_ret (v := .slice A E.length c) (by simp [results, Tryz.results46, go_sem]) rfl HC.out
  · rcases h with ⟨e, h1, _⟩ | ⟨g, cap, e, h1, h2, h3⟩
    · omega
    · injection e with e1 e2 e3
      subst e1 e3
      have hsI : ¬ (E.length : Int) < 2 := by omega
      have hlI : (E.length : Int) ≤ 16777216 := by omega
      have hcI : (E.length : Int) ≤ (c : Int) := by omega
      have HR := Lib.hid h3
      have HN := Lib.hid h2
      have HS := Lib.hid hs
      have HL := Lib.hid hl
      clear h1 h2 h3 hs hl
      go_enter Tryz.func46, Tryz.ntmps46
      go_wp2_with fail
      go_loopw [3] (fun i wr => ∃ k : Nat, k + 1 ≤ E.length ∧ i = .int .i64 ((k : Int) + 1) ∧ RowC wr 2 g c (edC E) ∧ Below w.heap.size w wr ∧ dd E (k + 1) = E.take (k + 1)) (fun i _ => E.length - (intOf i).toNat)
      case atStart => exact ⟨0, by have := HS.out; omega, by go_num, HR.out, Below.refl _ _, dd_one (by have := HS.out; omega)⟩
      case round =>
        obtain ⟨k, hk, rfl, hrw, hbw, hdd⟩ := hrel
        obtain ⟨wo, rfl⟩ : ∃ wo, wo = wr := ⟨_, rfl⟩
        have HRW := Lib.hid hrw
        have HBW := Lib.hid hbw
        have HDD := Lib.hid hdd
        by_cases hlt : k + 1 < E.length
        · have hx : E[k + 1]? = some E[k + 1] := List.getElem?_eq_getElem hlt
          have hy : E[k]? = some (E[k]'(by omega)) := List.getElem?_eq_getElem _
          generalize E[k + 1] = x at hx
          generalize E[k]'(by omega) = y at hy
          obtain ⟨x1, x2⟩ := x
          obtain ⟨y1, y2⟩ := y
          obtain ⟨a0, a1⟩ := hrw.hasE hx
          obtain ⟨b0, b1⟩ := hrw.hasE hy
          dsimp only at a0 a1 b0 b1
          have HS0 : Hid (wo.drew.cell? ⟨g, (k + 1) * 2, none⟩ = some (.int .i64 x1) ∧ wo.drew.cell? ⟨g, (k + 1) * 2 + 1, none⟩ = some (.int .i64 x2) ∧ wo.drew.cell? ⟨g, k * 2, none⟩ = some (.int .i64 y1) ∧ wo.drew.cell? ⟨g, k * 2 + 1, none⟩ = some (.int .i64 y2)) := Lib.hid ⟨a0, a1, b0, b1⟩
          have hi : (k : Int) + 1 < (E.length : Int) := by omega
          have hkI : (k : Int) ≤ 16777216 := by omega
          have HX := Lib.hid hx
          have HY := Lib.hid hy
          have HLT := Lib.hid hlt
          clear hk hrw hbw hdd hlt hx hy a0 a1 b0 b1
          by_cases e1 : x1 = y1
          · by_cases e2 : x2 = y2
            · subst e1 e2
              go_wp2_with fail
              refine wp_region_held_drew (S := fun W => W.cell? ⟨g, (k + 1) * 2, none⟩ = some (.int .i64 x1) ∧ W.cell? ⟨g, (k + 1) * 2 + 1, none⟩ = some (.int .i64 x2) ∧ W.cell? ⟨g, k * 2, none⟩ = some (.int .i64 x1) ∧ W.cell? ⟨g, k * 2 + 1, none⟩ = some (.int .i64 x2)) (by kernel_rfl) HS0.out (fun hHeld => ?_)
              refine wpAnyH_take (i := 0) (oi := { dst := some 16, op := Op.move (Operand.tmp 0), type := 46, pos := "slices.go:376", after := #[], guard := none }) (v := ?vv1) rfl (by kernel_rfl) (by kernel_rfl) (by kernel_rfl) (fun _ _ _ h => h) ?hy1 (by assumption) ?rest1
              case hy1 => (refine Or.inl ⟨by rfl, ?_⟩; intro W hSw; (try dsimp only at hSw); go_simp; (try with_reducible rfl))
              try simp only [Act.put, List.setIfInBounds_toArray, List.set_cons_zero, List.set_cons_succ]
              refine wpAnyH_take (i := 1) (oi := { dst := some 17, op := Op.move (Operand.tmp 3), type := 3, pos := "slices.go:376", after := #[], guard := none }) (v := ?vv2) rfl (by kernel_rfl) (by kernel_rfl) (by kernel_rfl) (fun _ _ _ h => h) ?hy2 (by assumption) ?rest2
              case hy2 => (refine Or.inl ⟨by rfl, ?_⟩; intro W hSw; (try dsimp only at hSw); go_simp; (try with_reducible rfl))
              try simp only [Act.put, List.setIfInBounds_toArray, List.set_cons_zero, List.set_cons_succ]
              refine wpAnyH_take (i := 2) (oi := { dst := some 18, op := Op.indexAddr 46 (Operand.tmp 16) (Operand.tmp 17), type := 0, pos := "slices.go:376", after := #[{ on := 0, ground := Ground.data }, { on := 1, ground := Ground.data }], guard := none }) (v := (.pointer (some ⟨g, (k + 1) * 2, none⟩))) rfl (by kernel_rfl) (by kernel_rfl) (by kernel_rfl) (fun _ _ _ h => h) ?hy3 (by assumption) ?rest3
              case hy3 => ((refine Or.inl ⟨by rfl, ?_⟩; intro W hSw; (try dsimp only at hSw); go_simp; (first | done | with_reducible rfl | (rw [if_pos (by omega)]; done) | omega | simp_all)))
              try simp only [Act.put, List.setIfInBounds_toArray, List.set_cons_zero, List.set_cons_succ]
              refine wpAnyH_take (i := 3) (oi := { dst := some 19, op := Op.load 49 (Operand.tmp 18), type := 49, pos := "slices.go:376", after := #[{ on := 2, ground := Ground.data }], guard := none }) (v := ?vv4) rfl (by kernel_rfl) (by kernel_rfl) (by kernel_rfl) (fun _ _ _ h => h) ?hy4 (by assumption) ?rest4
              case hy4 => (refine Or.inl ⟨by rfl, ?_⟩; intro W hSw; (try dsimp only at hSw); go_simp; (try with_reducible rfl))
              try simp only [Act.put, List.setIfInBounds_toArray, List.set_cons_zero, List.set_cons_succ]
              refine wpAnyH_take (i := 4) (oi := { dst := some 20, op := Op.move (Operand.tmp 0), type := 46, pos := "slices.go:376", after := #[], guard := none }) (v := ?vv5) rfl (by kernel_rfl) (by kernel_rfl) (by kernel_rfl) (fun _ _ _ h => h) ?hy5 (by assumption) ?rest5
              case hy5 => (refine Or.inl ⟨by rfl, ?_⟩; intro W hSw; (try dsimp only at hSw); go_simp; (try with_reducible rfl))
              try simp only [Act.put, List.setIfInBounds_toArray, List.set_cons_zero, List.set_cons_succ]
              refine wpAnyH_take (i := 5) (oi := { dst := some 21, op := Op.move (Operand.tmp 3), type := 3, pos := "slices.go:376", after := #[], guard := none }) (v := ?vv6) rfl (by kernel_rfl) (by kernel_rfl) (by kernel_rfl) (fun _ _ _ h => h) ?hy6 (by assumption) ?rest6
              case hy6 => (refine Or.inl ⟨by rfl, ?_⟩; intro W hSw; (try dsimp only at hSw); go_simp; (try with_reducible rfl))
              try simp only [Act.put, List.setIfInBounds_toArray, List.set_cons_zero, List.set_cons_succ]
              refine wpAnyH_take (i := 6) (oi := { dst := some 22, op := Op.binOp BinOp.sub 3 (Operand.tmp 21) (Operand.const (Value.int IntKind.i64 1)) 3, type := 3, pos := "slices.go:376", after := #[{ on := 5, ground := Ground.data }], guard := none }) (v := (.int .i64 (k : Int))) rfl (by kernel_rfl) (by kernel_rfl) (by kernel_rfl) (fun _ _ _ h => h) ?hy7 (by assumption) ?rest7
              case hy7 => ((refine Or.inl ⟨by rfl, ?_⟩; intro W hSw; (try dsimp only at hSw); go_simp; (first | done | with_reducible rfl | omega | exact IntWalk.i64_in _ (by omega) | simp_all)))
              try simp only [Act.put, List.setIfInBounds_toArray, List.set_cons_zero, List.set_cons_succ]
              refine wpAnyH_take (i := 7) (oi := { dst := some 23, op := Op.indexAddr 46 (Operand.tmp 20) (Operand.tmp 22), type := 0, pos := "slices.go:376", after := #[{ on := 4, ground := Ground.data }, { on := 6, ground := Ground.data }], guard := none }) (v := (.pointer (some ⟨g, k * 2, none⟩))) rfl (by kernel_rfl) (by kernel_rfl) (by kernel_rfl) (fun _ _ _ h => h) ?hy8 (by assumption) ?rest8
              case hy8 => ((refine Or.inl ⟨by rfl, ?_⟩; intro W hSw; (try dsimp only at hSw); go_simp; (first | done | with_reducible rfl | (rw [if_pos (by omega)]; done) | omega | simp_all)))
              try simp only [Act.put, List.setIfInBounds_toArray, List.set_cons_zero, List.set_cons_succ]
              refine wpAnyH_take (i := 8) (oi := { dst := some 24, op := Op.load 49 (Operand.tmp 23), type := 49, pos := "slices.go:376", after := #[{ on := 7, ground := Ground.data }], guard := none }) (v := ?vv9) rfl (by kernel_rfl) (by kernel_rfl) (by kernel_rfl) (fun _ _ _ h => h) ?hy9 (by assumption) ?rest9
              case hy9 => (refine Or.inl ⟨by rfl, ?_⟩; intro W hSw; (try dsimp only at hSw); go_simp; (try with_reducible rfl))
              try simp only [Act.put, List.setIfInBounds_toArray, List.set_cons_zero, List.set_cons_succ]
              refine wpAnyH_take (i := 9) (oi := { dst := some 25, op := Op.binOp BinOp.eql 49 (Operand.tmp 19) (Operand.tmp 24) 49, type := 4, pos := "slices.go:376", after := #[{ on := 3, ground := Ground.data }, { on := 8, ground := Ground.data }], guard := none }) (v := (.bool true)) rfl (by kernel_rfl) (by kernel_rfl) (by kernel_rfl) (fun _ _ _ h => h) ?hy10 (by assumption) ?rest10
              case hy10 => ((refine Or.inl ⟨by rfl, ?_⟩; intro W hSw; (try dsimp only at hSw); go_simp; (first | done | with_reducible rfl | omega | exact IntWalk.i64_in _ (by omega) | simp_all)))
              try simp only [Act.put, List.setIfInBounds_toArray, List.set_cons_zero, List.set_cons_succ]
              refine wpAnyH_done (by kernel_rfl) ?_ _
              clear hHeld HS0
              obtain ⟨N2, hN2⟩ : ∃ N2, E.length - (k + 1) = N2 := ⟨_, rfl⟩
              have hN2' : N2 + (k + 1) = E.length := by have := HLT.out; omega
              have hcne : (c = k + 1) = False := eq_false (by have := HLT.out; have := HN.out; omega)
              have hkc : (k : Int) + 1 ≤ (c : Int) := by omega
              have HD0 := Lib.hid (DdP.start HX.out HY.out HDD.out)
              have HNN := Lib.hid hN2'
              have hN2I : (N2 : Int) + ((k : Int) + 1) = (E.length : Int) := by omega
              go_wp2_with fail
              clear hN2 hN2'
              go_loopw [3, 5] (fun s3 s5 wr => ∃ (i p : Nat) (M : List Eg), s3 = .int .i64 i ∧ s5 = .int .i64 ((p : Int) + 1) ∧ DdP E M i (k + p + 2) ∧ RowC wr 2 g c (edC M) ∧ Touch (fun b => b = g) w wr) (fun _ s5 _ => N2 - (intOf s5).toNat)
              case atStart => exact ⟨k + 1, 0, E, by go_num, by go_num, HD0.out, HRW.out.keep (w' := wo.drew) (Nat.le_refl _) rfl, .of_below (below_drew HBW.out)⟩
              case round =>
                obtain ⟨i, p, M, rfl, rfl, hD, hrm, htm⟩ := hrel
                obtain ⟨wj, rfl⟩ : ∃ wj, wj = wr := ⟨_, rfl⟩
                have HD := Lib.hid hD
                have HRM := Lib.hid hrm
                have HTM := Lib.hid htm
                have hil := hD.lt
                have hqe := hD.le
                by_cases hlt2 : p + 1 < N2
                · have hu : E[k + p + 2]? = some (E[k + p + 2]'(by have := HNN.out; omega)) := List.getElem?_eq_getElem _
                  have hv : E[k + p + 1]? = some (E[k + p + 1]'(by have := HNN.out; omega)) := List.getElem?_eq_getElem _
                  generalize E[k + p + 2]'(by have := HNN.out; omega) = u at hu
                  generalize E[k + p + 1]'(by have := HNN.out; omega) = v at hv
                  obtain ⟨u1, u2⟩ := u
                  obtain ⟨v1, v2⟩ := v
                  obtain ⟨a0, a1⟩ := hrm.hasE ((hD.back (k + p + 2) (by omega)).trans hu)
                  obtain ⟨b0, b1⟩ := hrm.hasE ((hD.back (k + p + 1) (by omega)).trans hv)
                  dsimp only at a0 a1 b0 b1
                  have f1 : (k + p + 2) * 2 = (k + 1) * 2 + (p + 1) * 2 := by omega
                  have f2 : (k + p + 1) * 2 = (k + 1) * 2 + p * 2 := by omega
                  rw [f1] at a0 a1
                  rw [f2] at b0 b1
                  have HS9 : Hid (wj.drew.cell? ⟨g, (k + 1) * 2 + (p + 1) * 2, none⟩ = some (.int .i64 u1) ∧ wj.drew.cell? ⟨g, (k + 1) * 2 + (p + 1) * 2 + 1, none⟩ = some (.int .i64 u2) ∧ wj.drew.cell? ⟨g, (k + 1) * 2 + p * 2, none⟩ = some (.int .i64 v1) ∧ wj.drew.cell? ⟨g, (k + 1) * 2 + p * 2 + 1, none⟩ = some (.int .i64 v2)) := Lib.hid ⟨a0, a1, b0, b1⟩
                  have hi2 : (p : Int) + 1 < (N2 : Int) := by omega
                  have hpI : (p : Int) ≤ 16777216 := by omega
                  have HU := Lib.hid hu
                  have HV := Lib.hid hv
                  have HLT2 := Lib.hid hlt2
                  have hiM : i < M.length := by have := hD.len; omega
                  have hset := hrm.setE (e := (u1, u2)) hiM
                  have hTk := TouchA.setCells wj g 0 (c * 2) (i * 2) [.int .i64 u1, .int .i64 u2] (by omega) (by have h9 := hrm.le; rw [edC_len] at h9; simp only [List.length_cons, List.length_nil]; omega)
                  have hxi : M[i]? = some (M[i]'hiM) := List.getElem?_eq_getElem hiM
                  generalize M[i]'hiM = yi at hxi
                  obtain ⟨d0, d1⟩ := hrm.hasE hxi
                  have d2 : wj.drew.cell? ⟨g, i * 2, none⟩ = some (.int .i64 yi.1) := d0
                  have d3 : wj.drew.cell? ⟨g, i * 2 + 1, none⟩ = some (.int .i64 yi.2) := d1
                  have fr : ∀ n, n < 2 → wj.frozen? ⟨g, i * 2 + n, none⟩ = false := fun n hn => by
                    have h9 := hrm.le
                    rw [edC_len] at h9
                    exact (hrm.there (i * 2 + n) (by omega)).2
                  have g0 := fr 0 (by omega)
                  have g1 := fr 1 (by omega)
                  rw [Nat.add_zero] at g0
                  have g2 : wj.drew.frozen? ⟨g, i * 2, none⟩ = false := g0
                  have g3 : wj.drew.frozen? ⟨g, i * 2 + 1, none⟩ = false := g1
                  have z0 : wj.drew.cell? ⟨g, (k + 1) * 2 + (p + 1) * 2, none⟩ = some (.int .i64 u1) := a0
                  have z1 : wj.drew.cell? ⟨g, (k + 1) * 2 + (p + 1) * 2 + 1, none⟩ = some (.int .i64 u2) := a1
                  have HRM2 : Hid (RowC ((wj.drew.setCell ⟨g, i * 2, none⟩ (.int .i64 u1)).setCell ⟨g, i * 2 + 1, none⟩ (.int .i64 u2)) 2 g c (edC (M.set i (u1, u2)))) := Lib.hid (hset.keep (w' := ((wj.drew.setCell ⟨g, i * 2, none⟩ (.int .i64 u1)).setCell ⟨g, i * 2 + 1, none⟩ (.int .i64 u2))) (Nat.le_refl _) rfl)
                  have HTM2 : Hid (Touch (fun b => b = g) w ((wj.drew.setCell ⟨g, i * 2, none⟩ (.int .i64 u1)).setCell ⟨g, i * 2 + 1, none⟩ (.int .i64 u2))) := Lib.hid (((htm.drew).setCell ⟨g, i * 2, none⟩ (fun _ => rfl) _).setCell ⟨g, i * 2 + 1, none⟩ (fun _ => rfl) _)
                  have hiE : (i : Int) < (E.length : Int) := by have := hD.len; omega
                  clear hD hrm htm hil hqe hlt2 hu hv a0 a1 b0 b1 hiM hset hTk hxi fr
                  by_cases e3 : u1 = v1
                  · by_cases e4 : u2 = v2
                    · subst e3 e4
                      have HST2 : Hid (DdP E M i (k + (p + 1) + 2)) := Lib.hid (by
                        have := HD.out.skip (q := k + p + 1) HU.out HV.out
                        rwa [show k + p + 1 + 2 = k + (p + 1) + 2 by omega] at this)
                      go_wp2_with fail
                      refine wp_region_held_drew (S := fun W => W.cell? ⟨g, (k + 1) * 2 + (p + 1) * 2, none⟩ = some (.int .i64 u1) ∧ W.cell? ⟨g, (k + 1) * 2 + (p + 1) * 2 + 1, none⟩ = some (.int .i64 u2) ∧ W.cell? ⟨g, (k + 1) * 2 + p * 2, none⟩ = some (.int .i64 u1) ∧ W.cell? ⟨g, (k + 1) * 2 + p * 2 + 1, none⟩ = some (.int .i64 u2)) (by kernel_rfl) HS9.out (fun hHeld => ?_)
                      refine wpAnyH_take (i := 0) (oi := { dst := some 35, op := Op.move (Operand.tmp 4), type := 46, pos := "slices.go:379", after := #[], guard := none }) (v := ?vv11) rfl (by kernel_rfl) (by kernel_rfl) (by kernel_rfl) (fun _ _ _ h => h) ?hy11 (by assumption) ?rest11
                      case hy11 => (refine Or.inl ⟨by rfl, ?_⟩; intro W hSw; (try dsimp only at hSw); go_simp; (try with_reducible rfl))
                      try simp only [Act.put, List.setIfInBounds_toArray, List.set_cons_zero, List.set_cons_succ]
                      refine wpAnyH_take (i := 1) (oi := { dst := some 36, op := Op.move (Operand.tmp 5), type := 3, pos := "slices.go:379", after := #[], guard := none }) (v := ?vv12) rfl (by kernel_rfl) (by kernel_rfl) (by kernel_rfl) (fun _ _ _ h => h) ?hy12 (by assumption) ?rest12
                      case hy12 => (refine Or.inl ⟨by rfl, ?_⟩; intro W hSw; (try dsimp only at hSw); go_simp; (try with_reducible rfl))
                      try simp only [Act.put, List.setIfInBounds_toArray, List.set_cons_zero, List.set_cons_succ]
                      refine wpAnyH_take (i := 2) (oi := { dst := some 37, op := Op.indexAddr 46 (Operand.tmp 35) (Operand.tmp 36), type := 0, pos := "slices.go:379", after := #[{ on := 0, ground := Ground.data }, { on := 1, ground := Ground.data }], guard := none }) (v := (.pointer (some ⟨g, (k + 1) * 2 + (p + 1) * 2, none⟩))) rfl (by kernel_rfl) (by kernel_rfl) (by kernel_rfl) (fun _ _ _ h => h) ?hy13 (by assumption) ?rest13
                      case hy13 => ((refine Or.inl ⟨by rfl, ?_⟩; intro W hSw; (try dsimp only at hSw); go_simp; (first | done | with_reducible rfl | (rw [if_pos (by omega)]; done) | omega | simp_all)))
                      try simp only [Act.put, List.setIfInBounds_toArray, List.set_cons_zero, List.set_cons_succ]
                      refine wpAnyH_take (i := 3) (oi := { dst := some 38, op := Op.load 49 (Operand.tmp 37), type := 49, pos := "slices.go:379", after := #[{ on := 2, ground := Ground.data }], guard := none }) (v := ?vv14) rfl (by kernel_rfl) (by kernel_rfl) (by kernel_rfl) (fun _ _ _ h => h) ?hy14 (by assumption) ?rest14
                      case hy14 => (refine Or.inl ⟨by rfl, ?_⟩; intro W hSw; (try dsimp only at hSw); go_simp; (try with_reducible rfl))
                      try simp only [Act.put, List.setIfInBounds_toArray, List.set_cons_zero, List.set_cons_succ]
                      refine wpAnyH_take (i := 4) (oi := { dst := some 39, op := Op.move (Operand.tmp 4), type := 46, pos := "slices.go:379", after := #[], guard := none }) (v := ?vv15) rfl (by kernel_rfl) (by kernel_rfl) (by kernel_rfl) (fun _ _ _ h => h) ?hy15 (by assumption) ?rest15
                      case hy15 => (refine Or.inl ⟨by rfl, ?_⟩; intro W hSw; (try dsimp only at hSw); go_simp; (try with_reducible rfl))
                      try simp only [Act.put, List.setIfInBounds_toArray, List.set_cons_zero, List.set_cons_succ]
                      refine wpAnyH_take (i := 5) (oi := { dst := some 40, op := Op.move (Operand.tmp 5), type := 3, pos := "slices.go:379", after := #[], guard := none }) (v := ?vv16) rfl (by kernel_rfl) (by kernel_rfl) (by kernel_rfl) (fun _ _ _ h => h) ?hy16 (by assumption) ?rest16
                      case hy16 => (refine Or.inl ⟨by rfl, ?_⟩; intro W hSw; (try dsimp only at hSw); go_simp; (try with_reducible rfl))
                      try simp only [Act.put, List.setIfInBounds_toArray, List.set_cons_zero, List.set_cons_succ]
                      refine wpAnyH_take (i := 6) (oi := { dst := some 41, op := Op.binOp BinOp.sub 3 (Operand.tmp 40) (Operand.const (Value.int IntKind.i64 1)) 3, type := 3, pos := "slices.go:379", after := #[{ on := 5, ground := Ground.data }], guard := none }) (v := (.int .i64 (p : Int))) rfl (by kernel_rfl) (by kernel_rfl) (by kernel_rfl) (fun _ _ _ h => h) ?hy17 (by assumption) ?rest17
                      case hy17 => ((refine Or.inl ⟨by rfl, ?_⟩; intro W hSw; (try dsimp only at hSw); go_simp; (first | done | with_reducible rfl | omega | exact IntWalk.i64_in _ (by omega) | simp_all)))
                      try simp only [Act.put, List.setIfInBounds_toArray, List.set_cons_zero, List.set_cons_succ]
                      refine wpAnyH_take (i := 7) (oi := { dst := some 42, op := Op.indexAddr 46 (Operand.tmp 39) (Operand.tmp 41), type := 0, pos := "slices.go:379", after := #[{ on := 4, ground := Ground.data }, { on := 6, ground := Ground.data }], guard := none }) (v := (.pointer (some ⟨g, (k + 1) * 2 + p * 2, none⟩))) rfl (by kernel_rfl) (by kernel_rfl) (by kernel_rfl) (fun _ _ _ h => h) ?hy18 (by assumption) ?rest18
                      case hy18 => ((refine Or.inl ⟨by rfl, ?_⟩; intro W hSw; (try dsimp only at hSw); go_simp; (first | done | with_reducible rfl | (rw [if_pos (by omega)]; done) | omega | simp_all)))
                      try simp only [Act.put, List.setIfInBounds_toArray, List.set_cons_zero, List.set_cons_succ]
                      refine wpAnyH_take (i := 8) (oi := { dst := some 43, op := Op.load 49 (Operand.tmp 42), type := 49, pos := "slices.go:379", after := #[{ on := 7, ground := Ground.data }], guard := none }) (v := ?vv19) rfl (by kernel_rfl) (by kernel_rfl) (by kernel_rfl) (fun _ _ _ h => h) ?hy19 (by assumption) ?rest19
                      case hy19 => (refine Or.inl ⟨by rfl, ?_⟩; intro W hSw; (try dsimp only at hSw); go_simp; (try with_reducible rfl))
                      try simp only [Act.put, List.setIfInBounds_toArray, List.set_cons_zero, List.set_cons_succ]
                      refine wpAnyH_take (i := 9) (oi := { dst := some 44, op := Op.binOp BinOp.neq 49 (Operand.tmp 38) (Operand.tmp 43) 49, type := 4, pos := "slices.go:379", after := #[{ on := 3, ground := Ground.data }, { on := 8, ground := Ground.data }], guard := none }) (v := (.bool false)) rfl (by kernel_rfl) (by kernel_rfl) (by kernel_rfl) (fun _ _ _ h => h) ?hy20 (by assumption) ?rest20
                      case hy20 => ((refine Or.inl ⟨by rfl, ?_⟩; intro W hSw; (try dsimp only at hSw); go_simp; (first | done | with_reducible rfl | omega | exact IntWalk.i64_in _ (by omega) | simp_all)))
                      try simp only [Act.put, List.setIfInBounds_toArray, List.set_cons_zero, List.set_cons_succ]
                      refine wpAnyH_done (by kernel_rfl) ?_ _
                      clear hHeld HS9
                      go_wp2_with fail
                      go_roundw
                      case rel => exact ⟨i, p + 1, M, rfl, by go_num, HST2.out, HRM.out.keep (w' := wj.drew) (Nat.le_refl _) rfl, HTM.out.drew⟩
                      case measure => have := HLT2.out; simp [intOf]; omega
                    · have hb2 : (u2 == v2) = false := by simpa using e4
                      subst e3
                      have HST2 : Hid (DdP E (M.set i (u1, u2)) (i + 1) (k + (p + 1) + 2)) := Lib.hid (by
                        have := HD.out.take (q := k + p + 1) HU.out HV.out (fun e => e4 (by injection e))
                        rwa [show k + p + 1 + 2 = k + (p + 1) + 2 by omega] at this)
                      go_wp2_with fail
                      refine wp_region_held_drew (S := fun W => W.cell? ⟨g, (k + 1) * 2 + (p + 1) * 2, none⟩ = some (.int .i64 u1) ∧ W.cell? ⟨g, (k + 1) * 2 + (p + 1) * 2 + 1, none⟩ = some (.int .i64 u2) ∧ W.cell? ⟨g, (k + 1) * 2 + p * 2, none⟩ = some (.int .i64 u1) ∧ W.cell? ⟨g, (k + 1) * 2 + p * 2 + 1, none⟩ = some (.int .i64 v2)) (by kernel_rfl) HS9.out (fun hHeld => ?_)
                      refine wpAnyH_take (i := 0) (oi := { dst := some 35, op := Op.move (Operand.tmp 4), type := 46, pos := "slices.go:379", after := #[], guard := none }) (v := ?vv21) rfl (by kernel_rfl) (by kernel_rfl) (by kernel_rfl) (fun _ _ _ h => h) ?hy21 (by assumption) ?rest21
                      case hy21 => (refine Or.inl ⟨by rfl, ?_⟩; intro W hSw; (try dsimp only at hSw); go_simp; (try with_reducible rfl))
                      try simp only [Act.put, List.setIfInBounds_toArray, List.set_cons_zero, List.set_cons_succ]
                      refine wpAnyH_take (i := 1) (oi := { dst := some 36, op := Op.move (Operand.tmp 5), type := 3, pos := "slices.go:379", after := #[], guard := none }) (v := ?vv22) rfl (by kernel_rfl) (by kernel_rfl) (by kernel_rfl) (fun _ _ _ h => h) ?hy22 (by assumption) ?rest22
                      case hy22 => (refine Or.inl ⟨by rfl, ?_⟩; intro W hSw; (try dsimp only at hSw); go_simp; (try with_reducible rfl))
                      try simp only [Act.put, List.setIfInBounds_toArray, List.set_cons_zero, List.set_cons_succ]
                      refine wpAnyH_take (i := 2) (oi := { dst := some 37, op := Op.indexAddr 46 (Operand.tmp 35) (Operand.tmp 36), type := 0, pos := "slices.go:379", after := #[{ on := 0, ground := Ground.data }, { on := 1, ground := Ground.data }], guard := none }) (v := (.pointer (some ⟨g, (k + 1) * 2 + (p + 1) * 2, none⟩))) rfl (by kernel_rfl) (by kernel_rfl) (by kernel_rfl) (fun _ _ _ h => h) ?hy23 (by assumption) ?rest23
                      case hy23 => ((refine Or.inl ⟨by rfl, ?_⟩; intro W hSw; (try dsimp only at hSw); go_simp; (first | done | with_reducible rfl | (rw [if_pos (by omega)]; done) | omega | simp_all)))
                      try simp only [Act.put, List.setIfInBounds_toArray, List.set_cons_zero, List.set_cons_succ]
                      refine wpAnyH_take (i := 3) (oi := { dst := some 38, op := Op.load 49 (Operand.tmp 37), type := 49, pos := "slices.go:379", after := #[{ on := 2, ground := Ground.data }], guard := none }) (v := ?vv24) rfl (by kernel_rfl) (by kernel_rfl) (by kernel_rfl) (fun _ _ _ h => h) ?hy24 (by assumption) ?rest24
                      case hy24 => (refine Or.inl ⟨by rfl, ?_⟩; intro W hSw; (try dsimp only at hSw); go_simp; (try with_reducible rfl))
                      try simp only [Act.put, List.setIfInBounds_toArray, List.set_cons_zero, List.set_cons_succ]
                      refine wpAnyH_take (i := 4) (oi := { dst := some 39, op := Op.move (Operand.tmp 4), type := 46, pos := "slices.go:379", after := #[], guard := none }) (v := ?vv25) rfl (by kernel_rfl) (by kernel_rfl) (by kernel_rfl) (fun _ _ _ h => h) ?hy25 (by assumption) ?rest25
                      case hy25 => (refine Or.inl ⟨by rfl, ?_⟩; intro W hSw; (try dsimp only at hSw); go_simp; (try with_reducible rfl))
                      try simp only [Act.put, List.setIfInBounds_toArray, List.set_cons_zero, List.set_cons_succ]
                      refine wpAnyH_take (i := 5) (oi := { dst := some 40, op := Op.move (Operand.tmp 5), type := 3, pos := "slices.go:379", after := #[], guard := none }) (v := ?vv26) rfl (by kernel_rfl) (by kernel_rfl) (by kernel_rfl) (fun _ _ _ h => h) ?hy26 (by assumption) ?rest26
                      case hy26 => (refine Or.inl ⟨by rfl, ?_⟩; intro W hSw; (try dsimp only at hSw); go_simp; (try with_reducible rfl))
                      try simp only [Act.put, List.setIfInBounds_toArray, List.set_cons_zero, List.set_cons_succ]
                      refine wpAnyH_take (i := 6) (oi := { dst := some 41, op := Op.binOp BinOp.sub 3 (Operand.tmp 40) (Operand.const (Value.int IntKind.i64 1)) 3, type := 3, pos := "slices.go:379", after := #[{ on := 5, ground := Ground.data }], guard := none }) (v := (.int .i64 (p : Int))) rfl (by kernel_rfl) (by kernel_rfl) (by kernel_rfl) (fun _ _ _ h => h) ?hy27 (by assumption) ?rest27
                      case hy27 => ((refine Or.inl ⟨by rfl, ?_⟩; intro W hSw; (try dsimp only at hSw); go_simp; (first | done | with_reducible rfl | omega | exact IntWalk.i64_in _ (by omega) | simp_all)))
                      try simp only [Act.put, List.setIfInBounds_toArray, List.set_cons_zero, List.set_cons_succ]
                      refine wpAnyH_take (i := 7) (oi := { dst := some 42, op := Op.indexAddr 46 (Operand.tmp 39) (Operand.tmp 41), type := 0, pos := "slices.go:379", after := #[{ on := 4, ground := Ground.data }, { on := 6, ground := Ground.data }], guard := none }) (v := (.pointer (some ⟨g, (k + 1) * 2 + p * 2, none⟩))) rfl (by kernel_rfl) (by kernel_rfl) (by kernel_rfl) (fun _ _ _ h => h) ?hy28 (by assumption) ?rest28
                      case hy28 => ((refine Or.inl ⟨by rfl, ?_⟩; intro W hSw; (try dsimp only at hSw); go_simp; (first | done | with_reducible rfl | (rw [if_pos (by omega)]; done) | omega | simp_all)))
                      try simp only [Act.put, List.setIfInBounds_toArray, List.set_cons_zero, List.set_cons_succ]
                      refine wpAnyH_take (i := 8) (oi := { dst := some 43, op := Op.load 49 (Operand.tmp 42), type := 49, pos := "slices.go:379", after := #[{ on := 7, ground := Ground.data }], guard := none }) (v := ?vv29) rfl (by kernel_rfl) (by kernel_rfl) (by kernel_rfl) (fun _ _ _ h => h) ?hy29 (by assumption) ?rest29
                      case hy29 => (refine Or.inl ⟨by rfl, ?_⟩; intro W hSw; (try dsimp only at hSw); go_simp; (try with_reducible rfl))
                      try simp only [Act.put, List.setIfInBounds_toArray, List.set_cons_zero, List.set_cons_succ]
                      refine wpAnyH_take (i := 9) (oi := { dst := some 44, op := Op.binOp BinOp.neq 49 (Operand.tmp 38) (Operand.tmp 43) 49, type := 4, pos := "slices.go:379", after := #[{ on := 3, ground := Ground.data }, { on := 8, ground := Ground.data }], guard := none }) (v := (.bool true)) rfl (by kernel_rfl) (by kernel_rfl) (by kernel_rfl) (fun _ _ _ h => h) ?hy30 (by assumption) ?rest30
                      case hy30 => ((refine Or.inl ⟨by rfl, ?_⟩; intro W hSw; (try dsimp only at hSw); go_simp; (first | done | with_reducible rfl | omega | exact IntWalk.i64_in _ (by omega) | simp_all)))
                      try simp only [Act.put, List.setIfInBounds_toArray, List.set_cons_zero, List.set_cons_succ]
                      refine wpAnyH_done (by kernel_rfl) ?_ _
                      clear hHeld HS9
                      go_wp2_with fail
                      go_roundw
                      case rel => exact ⟨i + 1, p + 1, M.set i (u1, u2), by go_num, by go_num, HST2.out, HRM2.out, HTM2.out⟩
                      case measure => have := HLT2.out; simp [intOf]; omega
                  · have hb1 : (u1 == v1) = false := by simpa using e3
                    have HST2 : Hid (DdP E (M.set i (u1, u2)) (i + 1) (k + (p + 1) + 2)) := Lib.hid (by
                      have := HD.out.take (q := k + p + 1) HU.out HV.out (fun e => e3 (by injection e))
                      rwa [show k + p + 1 + 2 = k + (p + 1) + 2 by omega] at this)
                    go_wp2_with fail
                    refine wp_region_held_drew (S := fun W => W.cell? ⟨g, (k + 1) * 2 + (p + 1) * 2, none⟩ = some (.int .i64 u1) ∧ W.cell? ⟨g, (k + 1) * 2 + (p + 1) * 2 + 1, none⟩ = some (.int .i64 u2) ∧ W.cell? ⟨g, (k + 1) * 2 + p * 2, none⟩ = some (.int .i64 v1) ∧ W.cell? ⟨g, (k + 1) * 2 + p * 2 + 1, none⟩ = some (.int .i64 v2)) (by kernel_rfl) HS9.out (fun hHeld => ?_)
                    refine wpAnyH_take (i := 0) (oi := { dst := some 35, op := Op.move (Operand.tmp 4), type := 46, pos := "slices.go:379", after := #[], guard := none }) (v := ?vv31) rfl (by kernel_rfl) (by kernel_rfl) (by kernel_rfl) (fun _ _ _ h => h) ?hy31 (by assumption) ?rest31
                    case hy31 => (refine Or.inl ⟨by rfl, ?_⟩; intro W hSw; (try dsimp only at hSw); go_simp; (try with_reducible rfl))
                    try simp only [Act.put, List.setIfInBounds_toArray, List.set_cons_zero, List.set_cons_succ]
                    refine wpAnyH_take (i := 1) (oi := { dst := some 36, op := Op.move (Operand.tmp 5), type := 3, pos := "slices.go:379", after := #[], guard := none }) (v := ?vv32) rfl (by kernel_rfl) (by kernel_rfl) (by kernel_rfl) (fun _ _ _ h => h) ?hy32 (by assumption) ?rest32
                    case hy32 => (refine Or.inl ⟨by rfl, ?_⟩; intro W hSw; (try dsimp only at hSw); go_simp; (try with_reducible rfl))
                    try simp only [Act.put, List.setIfInBounds_toArray, List.set_cons_zero, List.set_cons_succ]
                    refine wpAnyH_take (i := 2) (oi := { dst := some 37, op := Op.indexAddr 46 (Operand.tmp 35) (Operand.tmp 36), type := 0, pos := "slices.go:379", after := #[{ on := 0, ground := Ground.data }, { on := 1, ground := Ground.data }], guard := none }) (v := (.pointer (some ⟨g, (k + 1) * 2 + (p + 1) * 2, none⟩))) rfl (by kernel_rfl) (by kernel_rfl) (by kernel_rfl) (fun _ _ _ h => h) ?hy33 (by assumption) ?rest33
                    case hy33 => ((refine Or.inl ⟨by rfl, ?_⟩; intro W hSw; (try dsimp only at hSw); go_simp; (first | done | with_reducible rfl | (rw [if_pos (by omega)]; done) | omega | simp_all)))
                    try simp only [Act.put, List.setIfInBounds_toArray, List.set_cons_zero, List.set_cons_succ]
                    refine wpAnyH_take (i := 3) (oi := { dst := some 38, op := Op.load 49 (Operand.tmp 37), type := 49, pos := "slices.go:379", after := #[{ on := 2, ground := Ground.data }], guard := none }) (v := ?vv34) rfl (by kernel_rfl) (by kernel_rfl) (by kernel_rfl) (fun _ _ _ h => h) ?hy34 (by assumption) ?rest34
                    case hy34 => (refine Or.inl ⟨by rfl, ?_⟩; intro W hSw; (try dsimp only at hSw); go_simp; (try with_reducible rfl))
                    try simp only [Act.put, List.setIfInBounds_toArray, List.set_cons_zero, List.set_cons_succ]
                    refine wpAnyH_take (i := 4) (oi := { dst := some 39, op := Op.move (Operand.tmp 4), type := 46, pos := "slices.go:379", after := #[], guard := none }) (v := ?vv35) rfl (by kernel_rfl) (by kernel_rfl) (by kernel_rfl) (fun _ _ _ h => h) ?hy35 (by assumption) ?rest35
                    case hy35 => (refine Or.inl ⟨by rfl, ?_⟩; intro W hSw; (try dsimp only at hSw); go_simp; (try with_reducible rfl))
                    try simp only [Act.put, List.setIfInBounds_toArray, List.set_cons_zero, List.set_cons_succ]
                    refine wpAnyH_take (i := 5) (oi := { dst := some 40, op := Op.move (Operand.tmp 5), type := 3, pos := "slices.go:379", after := #[], guard := none }) (v := ?vv36) rfl (by kernel_rfl) (by kernel_rfl) (by kernel_rfl) (fun _ _ _ h => h) ?hy36 (by assumption) ?rest36
                    case hy36 => (refine Or.inl ⟨by rfl, ?_⟩; intro W hSw; (try dsimp only at hSw); go_simp; (try with_reducible rfl))
                    try simp only [Act.put, List.setIfInBounds_toArray, List.set_cons_zero, List.set_cons_succ]
                    refine wpAnyH_take (i := 6) (oi := { dst := some 41, op := Op.binOp BinOp.sub 3 (Operand.tmp 40) (Operand.const (Value.int IntKind.i64 1)) 3, type := 3, pos := "slices.go:379", after := #[{ on := 5, ground := Ground.data }], guard := none }) (v := (.int .i64 (p : Int))) rfl (by kernel_rfl) (by kernel_rfl) (by kernel_rfl) (fun _ _ _ h => h) ?hy37 (by assumption) ?rest37
                    case hy37 => ((refine Or.inl ⟨by rfl, ?_⟩; intro W hSw; (try dsimp only at hSw); go_simp; (first | done | with_reducible rfl | omega | exact IntWalk.i64_in _ (by omega) | simp_all)))
                    try simp only [Act.put, List.setIfInBounds_toArray, List.set_cons_zero, List.set_cons_succ]
                    refine wpAnyH_take (i := 7) (oi := { dst := some 42, op := Op.indexAddr 46 (Operand.tmp 39) (Operand.tmp 41), type := 0, pos := "slices.go:379", after := #[{ on := 4, ground := Ground.data }, { on := 6, ground := Ground.data }], guard := none }) (v := (.pointer (some ⟨g, (k + 1) * 2 + p * 2, none⟩))) rfl (by kernel_rfl) (by kernel_rfl) (by kernel_rfl) (fun _ _ _ h => h) ?hy38 (by assumption) ?rest38
                    case hy38 => ((refine Or.inl ⟨by rfl, ?_⟩; intro W hSw; (try dsimp only at hSw); go_simp; (first | done | with_reducible rfl | (rw [if_pos (by omega)]; done) | omega | simp_all)))
                    try simp only [Act.put, List.setIfInBounds_toArray, List.set_cons_zero, List.set_cons_succ]
                    refine wpAnyH_take (i := 8) (oi := { dst := some 43, op := Op.load 49 (Operand.tmp 42), type := 49, pos := "slices.go:379", after := #[{ on := 7, ground := Ground.data }], guard := none }) (v := ?vv39) rfl (by kernel_rfl) (by kernel_rfl) (by kernel_rfl) (fun _ _ _ h => h) ?hy39 (by assumption) ?rest39
                    case hy39 => (refine Or.inl ⟨by rfl, ?_⟩; intro W hSw; (try dsimp only at hSw); go_simp; (try with_reducible rfl))
                    try simp only [Act.put, List.setIfInBounds_toArray, List.set_cons_zero, List.set_cons_succ]
                    refine wpAnyH_take (i := 9) (oi := { dst := some 44, op := Op.binOp BinOp.neq 49 (Operand.tmp 38) (Operand.tmp 43) 49, type := 4, pos := "slices.go:379", after := #[{ on := 3, ground := Ground.data }, { on := 8, ground := Ground.data }], guard := none }) (v := (.bool true)) rfl (by kernel_rfl) (by kernel_rfl) (by kernel_rfl) (fun _ _ _ h => h) ?hy40 (by assumption) ?rest40
                    case hy40 => ((refine Or.inl ⟨by rfl, ?_⟩; intro W hSw; (try dsimp only at hSw); go_simp; (first | done | with_reducible rfl | omega | exact IntWalk.i64_in _ (by omega) | simp_all)))
                    try simp only [Act.put, List.setIfInBounds_toArray, List.set_cons_zero, List.set_cons_succ]
                    refine wpAnyH_done (by kernel_rfl) ?_ _
                    clear hHeld HS9
                    go_wp2_with fail
                    go_roundw
                    case rel => exact ⟨i + 1, p + 1, M.set i (u1, u2), by go_num, by go_num, HST2.out, HRM2.out, HTM2.out⟩
                    case measure => have := HLT2.out; simp [intOf]; omega
                · have hpe : k + p + 2 = E.length := by have := HNN.out; omega
                  have hn : ¬ (p : Int) + 1 < (N2 : Int) := by omega
                  have hfr := hD.front
                  rw [hpe, dd_all] at hfr
                  have hli : (Lib.compact E).length = i := by rw [← hfr, List.length_take, hD.len]; omega
                  obtain ⟨zs, hzl, hclr⟩ := clear_eds (W := wj) (g := g) (p := i * 2) (c := c - i) (n := E.length - i) 0 (by omega) (fun n hn5 => by
                    have h9 := hrm.le
                    rw [edC_len, hD.len] at h9
                    exact hrm.there (i * 2 + n) (by omega))
                  have hfin := hrm.cutE (i := i) (by rw [hD.len]; omega) zs (by rw [hD.len]; exact hzl)
                  rw [hfr] at hfin
                  have hTk := TouchA.setCells wj g 0 (c * 2) (i * 2) zs (by omega) (by have h9 := hrm.le; rw [edC_len, hD.len] at h9; rw [hzl]; omega)
                  have HC : Hid (CompQ w (some ⟨g, 0, none⟩) E.length c E (.returned (.slice (some ⟨g, 0, none⟩) i c)) (wj.setCells g (i * 2) zs)) := Lib.hid (by
                    refine ⟨some ⟨g, 0, none⟩, c, by rw [hli], ?_, fun q hq => hq, (htm.trans hTk.touch (fun _ _ e => e)).mono (fun q _ e => by rw [e]; rfl)⟩
                    rw [hli]
                    exact .inr ⟨g, c, rfl, by rw [edC_len, hli], by have := HN.out; omega, hfin⟩)
                  have hiI : (i : Int) ≤ (E.length : Int) := by omega
                  have hcI2 : (c = i) = False := eq_false (by have := HN.out; omega)
                  have hciI : (i : Int) ≤ (c : Int) := by omega
                  clear hD hrm htm hil hqe hlt2 hpe hfr hli hzl hfin hTk
                  go_wp2_with fail
                  refine bodyPost_ret (v := .slice (some ⟨g, 0, none⟩) i c) (by simp [results, Tryz.results46, go_sem]) rfl HC.out
            · have hb2 : (x2 == y2) = false := by simpa using e2
              subst e1
              have HST : Hid (dd E (k + 2) = E.take (k + 2)) := Lib.hid (by
                rw [dd_step HX.out HY.out, if_neg (fun e => e2 (by injection e)), HDD.out, List.take_succ_eq_append_getElem HLT.out]
                congr 1
                rw [(List.getElem?_eq_some_iff.1 HX.out).2])
              go_wp2_with fail
              refine wp_region_held_drew (S := fun W => W.cell? ⟨g, (k + 1) * 2, none⟩ = some (.int .i64 x1) ∧ W.cell? ⟨g, (k + 1) * 2 + 1, none⟩ = some (.int .i64 x2) ∧ W.cell? ⟨g, k * 2, none⟩ = some (.int .i64 x1) ∧ W.cell? ⟨g, k * 2 + 1, none⟩ = some (.int .i64 y2)) (by kernel_rfl) HS0.out (fun hHeld => ?_)
              refine wpAnyH_take (i := 0) (oi := { dst := some 16, op := Op.move (Operand.tmp 0), type := 46, pos := "slices.go:376", after := #[], guard := none }) (v := ?vv41) rfl (by kernel_rfl) (by kernel_rfl) (by kernel_rfl) (fun _ _ _ h => h) ?hy41 (by assumption) ?rest41
              case hy41 => (refine Or.inl ⟨by rfl, ?_⟩; intro W hSw; (try dsimp only at hSw); go_simp; (try with_reducible rfl))
              try simp only [Act.put, List.setIfInBounds_toArray, List.set_cons_zero, List.set_cons_succ]
              refine wpAnyH_take (i := 1) (oi := { dst := some 17, op := Op.move (Operand.tmp 3), type := 3, pos := "slices.go:376", after := #[], guard := none }) (v := ?vv42) rfl (by kernel_rfl) (by kernel_rfl) (by kernel_rfl) (fun _ _ _ h => h) ?hy42 (by assumption) ?rest42
              case hy42 => (refine Or.inl ⟨by rfl, ?_⟩; intro W hSw; (try dsimp only at hSw); go_simp; (try with_reducible rfl))
              try simp only [Act.put, List.setIfInBounds_toArray, List.set_cons_zero, List.set_cons_succ]
              refine wpAnyH_take (i := 2) (oi := { dst := some 18, op := Op.indexAddr 46 (Operand.tmp 16) (Operand.tmp 17), type := 0, pos := "slices.go:376", after := #[{ on := 0, ground := Ground.data }, { on := 1, ground := Ground.data }], guard := none }) (v := (.pointer (some ⟨g, (k + 1) * 2, none⟩))) rfl (by kernel_rfl) (by kernel_rfl) (by kernel_rfl) (fun _ _ _ h => h) ?hy43 (by assumption) ?rest43
              case hy43 => ((refine Or.inl ⟨by rfl, ?_⟩; intro W hSw; (try dsimp only at hSw); go_simp; (first | done | with_reducible rfl | (rw [if_pos (by omega)]; done) | omega | simp_all)))
              try simp only [Act.put, List.setIfInBounds_toArray, List.set_cons_zero, List.set_cons_succ]
              refine wpAnyH_take (i := 3) (oi := { dst := some 19, op := Op.load 49 (Operand.tmp 18), type := 49, pos := "slices.go:376", after := #[{ on := 2, ground := Ground.data }], guard := none }) (v := ?vv44) rfl (by kernel_rfl) (by kernel_rfl) (by kernel_rfl) (fun _ _ _ h => h) ?hy44 (by assumption) ?rest44
              case hy44 => (refine Or.inl ⟨by rfl, ?_⟩; intro W hSw; (try dsimp only at hSw); go_simp; (try with_reducible rfl))
              try simp only [Act.put, List.setIfInBounds_toArray, List.set_cons_zero, List.set_cons_succ]
              refine wpAnyH_take (i := 4) (oi := { dst := some 20, op := Op.move (Operand.tmp 0), type := 46, pos := "slices.go:376", after := #[], guard := none }) (v := ?vv45) rfl (by kernel_rfl) (by kernel_rfl) (by kernel_rfl) (fun _ _ _ h => h) ?hy45 (by assumption) ?rest45
              case hy45 => (refine Or.inl ⟨by rfl, ?_⟩; intro W hSw; (try dsimp only at hSw); go_simp; (try with_reducible rfl))
              try simp only [Act.put, List.setIfInBounds_toArray, List.set_cons_zero, List.set_cons_succ]
              refine wpAnyH_take (i := 5) (oi := { dst := some 21, op := Op.move (Operand.tmp 3), type := 3, pos := "slices.go:376", after := #[], guard := none }) (v := ?vv46) rfl (by kernel_rfl) (by kernel_rfl) (by kernel_rfl) (fun _ _ _ h => h) ?hy46 (by assumption) ?rest46
              case hy46 => (refine Or.inl ⟨by rfl, ?_⟩; intro W hSw; (try dsimp only at hSw); go_simp; (try with_reducible rfl))
              try simp only [Act.put, List.setIfInBounds_toArray, List.set_cons_zero, List.set_cons_succ]
              refine wpAnyH_take (i := 6) (oi := { dst := some 22, op := Op.binOp BinOp.sub 3 (Operand.tmp 21) (Operand.const (Value.int IntKind.i64 1)) 3, type := 3, pos := "slices.go:376", after := #[{ on := 5, ground := Ground.data }], guard := none }) (v := (.int .i64 (k : Int))) rfl (by kernel_rfl) (by kernel_rfl) (by kernel_rfl) (fun _ _ _ h => h) ?hy47 (by assumption) ?rest47
              case hy47 => ((refine Or.inl ⟨by rfl, ?_⟩; intro W hSw; (try dsimp only at hSw); go_simp; (first | done | with_reducible rfl | omega | exact IntWalk.i64_in _ (by omega) | simp_all)))
              try simp only [Act.put, List.setIfInBounds_toArray, List.set_cons_zero, List.set_cons_succ]
              refine wpAnyH_take (i := 7) (oi := { dst := some 23, op := Op.indexAddr 46 (Operand.tmp 20) (Operand.tmp 22), type := 0, pos := "slices.go:376", after := #[{ on := 4, ground := Ground.data }, { on := 6, ground := Ground.data }], guard := none }) (v := (.pointer (some ⟨g, k * 2, none⟩))) rfl (by kernel_rfl) (by kernel_rfl) (by kernel_rfl) (fun _ _ _ h => h) ?hy48 (by assumption) ?rest48
              case hy48 => ((refine Or.inl ⟨by rfl, ?_⟩; intro W hSw; (try dsimp only at hSw); go_simp; (first | done | with_reducible rfl | (rw [if_pos (by omega)]; done) | omega | simp_all)))
              try simp only [Act.put, List.setIfInBounds_toArray, List.set_cons_zero, List.set_cons_succ]
              refine wpAnyH_take (i := 8) (oi := { dst := some 24, op := Op.load 49 (Operand.tmp 23), type := 49, pos := "slices.go:376", after := #[{ on := 7, ground := Ground.data }], guard := none }) (v := ?vv49) rfl (by kernel_rfl) (by kernel_rfl) (by kernel_rfl) (fun _ _ _ h => h) ?hy49 (by assumption) ?rest49
              case hy49 => (refine Or.inl ⟨by rfl, ?_⟩; intro W hSw; (try dsimp only at hSw); go_simp; (try with_reducible rfl))
              try simp only [Act.put, List.setIfInBounds_toArray, List.set_cons_zero, List.set_cons_succ]
              refine wpAnyH_take (i := 9) (oi := { dst := some 25, op := Op.binOp BinOp.eql 49 (Operand.tmp 19) (Operand.tmp 24) 49, type := 4, pos := "slices.go:376", after := #[{ on := 3, ground := Ground.data }, { on := 8, ground := Ground.data }], guard := none }) (v := (.bool false)) rfl (by kernel_rfl) (by kernel_rfl) (by kernel_rfl) (fun _ _ _ h => h) ?hy50 (by assumption) ?rest50
              case hy50 => ((refine Or.inl ⟨by rfl, ?_⟩; intro W hSw; (try dsimp only at hSw); go_simp; (first | done | with_reducible rfl | omega | exact IntWalk.i64_in _ (by omega) | simp_all)))
              try simp only [Act.put, List.setIfInBounds_toArray, List.set_cons_zero, List.set_cons_succ]
              refine wpAnyH_done (by kernel_rfl) ?_ _
              clear hHeld HS0
              go_wp2_with fail
              go_roundw
              case rel => exact ⟨k + 1, HLT.out, by go_num, HRW.out.keep (w' := wo.drew) (Nat.le_refl _) rfl, below_drew HBW.out, HST.out⟩
              case measure => have := HLT.out; simp [intOf]; omega
          · have hb1 : (x1 == y1) = false := by simpa using e1
            have HST : Hid (dd E (k + 2) = E.take (k + 2)) := Lib.hid (by
              rw [dd_step HX.out HY.out, if_neg (fun e => e1 (by injection e)), HDD.out, List.take_succ_eq_append_getElem HLT.out]
              congr 1
              rw [(List.getElem?_eq_some_iff.1 HX.out).2])
            go_wp2_with fail
            refine wp_region_held_drew (S := fun W => W.cell? ⟨g, (k + 1) * 2, none⟩ = some (.int .i64 x1) ∧ W.cell? ⟨g, (k + 1) * 2 + 1, none⟩ = some (.int .i64 x2) ∧ W.cell? ⟨g, k * 2, none⟩ = some (.int .i64 y1) ∧ W.cell? ⟨g, k * 2 + 1, none⟩ = some (.int .i64 y2)) (by kernel_rfl) HS0.out (fun hHeld => ?_)
            refine wpAnyH_take (i := 0) (oi := { dst := some 16, op := Op.move (Operand.tmp 0), type := 46, pos := "slices.go:376", after := #[], guard := none }) (v := ?vv51) rfl (by kernel_rfl) (by kernel_rfl) (by kernel_rfl) (fun _ _ _ h => h) ?hy51 (by assumption) ?rest51
            case hy51 => (refine Or.inl ⟨by rfl, ?_⟩; intro W hSw; (try dsimp only at hSw); go_simp; (try with_reducible rfl))
            try simp only [Act.put, List.setIfInBounds_toArray, List.set_cons_zero, List.set_cons_succ]
            refine wpAnyH_take (i := 1) (oi := { dst := some 17, op := Op.move (Operand.tmp 3), type := 3, pos := "slices.go:376", after := #[], guard := none }) (v := ?vv52) rfl (by kernel_rfl) (by kernel_rfl) (by kernel_rfl) (fun _ _ _ h => h) ?hy52 (by assumption) ?rest52
            case hy52 => (refine Or.inl ⟨by rfl, ?_⟩; intro W hSw; (try dsimp only at hSw); go_simp; (try with_reducible rfl))
            try simp only [Act.put, List.setIfInBounds_toArray, List.set_cons_zero, List.set_cons_succ]
            refine wpAnyH_take (i := 2) (oi := { dst := some 18, op := Op.indexAddr 46 (Operand.tmp 16) (Operand.tmp 17), type := 0, pos := "slices.go:376", after := #[{ on := 0, ground := Ground.data }, { on := 1, ground := Ground.data }], guard := none }) (v := (.pointer (some ⟨g, (k + 1) * 2, none⟩))) rfl (by kernel_rfl) (by kernel_rfl) (by kernel_rfl) (fun _ _ _ h => h) ?hy53 (by assumption) ?rest53
            case hy53 => ((refine Or.inl ⟨by rfl, ?_⟩; intro W hSw; (try dsimp only at hSw); go_simp; (first | done | with_reducible rfl | (rw [if_pos (by omega)]; done) | omega | simp_all)))
            try simp only [Act.put, List.setIfInBounds_toArray, List.set_cons_zero, List.set_cons_succ]
            refine wpAnyH_take (i := 3) (oi := { dst := some 19, op := Op.load 49 (Operand.tmp 18), type := 49, pos := "slices.go:376", after := #[{ on := 2, ground := Ground.data }], guard := none }) (v := ?vv54) rfl (by kernel_rfl) (by kernel_rfl) (by kernel_rfl) (fun _ _ _ h => h) ?hy54 (by assumption) ?rest54
            case hy54 => (refine Or.inl ⟨by rfl, ?_⟩; intro W hSw; (try dsimp only at hSw); go_simp; (try with_reducible rfl))
            try simp only [Act.put, List.setIfInBounds_toArray, List.set_cons_zero, List.set_cons_succ]
            refine wpAnyH_take (i := 4) (oi := { dst := some 20, op := Op.move (Operand.tmp 0), type := 46, pos := "slices.go:376", after := #[], guard := none }) (v := ?vv55) rfl (by kernel_rfl) (by kernel_rfl) (by kernel_rfl) (fun _ _ _ h => h) ?hy55 (by assumption) ?rest55
            case hy55 => (refine Or.inl ⟨by rfl, ?_⟩; intro W hSw; (try dsimp only at hSw); go_simp; (try with_reducible rfl))
            try simp only [Act.put, List.setIfInBounds_toArray, List.set_cons_zero, List.set_cons_succ]
            refine wpAnyH_take (i := 5) (oi := { dst := some 21, op := Op.move (Operand.tmp 3), type := 3, pos := "slices.go:376", after := #[], guard := none }) (v := ?vv56) rfl (by kernel_rfl) (by kernel_rfl) (by kernel_rfl) (fun _ _ _ h => h) ?hy56 (by assumption) ?rest56
            case hy56 => (refine Or.inl ⟨by rfl, ?_⟩; intro W hSw; (try dsimp only at hSw); go_simp; (try with_reducible rfl))
            try simp only [Act.put, List.setIfInBounds_toArray, List.set_cons_zero, List.set_cons_succ]
            refine wpAnyH_take (i := 6) (oi := { dst := some 22, op := Op.binOp BinOp.sub 3 (Operand.tmp 21) (Operand.const (Value.int IntKind.i64 1)) 3, type := 3, pos := "slices.go:376", after := #[{ on := 5, ground := Ground.data }], guard := none }) (v := (.int .i64 (k : Int))) rfl (by kernel_rfl) (by kernel_rfl) (by kernel_rfl) (fun _ _ _ h => h) ?hy57 (by assumption) ?rest57
            case hy57 => ((refine Or.inl ⟨by rfl, ?_⟩; intro W hSw; (try dsimp only at hSw); go_simp; (first | done | with_reducible rfl | omega | exact IntWalk.i64_in _ (by omega) | simp_all)))
            try simp only [Act.put, List.setIfInBounds_toArray, List.set_cons_zero, List.set_cons_succ]
            refine wpAnyH_take (i := 7) (oi := { dst := some 23, op := Op.indexAddr 46 (Operand.tmp 20) (Operand.tmp 22), type := 0, pos := "slices.go:376", after := #[{ on := 4, ground := Ground.data }, { on := 6, ground := Ground.data }], guard := none }) (v := (.pointer (some ⟨g, k * 2, none⟩))) rfl (by kernel_rfl) (by kernel_rfl) (by kernel_rfl) (fun _ _ _ h => h) ?hy58 (by assumption) ?rest58
            case hy58 => ((refine Or.inl ⟨by rfl, ?_⟩; intro W hSw; (try dsimp only at hSw); go_simp; (first | done | with_reducible rfl | (rw [if_pos (by omega)]; done) | omega | simp_all)))
            try simp only [Act.put, List.setIfInBounds_toArray, List.set_cons_zero, List.set_cons_succ]
            refine wpAnyH_take (i := 8) (oi := { dst := some 24, op := Op.load 49 (Operand.tmp 23), type := 49, pos := "slices.go:376", after := #[{ on := 7, ground := Ground.data }], guard := none }) (v := ?vv59) rfl (by kernel_rfl) (by kernel_rfl) (by kernel_rfl) (fun _ _ _ h => h) ?hy59 (by assumption) ?rest59
            case hy59 => (refine Or.inl ⟨by rfl, ?_⟩; intro W hSw; (try dsimp only at hSw); go_simp; (try with_reducible rfl))
            try simp only [Act.put, List.setIfInBounds_toArray, List.set_cons_zero, List.set_cons_succ]
            refine wpAnyH_take (i := 9) (oi := { dst := some 25, op := Op.binOp BinOp.eql 49 (Operand.tmp 19) (Operand.tmp 24) 49, type := 4, pos := "slices.go:376", after := #[{ on := 3, ground := Ground.data }, { on := 8, ground := Ground.data }], guard := none }) (v := (.bool false)) rfl (by kernel_rfl) (by kernel_rfl) (by kernel_rfl) (fun _ _ _ h => h) ?hy60 (by assumption) ?rest60
            case hy60 => ((refine Or.inl ⟨by rfl, ?_⟩; intro W hSw; (try dsimp only at hSw); go_simp; (first | done | with_reducible rfl | omega | exact IntWalk.i64_in _ (by omega) | simp_all)))
            try simp only [Act.put, List.setIfInBounds_toArray, List.set_cons_zero, List.set_cons_succ]
            refine wpAnyH_done (by kernel_rfl) ?_ _
            clear hHeld HS0
            go_wp2_with fail
            go_roundw
            case rel => exact ⟨k + 1, HLT.out, by go_num, HRW.out.keep (w' := wo.drew) (Nat.le_refl _) rfl, below_drew HBW.out, HST.out⟩
            case measure => have := HLT.out; simp [intOf]; omega
        · have hke : k + 1 = E.length := by omega
          have HC : Hid (CompQ w (some ⟨g, 0, none⟩) E.length c E (.returned (.slice (some ⟨g, 0, none⟩) E.length c)) wo) := Lib.hid (by
            have hc : Lib.compact E = E := by rw [← dd_all, ← hke, hdd, List.take_of_length_le (by omega)]
            unfold CompQ
            rw [hc]
            exact ⟨_, c, rfl, .inr ⟨g, c, rfl, edC_len E, HN.out, hrw⟩, fun g hg => hg, .of_below hbw⟩)
          have hn : ¬ (k : Int) + 1 < (E.length : Int) := by omega
          clear hk hrw hbw hdd hlt hke
          go_wp2_with fail
          refine bodyPost_ret (v := .slice (some ⟨g, 0, none⟩) E.length c) (by simp [results, Tryz.results46, go_sem]) rfl HC.out
end Go.Proofs.YtmchmlkbpocboaaGreatDoor
