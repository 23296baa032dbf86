/- order: the range over neighbours. -/
import Derived.Test.YtlbhpeeggbfcpaaZOrdN
import Derived.Test.YtlbhpeeggbfcpaaZWib
import Derived.RangeFuncFrom
import Derived.RangeFuncWrites
set_option linter.unusedSimpArgs false
set_option linter.unusedVariables false
set_option linter.unnecessarySimpa false
namespace Go.Proofs.Ytlbhpeeggbfcpaa
open Go.RowKit Go.Shelf
attribute [local go_sem] Oper.semAt_some

theorem adj_snoc : ∀ (A : List Tk) (x y : Tk), adjL (A ++ [x, y]) = adjL (A ++ [x]) ++ if x.site = y.site then [(x, y)] else []
  | [], x, y => by
    show (if x.site = y.site then [(x, y)] else []) ++ adjL [y] = adjL [x] ++ _
    rw [show adjL [y] = [] from rfl, show adjL [x] = [] from rfl, List.append_nil, List.nil_append]
  | [a], x, y => by
    show (if a.site = x.site then [(a, x)] else []) ++ adjL [x, y] = ((if a.site = x.site then [(a, x)] else []) ++ adjL [x]) ++ _
    rw [List.append_assoc]
    congr 1
    show (if x.site = y.site then [(x, y)] else []) ++ adjL [y] = adjL [x] ++ _
    rw [show adjL [y] = [] from rfl, show adjL [x] = [] from rfl, List.append_nil, List.nil_append]
  | a :: b :: A, x, y => by
    show (if a.site = b.site then [(a, b)] else []) ++ adjL (b :: A ++ [x, y]) = ((if a.site = b.site then [(a, b)] else []) ++ adjL (b :: A ++ [x])) ++ _
    rw [adj_snoc (b :: A) x y, List.append_assoc]
theorem adj_take {S : List Tk} {i : Nat} {x y : Tk} (hx : S[i]? = some x) (hy : S[i + 1]? = some y) : adjL (S.take (i + 2)) = adjL (S.take (i + 1)) ++ if x.site = y.site then [(x, y)] else [] := by
  rw [show i + 2 = i + 1 + 1 from rfl, List.take_add_one (i := i + 1), hy, List.take_add_one, hx, List.append_assoc]
  exact adj_snoc (S.take i) x y
theorem adj_pre (S : List Tk) : ∀ i, ∃ R, adjL S = adjL (S.take i) ++ R := by
  intro i
  have : ∀ n i, n = S.length - i → ∃ R, adjL S = adjL (S.take i) ++ R := by
    intro n
    induction n with
    | zero => intro i h; exact ⟨[], by rw [List.take_of_length_le (by omega), List.append_nil]⟩
    | succ n ih =>
      intro i h
      obtain ⟨R, hR⟩ := ih (i + 1) (by omega)
      cases i with
      | zero => exact ⟨adjL S, by rw [List.take_zero]; rfl⟩
      | succ i =>
        have hx : S[i]? = some S[i] := List.getElem?_eq_getElem (by omega)
        have hy : S[i + 1]? = some S[i + 1] := List.getElem?_eq_getElem (by omega)
        rw [adj_take hx hy, List.append_assoc] at hR
        exact ⟨_, hR⟩
  exact this _ i rfl
theorem adj_get {S : List Tk} {i : Nat} {x y : Tk} (hx : S[i]? = some x) (hy : S[i + 1]? = some y) (he : x.site = y.site) : (adjL S)[(adjL (S.take (i + 1))).length]? = some (x, y) := by
  obtain ⟨R, hR⟩ := adj_pre S (i + 2)
  rw [hR, adj_take hx hy, if_pos he, List.append_assoc, List.getElem?_append_right (Nat.le_refl _), Nat.sub_self]
  rfl
/-- The rounds. -/
abbrev RndT (S : List Tk) := { j : Nat // j < (adjL S).length }
def pr0 : Tk × Tk := (⟨0, 0, 0⟩, ⟨0, 0, 0⟩)
def rndP (S : List Tk) (j : Nat) : Tk × Tk := ((adjL S)[j]?).getD pr0
def aggT (x : Tk) : Value := .agg #[.int .i64 x.g, .int .i64 x.site, .int .i64 x.n]
def rndT (S : List Tk) (x : RndT S) : Array Value := #[aggT (rndP S x.1).1, aggT (rndP S x.1).2]
theorem rndP_at {S : List Tk} {j : Nat} (hj : j < (adjL S).length) : (adjL S)[j]? = some (rndP S j) := by
  unfold rndP
  rw [List.getElem?_eq_getElem hj]
  rfl
set_option maxRecDepth 100000 in
set_option maxHeartbeats 2000000 in
theorem near_in (n : Nat) (hn : 1 ≤ n) (l Bs : Nat) (A : Option Addr) (cap : Nat) (S : List Tk) (hlen : S.length ≤ 1000) (J Jx : List (RndT S) → World → Prop) (hJd : ∀ s W, J s W → J s W.drew)
    (hY : ∀ pre x W, J pre W → pre.length < (adjL S).length → YieldAt Fence.wide (n - 1) Try.prog l (rndT S x) W fun e W' =>
      (e = .returned (.bool true) ∧ J (pre ++ [x]) W' ∧ KpB Bs (.slice A S.length cap) W W') ∨ (e = .returned (.bool false) ∧ Jx (pre ++ [x]) W'))
    (W : World) (hBs : W.cell? ⟨Bs, 0, none⟩ = some (.slice A S.length cap)) (hv : RowIs W 3 (.slice A S.length cap) S.length (tkC S)) (h0 : J [] W) :
    CallsIn Fence.wide n Try.prog 53 #[.func (.yield l) #[] #[], .pointer (some ⟨Bs, 0, none⟩)] W fun e W' => (∃ v, e = .returned v) ∧
      ((∃ ys, ys.map (·.1) = List.range (adjL S).length ∧ J ys W') ∨ (∃ pre, (∃ k, k ≤ (adjL S).length ∧ pre.map (·.1) = List.range k) ∧ Jx pre W')) := by
  obtain ⟨_, _, e', hc1, hc2, _, hcA, hcc⟩ := hv.form
  injection e' with e1 _ e3
  subst e1 e3
  unfold maxLen at hc2
  have hlI : (S.length : Int) ≤ 1000 := by omega
  refine callsIn_of_wp Try.func53 rfl trivial ?_ rfl
  simp only [Try.ntmps53, List.size_toArray, List.length_cons, List.length_nil, Nat.reduceAdd, Nat.reduceSub, Array.replicate_succ, Array.replicate_zero, List.push_toArray, List.append_toArray, List.nil_append, List.cons_append]
  gi_wp2
  gi_loopw [3] (fun i wr => ∃ (r : Nat) (pre : List (RndT S)), 1 ≤ r ∧ r ≤ S.length + 1 ∧ i = .int .i64 (r : Int) ∧ pre.map (·.1) = List.range (adjL (S.take r)).length ∧ J pre wr ∧ KpB Bs (.slice A S.length cap) W wr)
    (fun i _ => S.length + 1 - (intOf i).toNat)
  case atStart => exact ⟨1, [], Nat.le_refl _, by omega, rfl, by
    cases S with
    | nil => rfl
    | cons x S => rfl, h0, ⟨rfl, fun _ _ => rfl⟩⟩
  case round =>
    obtain ⟨r, pre, hr1, hr2, rfl, hpre, hJs, hk⟩ := hrel
    have hbs2 : wr.cell? ⟨Bs, 0, none⟩ = some (.slice A S.length cap) := (World.cell?_of_block (a := ⟨Bs, 0, none⟩) hk.1).trans hBs
    by_cases hlt : r < S.length
    · obtain ⟨q, hq⟩ : ∃ q, r = q + 1 := ⟨r - 1, by omega⟩
      have hx : S[q]? = some S[q] := List.getElem?_eq_getElem (by omega)
      have hy : S[r]? = some S[r] := List.getElem?_eq_getElem hlt
      generalize S[q] = x at hx
      generalize S[r] = y at hy
      obtain ⟨cx0, cx1, cx2⟩ := tkC_at hx
      obtain ⟨cy0, cy1, cy2⟩ := tkC_at hy
      obtain ⟨g, hA, k00⟩ := hcc _ _ cx0
      obtain ⟨g2, eg, hog⟩ := hcA _ hA
      have eg2 : g = g2 := by injection eg
      subst eg2
      subst hA
      have kk : ∀ (j : Nat) (u : Value), (tkC S)[j]? = some u → wr.cell? ⟨g, j, none⟩ = some u := fun j u hj => by
        obtain ⟨g', e, h⟩ := hcc j u hj
        injection e with e
        injection e with e
        subst e
        exact (World.cell?_of_block (a := ⟨g, j, none⟩) (hk.2 g hog)).trans h
      have x0 := kk _ _ cx0
      have x1 := kk _ _ cx1
      have x2 := kk _ _ cx2
      have y0 := kk _ _ cy0
      have y1 := kk _ _ cy1
      have y2 := kk _ _ cy2
      have e0 : (r : Int) - 1 = (q : Int) := by omega
      have hwq : IntKind.i64.wrap (q : Int) = (q : Int) := by simp [IntKind.wrap, IntKind.bits, IntKind.signed]; omega
      have hmx : Try.prog.follows .mixedOrders = true := by kernel_rfl
      have hi : (r : Int) < (S.length : Int) := by omega
      have hi1 : (q : Int) < (S.length : Int) := by omega
      have HK := Lib.hid hk
      have HQ := Lib.hid hq
      have HR2 : Hid (r + 1 ≤ S.length + 1) := Lib.hid (by omega)
      by_cases he : x.site = y.site
      · have HAG : Hid ((adjL S)[(adjL (S.take r)).length]? = some (x, y)) := Lib.hid (by subst hq; exact adj_get hx hy he)
        have HP : Hid (adjL (S.take (r + 1)) = adjL (S.take r) ++ [(x, y)]) := Lib.hid (by subst hq; rw [adj_take hx hy, if_pos he])
        rw [he] at x1
        obtain ⟨st, hst⟩ : ∃ st, st = y.site := ⟨_, rfl⟩
        rw [← hst] at x1 y1
        have HST := Lib.hid hst
        have HHE := Lib.hid he
        have HPRE := Lib.hid hpre
        have hb : (st == st) = true := beq_self_eq_true _
        have hal := (List.getElem?_eq_some_iff.1 HAG.out).1
        obtain ⟨z0, hz0⟩ : ∃ z0 : RndT S, z0.1 = (adjL (S.take r)).length := ⟨⟨_, hal⟩, rfl⟩
        have hres := hY pre z0 wr.drew (hJd _ _ hJs) (by
          have := congrArg List.length hpre
          rw [List.length_map, List.length_range] at this
          omega)
        have henc : rndT S z0 = #[.agg #[.int .i64 x.g, .int .i64 st, .int .i64 x.n], .agg #[.int .i64 y.g, .int .i64 st, .int .i64 y.n]] := by
          unfold rndT rndP aggT
          rw [hz0, HAG.out, hst]
          show #[Value.agg #[.int .i64 x.g, .int .i64 x.site, .int .i64 x.n], _] = _
          rw [he]
          rfl
        rw [henc] at hres
        obtain ⟨fn, tmps, assign, body, hyr, hR⟩ := hres
        have HPP : Hid ((pre ++ [z0]).map (fun x => x.1) = List.range (adjL (S.take (r + 1))).length) := Lib.hid (by
          rw [List.map_append, hpre, List.map_cons, List.map_nil, hz0, HP.out, List.length_append, List.length_singleton, List.range_succ])
        have HSP : Hid (∃ k, k ≤ (adjL S).length ∧ (pre ++ [z0]).map (fun x => x.1) = List.range k) := Lib.hid ⟨(adjL (S.take (r + 1))).length, by
          rw [HP.out, List.length_append, List.length_singleton]; omega, HPP.out⟩
        have HR3 := Lib.hid (hR.mono (R' := fun e W' => ∃ b, e = .returned (.bool b) ∧ ((b = true ∧ J (pre ++ [z0]) W' ∧ KpB Bs (.slice (some ⟨g, 0, none⟩) S.length cap) W W') ∨ (b = false ∧ Jx (pre ++ [z0]) W'))) (fun e W' h => by
          rcases h with ⟨rfl, h1, h2⟩ | ⟨rfl, h1⟩
          · exact ⟨true, rfl, .inl ⟨rfl, h1, hk.trans (KpB.trans (⟨rfl, fun _ _ => rfl⟩ : KpB Bs _ wr wr.drew) h2)⟩⟩
          · exact ⟨false, rfl, .inr ⟨rfl, h1⟩⟩))
        clear henc hz0 hal hR
        clear hpre hx hy cx0 cx1 cx2 cy0 cy1 cy2 hk hcc hcA kk k00 hog eg he hst hq
        gi_wp2
        have hS0 : (fun V : World => V.cell? ⟨Bs, 0, none⟩ = some (.slice (some ⟨g, 0, none⟩) S.length cap) ∧ (V.cell? ⟨g, q * 3, none⟩ = some (.int .i64 x.g) ∧ V.cell? ⟨g, q * 3 + 1, none⟩ = some (.int .i64 st) ∧ V.cell? ⟨g, q * 3 + 2, none⟩ = some (.int .i64 x.n)) ∧ V.cell? ⟨g, r * 3, none⟩ = some (.int .i64 y.g) ∧ V.cell? ⟨g, r * 3 + 1, none⟩ = some (.int .i64 st) ∧ V.cell? ⟨g, r * 3 + 2, none⟩ = some (.int .i64 y.n)) wr.drew := ⟨hbs2, ⟨x0, x1, x2⟩, y0, y1, y2⟩
        refine wpIn_region_L (d := 23) (S := fun V : World => V.cell? ⟨Bs, 0, none⟩ = some (.slice (some ⟨g, 0, none⟩) S.length cap) ∧ (V.cell? ⟨g, q * 3, none⟩ = some (.int .i64 x.g) ∧ V.cell? ⟨g, q * 3 + 1, none⟩ = some (.int .i64 st) ∧ V.cell? ⟨g, q * 3 + 2, none⟩ = some (.int .i64 x.n)) ∧ V.cell? ⟨g, r * 3, none⟩ = some (.int .i64 y.g) ∧ V.cell? ⟨g, r * 3 + 1, none⟩ = some (.int .i64 st) ∧ V.cell? ⟨g, r * 3 + 2, none⟩ = some (.int .i64 y.n)) hmx ?_
        clear x0 x1 x2 y0 y1 y2 hbs2
        refine wpAnyL_take (i := 0) (v := ?v1) 26 rfl rfl (by kernel_rfl) (by kernel_rfl) (by kernel_rfl) (by kernel_rfl) (by decide) (by kernel_rfl) (fun _ _ _ h => h) (fun _ => rfl) ?hz1 hS0 ?resz1
        case hz1 => refine Or.inl ⟨by rfl, ?_⟩; intro V hSw; (try dsimp only at hSw); go_simp; (try with_reducible rfl)
        try simp only [List.getElem_toArray, List.getElem_cons_succ, List.getElem_cons_zero, Act.put, List.setIfInBounds_toArray, List.set_cons_zero, List.set_cons_succ]
        refine wpAnyL_take (i := 1) (v := ?v2) 26 rfl rfl (by kernel_rfl) (by kernel_rfl) (by kernel_rfl) (by kernel_rfl) (by decide) (by kernel_rfl) (fun _ _ _ h => h) (fun _ => rfl) ?hz2 hS0 ?resz2
        case hz2 => refine Or.inl ⟨by rfl, ?_⟩; intro V hSw; (try dsimp only at hSw); go_simp; (try with_reducible rfl)
        try simp only [List.getElem_toArray, List.getElem_cons_succ, List.getElem_cons_zero, Act.put, List.setIfInBounds_toArray, List.set_cons_zero, List.set_cons_succ]
        refine wpAnyL_take (i := 2) (v := ?v3) 26 rfl rfl (by kernel_rfl) (by kernel_rfl) (by kernel_rfl) (by kernel_rfl) (by decide) (by kernel_rfl) (fun _ _ _ h => h) (fun _ => rfl) ?hz3 hS0 ?resz3
        case hz3 => refine Or.inl ⟨by rfl, ?_⟩; intro V hSw; (try dsimp only at hSw); go_simp; (try with_reducible rfl)
        try simp only [List.getElem_toArray, List.getElem_cons_succ, List.getElem_cons_zero, Act.put, List.setIfInBounds_toArray, List.set_cons_zero, List.set_cons_succ]
        refine wpAnyL_take (i := 3) (v := ?v4) 26 rfl rfl (by kernel_rfl) (by kernel_rfl) (by kernel_rfl) (by kernel_rfl) (by decide) (by kernel_rfl) (fun _ _ _ h => h) (fun _ => rfl) ?hz4 hS0 ?resz4
        case hz4 => refine Or.inl ⟨by rfl, ?_⟩; intro V hSw; (try dsimp only at hSw); go_simp; (try with_reducible rfl)
        try simp only [List.getElem_toArray, List.getElem_cons_succ, List.getElem_cons_zero, Act.put, List.setIfInBounds_toArray, List.set_cons_zero, List.set_cons_succ]
        refine wpAnyL_take (i := 4) (v := ?v5) 26 rfl rfl (by kernel_rfl) (by kernel_rfl) (by kernel_rfl) (by kernel_rfl) (by decide) (by kernel_rfl) (fun _ _ _ h => h) (fun _ => rfl) ?hz5 hS0 ?resz5
        case hz5 => refine Or.inl ⟨by rfl, ?_⟩; intro V hSw; (try dsimp only at hSw); go_simp; (try with_reducible rfl)
        try simp only [List.getElem_toArray, List.getElem_cons_succ, List.getElem_cons_zero, Act.put, List.setIfInBounds_toArray, List.set_cons_zero, List.set_cons_succ]
        refine wpAnyL_take (i := 5) (v := ?v6) 26 rfl rfl (by kernel_rfl) (by kernel_rfl) (by kernel_rfl) (by kernel_rfl) (by decide) (by kernel_rfl) (fun _ _ _ h => h) (fun _ => rfl) ?hz6 hS0 ?resz6
        case hz6 => refine Or.inl ⟨by rfl, ?_⟩; intro V hSw; (try dsimp only at hSw); go_simp; (try with_reducible rfl)
        try simp only [List.getElem_toArray, List.getElem_cons_succ, List.getElem_cons_zero, Act.put, List.setIfInBounds_toArray, List.set_cons_zero, List.set_cons_succ]
        refine wpAnyL_take (i := 6) (v := ?v7) 26 rfl rfl (by kernel_rfl) (by kernel_rfl) (by kernel_rfl) (by kernel_rfl) (by decide) (by kernel_rfl) (fun _ _ _ h => h) (fun _ => rfl) ?hz7 hS0 ?resz7
        case hz7 => refine Or.inl ⟨by rfl, ?_⟩; intro V hSw; (try dsimp only at hSw); go_simp; (try with_reducible rfl)
        try simp only [List.getElem_toArray, List.getElem_cons_succ, List.getElem_cons_zero, Act.put, List.setIfInBounds_toArray, List.set_cons_zero, List.set_cons_succ]
        refine wpAnyL_take (i := 7) (v := ?v8) 26 rfl rfl (by kernel_rfl) (by kernel_rfl) (by kernel_rfl) (by kernel_rfl) (by decide) (by kernel_rfl) (fun _ _ _ h => h) (fun _ => rfl) ?hz8 hS0 ?resz8
        case hz8 => refine Or.inl ⟨by rfl, ?_⟩; intro V hSw; (try dsimp only at hSw); go_simp; (try with_reducible rfl)
        try simp only [List.getElem_toArray, List.getElem_cons_succ, List.getElem_cons_zero, Act.put, List.setIfInBounds_toArray, List.set_cons_zero, List.set_cons_succ]
        refine wpAnyL_take (i := 8) (v := ?v9) 26 rfl rfl (by kernel_rfl) (by kernel_rfl) (by kernel_rfl) (by kernel_rfl) (by decide) (by kernel_rfl) (fun _ _ _ h => h) (fun _ => rfl) ?hz9 hS0 ?resz9
        case hz9 => refine Or.inl ⟨by rfl, ?_⟩; intro V hSw; (try dsimp only at hSw); go_simp; (try with_reducible rfl)
        try simp only [List.getElem_toArray, List.getElem_cons_succ, List.getElem_cons_zero, Act.put, List.setIfInBounds_toArray, List.set_cons_zero, List.set_cons_succ]
        refine wpAnyL_take (i := 9) (v := ?v10) 26 rfl rfl (by kernel_rfl) (by kernel_rfl) (by kernel_rfl) (by kernel_rfl) (by decide) (by kernel_rfl) (fun _ _ _ h => h) (fun _ => rfl) ?hz10 hS0 ?resz10
        case hz10 => refine Or.inl ⟨by rfl, ?_⟩; intro V hSw; (try dsimp only at hSw); go_simp; (try with_reducible rfl)
        try simp only [List.getElem_toArray, List.getElem_cons_succ, List.getElem_cons_zero, Act.put, List.setIfInBounds_toArray, List.set_cons_zero, List.set_cons_succ]
        refine wpAnyL_take (i := 10) (v := ?v11) 26 rfl rfl (by kernel_rfl) (by kernel_rfl) (by kernel_rfl) (by kernel_rfl) (by decide) (by kernel_rfl) (fun _ _ _ h => h) (fun _ => rfl) ?hz11 hS0 ?resz11
        case hz11 => refine Or.inl ⟨by rfl, ?_⟩; intro V hSw; (try dsimp only at hSw); go_simp; (try with_reducible rfl)
        try simp only [List.getElem_toArray, List.getElem_cons_succ, List.getElem_cons_zero, Act.put, List.setIfInBounds_toArray, List.set_cons_zero, List.set_cons_succ]
        refine wpAnyL_take (i := 11) (v := ?v12) 26 rfl rfl (by kernel_rfl) (by kernel_rfl) (by kernel_rfl) (by kernel_rfl) (by decide) (by kernel_rfl) (fun _ _ _ h => h) (fun _ => rfl) ?hz12 hS0 ?resz12
        case hz12 => refine Or.inl ⟨by rfl, ?_⟩; intro V hSw; (try dsimp only at hSw); go_simp; (try with_reducible rfl)
        try simp only [List.getElem_toArray, List.getElem_cons_succ, List.getElem_cons_zero, Act.put, List.setIfInBounds_toArray, List.set_cons_zero, List.set_cons_succ]
        refine wpAnyL_take (i := 12) (v := ?v13) 26 rfl rfl (by kernel_rfl) (by kernel_rfl) (by kernel_rfl) (by kernel_rfl) (by decide) (by kernel_rfl) (fun _ _ _ h => h) (fun _ => rfl) ?hz13 hS0 ?resz13
        case hz13 => refine Or.inl ⟨by rfl, ?_⟩; intro V hSw; (try dsimp only at hSw); go_simp; (try with_reducible rfl)
        try simp only [List.getElem_toArray, List.getElem_cons_succ, List.getElem_cons_zero, Act.put, List.setIfInBounds_toArray, List.set_cons_zero, List.set_cons_succ]
        refine wpAnyL_take (i := 13) (v := ?v14) 26 rfl rfl (by kernel_rfl) (by kernel_rfl) (by kernel_rfl) (by kernel_rfl) (by decide) (by kernel_rfl) (fun _ _ _ h => h) (fun _ => rfl) ?hz14 hS0 ?resz14
        case hz14 => refine Or.inl ⟨by rfl, ?_⟩; intro V hSw; (try dsimp only at hSw); go_simp; (try with_reducible rfl)
        try simp only [List.getElem_toArray, List.getElem_cons_succ, List.getElem_cons_zero, Act.put, List.setIfInBounds_toArray, List.set_cons_zero, List.set_cons_succ]
        refine wpAnyL_take (i := 14) (v := ?v15) 26 rfl rfl (by kernel_rfl) (by kernel_rfl) (by kernel_rfl) (by kernel_rfl) (by decide) (by kernel_rfl) (fun _ _ _ h => h) (fun _ => rfl) ?hz15 hS0 ?resz15
        case hz15 => refine Or.inl ⟨by rfl, ?_⟩; intro V hSw; (try dsimp only at hSw); go_simp; (try with_reducible rfl)
        try simp only [List.getElem_toArray, List.getElem_cons_succ, List.getElem_cons_zero, Act.put, List.setIfInBounds_toArray, List.set_cons_zero, List.set_cons_succ]
        refine wpAnyL_take (i := 15) (v := ?v16) 26 rfl rfl (by kernel_rfl) (by kernel_rfl) (by kernel_rfl) (by kernel_rfl) (by decide) (by kernel_rfl) (fun _ _ _ h => h) (fun _ => rfl) ?hz16 hS0 ?resz16
        case hz16 => refine Or.inl ⟨by rfl, ?_⟩; intro V hSw; (try dsimp only at hSw); go_simp; (try with_reducible rfl)
        try simp only [List.getElem_toArray, List.getElem_cons_succ, List.getElem_cons_zero, Act.put, List.setIfInBounds_toArray, List.set_cons_zero, List.set_cons_succ]
        refine wpAnyL_take (i := 16) (v := ?v17) 26 rfl rfl (by kernel_rfl) (by kernel_rfl) (by kernel_rfl) (by kernel_rfl) (by decide) (by kernel_rfl) (fun _ _ _ h => h) (fun _ => rfl) ?hz17 hS0 ?resz17
        case hz17 => refine Or.inl ⟨by rfl, ?_⟩; intro V hSw; (try dsimp only at hSw); go_simp; (try with_reducible rfl)
        try simp only [List.getElem_toArray, List.getElem_cons_succ, List.getElem_cons_zero, Act.put, List.setIfInBounds_toArray, List.set_cons_zero, List.set_cons_succ]
        refine wpAnyL_take (i := 17) (v := ?v18) 26 rfl rfl (by kernel_rfl) (by kernel_rfl) (by kernel_rfl) (by kernel_rfl) (by decide) (by kernel_rfl) (fun _ _ _ h => h) (fun _ => rfl) ?hz18 hS0 ?resz18
        case hz18 => refine Or.inl ⟨by rfl, ?_⟩; intro V hSw; (try dsimp only at hSw); go_simp; (try with_reducible rfl)
        try simp only [List.getElem_toArray, List.getElem_cons_succ, List.getElem_cons_zero, Act.put, List.setIfInBounds_toArray, List.set_cons_zero, List.set_cons_succ]
        refine wpAnyL_take (i := 18) (v := ?v19) 26 rfl rfl (by kernel_rfl) (by kernel_rfl) (by kernel_rfl) (by kernel_rfl) (by decide) (by kernel_rfl) (fun _ _ _ h => h) (fun _ => rfl) ?hz19 hS0 ?resz19
        case hz19 => refine Or.inl ⟨by rfl, ?_⟩; intro V hSw; (try dsimp only at hSw); go_simp; (try with_reducible rfl)
        try simp only [List.getElem_toArray, List.getElem_cons_succ, List.getElem_cons_zero, Act.put, List.setIfInBounds_toArray, List.set_cons_zero, List.set_cons_succ]
        refine wpAnyL_take (i := 19) (v := ?v20) 26 rfl rfl (by kernel_rfl) (by kernel_rfl) (by kernel_rfl) (by kernel_rfl) (by decide) (by kernel_rfl) (fun _ _ _ h => h) (fun _ => rfl) ?hz20 hS0 ?resz20
        case hz20 => refine Or.inl ⟨by rfl, ?_⟩; intro V hSw; (try dsimp only at hSw); go_simp; (try with_reducible rfl)
        try simp only [List.getElem_toArray, List.getElem_cons_succ, List.getElem_cons_zero, Act.put, List.setIfInBounds_toArray, List.set_cons_zero, List.set_cons_succ]
        refine wpAnyL_take (i := 20) (v := ?v21) 26 rfl rfl (by kernel_rfl) (by kernel_rfl) (by kernel_rfl) (by kernel_rfl) (by decide) (by kernel_rfl) (fun _ _ _ h => h) (fun _ => rfl) ?hz21 hS0 ?resz21
        case hz21 => refine Or.inl ⟨by rfl, ?_⟩; intro V hSw; (try dsimp only at hSw); go_simp; (try with_reducible rfl)
        try simp only [List.getElem_toArray, List.getElem_cons_succ, List.getElem_cons_zero, Act.put, List.setIfInBounds_toArray, List.set_cons_zero, List.set_cons_succ]
        refine wpAnyL_take (i := 21) (v := ?v22) 26 rfl rfl (by kernel_rfl) (by kernel_rfl) (by kernel_rfl) (by kernel_rfl) (by decide) (by kernel_rfl) (fun _ _ _ h => h) (fun _ => rfl) ?hz22 hS0 ?resz22
        case hz22 => refine Or.inl ⟨by rfl, ?_⟩; intro V hSw; (try dsimp only at hSw); go_simp; (try with_reducible rfl)
        try simp only [List.getElem_toArray, List.getElem_cons_succ, List.getElem_cons_zero, Act.put, List.setIfInBounds_toArray, List.set_cons_zero, List.set_cons_succ]
        refine wpAnyL_take (i := 22) (v := ?v23) 26 rfl rfl (by kernel_rfl) (by kernel_rfl) (by kernel_rfl) (by kernel_rfl) (by decide) (by kernel_rfl) (fun _ _ _ h => h) (fun _ => rfl) ?hz23 hS0 ?resz23
        case hz23 => refine Or.inl ⟨by rfl, ?_⟩; intro V hSw; (try dsimp only at hSw); go_simp; (try with_reducible rfl)
        try simp only [List.getElem_toArray, List.getElem_cons_succ, List.getElem_cons_zero, Act.put, List.setIfInBounds_toArray, List.set_cons_zero, List.set_cons_succ]
        clear hS0
        refine wpAnyL_one (i := 23) (by kernel_rfl) rfl (by kernel_rfl) (fun K hK => ?_)
        go_simp
        refine (HR3.out).mono ?_
        rintro e W3 ⟨b, rfl, hb3⟩
        dsimp only
        refine hK _ _ ?_
        clear hK K hyr hb
        try simp only [List.getElem_toArray, List.getElem_cons_succ, List.getElem_cons_zero, Act.put, List.setIfInBounds_toArray, List.set_cons_zero, List.set_cons_succ]
        rcases hb3 with ⟨rfl, hJ3, hk3⟩ | ⟨rfl, hJx3⟩
        · refine wpAnyIn_take (i := 24) (v := ?v24) rfl rfl (by kernel_rfl) (by kernel_rfl) (by kernel_rfl) (fun _ _ _ h => h) ⟨?hz24, fun _ => rfl⟩ ?resz24
          case hz24 => refine Or.inl ⟨by rfl, ?_⟩; intro V; go_simp; (try with_reducible rfl)
          try simp only [List.getElem_toArray, List.getElem_cons_succ, List.getElem_cons_zero, Act.put, List.setIfInBounds_toArray, List.set_cons_zero, List.set_cons_succ]
          refine wpAnyIn_take (i := 25) (v := ?v25) rfl rfl (by kernel_rfl) (by kernel_rfl) (by kernel_rfl) (fun _ _ _ h => h) ⟨?hz25, fun _ => rfl⟩ ?resz25
          case hz25 => refine Or.inl ⟨by rfl, ?_⟩; intro V; go_simp; (try with_reducible rfl)
          try simp only [List.getElem_toArray, List.getElem_cons_succ, List.getElem_cons_zero, Act.put, List.setIfInBounds_toArray, List.set_cons_zero, List.set_cons_succ]
          refine wpAnyIn_done (by kernel_rfl) ?_ _
          gi_wp2
          go_roundw
          case rel => exact ⟨r + 1, _, by omega, HR2.out, by go_num, HPP.out, hJ3, hk3⟩
          case measure => have := HR2.out; simp [intOf]; omega
        · refine wpAnyIn_take (i := 24) (v := ?v26) rfl rfl (by kernel_rfl) (by kernel_rfl) (by kernel_rfl) (fun _ _ _ h => h) ⟨?hz26, fun _ => rfl⟩ ?resz26
          case hz26 => refine Or.inl ⟨by rfl, ?_⟩; intro V; go_simp; (try with_reducible rfl)
          try simp only [List.getElem_toArray, List.getElem_cons_succ, List.getElem_cons_zero, Act.put, List.setIfInBounds_toArray, List.set_cons_zero, List.set_cons_succ]
          refine wpAnyIn_take (i := 25) (v := ?v27) rfl rfl (by kernel_rfl) (by kernel_rfl) (by kernel_rfl) (fun _ _ _ h => h) ⟨?hz27, fun _ => rfl⟩ ?resz27
          case hz27 => refine Or.inl ⟨by rfl, ?_⟩; intro V; go_simp; (try with_reducible rfl)
          try simp only [List.getElem_toArray, List.getElem_cons_succ, List.getElem_cons_zero, Act.put, List.setIfInBounds_toArray, List.set_cons_zero, List.set_cons_succ]
          refine wpAnyIn_done (by kernel_rfl) ?_ _
          gi_wp2
          refine bodyPost_ret (results_none rfl _ _ _) rfl ?_
          exact ⟨⟨_, rfl⟩, .inr ⟨_, HSP.out, hJx3⟩⟩
      · have hb : (x.site == y.site) = false := by rw [beq_eq_false_iff_ne]; exact he
        have HP : Hid (pre.map (·.1) = List.range (adjL (S.take (r + 1))).length) := Lib.hid (by
          subst hq
          rw [adj_take hx hy, if_neg he, List.append_nil]; exact hpre)
        clear hpre hx hy cx0 cx1 cx2 cy0 cy1 cy2 hk hcc hcA kk k00 hog eg he x0 x2 y0 y2 hq
        gi_wp2
        refine wpIn_wide.2 ?_
        refine wp_region_held_drew (S := fun V => V.cell? ⟨Bs, 0, none⟩ = some (.slice (some ⟨g, 0, none⟩) S.length cap) ∧ V.cell? ⟨g, q * 3 + 1, none⟩ = some (.int .i64 x.site) ∧ V.cell? ⟨g, r * 3 + 1, none⟩ = some (.int .i64 y.site)) (by kernel_rfl) ⟨hbs2, x1, y1⟩ (fun hHeld => ?_)
        clear hbs2 x1 y1
        refine wpAnyH_take (i := 0) (oi := { dst := some 10, op := Op.load 44 (Operand.tmp 1), type := 44, pos := "ticket.go:57", after := #[], guard := none }) (v := ?vv1) rfl (by kernel_rfl) (by kernel_rfl) (by kernel_rfl) (fun _ _ _ h => h) ?hy1 (by assumption) ?rest1
        case hy1 => (refine Or.inl ⟨by rfl, ?_⟩; intro W hSw; (try dsimp only at hSw); go_simp; (try with_reducible rfl))
        try simp only [Act.put, List.setIfInBounds_toArray, List.set_cons_zero, List.set_cons_succ]
        refine wpAnyH_take (i := 1) (oi := { dst := some 11, op := Op.move (Operand.tmp 3), type := 3, pos := "ticket.go:57", after := #[], guard := none }) (v := ?vv2) rfl (by kernel_rfl) (by kernel_rfl) (by kernel_rfl) (fun _ _ _ h => h) ?hy2 (by assumption) ?rest2
        case hy2 => (refine Or.inl ⟨by rfl, ?_⟩; intro W hSw; (try dsimp only at hSw); go_simp; (try with_reducible rfl))
        try simp only [Act.put, List.setIfInBounds_toArray, List.set_cons_zero, List.set_cons_succ]
        refine wpAnyH_take (i := 2) (oi := { dst := some 12, op := Op.binOp BinOp.sub 3 (Operand.tmp 11) (Operand.const (Value.int IntKind.i64 1)) 3, type := 3, pos := "ticket.go:57", after := #[{ on := 1, ground := Ground.data }], guard := none }) (v := ?vv3) rfl (by kernel_rfl) (by kernel_rfl) (by kernel_rfl) (fun _ _ _ h => h) ?hy3 (by assumption) ?rest3
        case hy3 => (refine Or.inl ⟨by rfl, ?_⟩; intro W hSw; (try dsimp only at hSw); go_simp; (try with_reducible rfl))
        try simp only [Act.put, List.setIfInBounds_toArray, List.set_cons_zero, List.set_cons_succ]
        refine wpAnyH_take (i := 3) (oi := { dst := some 13, op := Op.indexAddr 44 (Operand.tmp 10) (Operand.tmp 12), type := 0, pos := "ticket.go:57", after := #[{ on := 0, ground := Ground.data }, { on := 2, ground := Ground.data }], guard := none }) (v := ?vv4) rfl (by kernel_rfl) (by kernel_rfl) (by kernel_rfl) (fun _ _ _ h => h) ?hy4 (by assumption) ?rest4
        case hy4 => (refine Or.inl ⟨by rfl, ?_⟩; intro W hSw; (try dsimp only at hSw); go_simp; (try with_reducible rfl))
        try simp only [Act.put, List.setIfInBounds_toArray, List.set_cons_zero, List.set_cons_succ]
        refine wpAnyH_take (i := 4) (oi := { dst := some 14, op := Op.fieldAddr 59 (Operand.tmp 13) 1, type := 0, pos := "ticket.go:57", after := #[{ on := 3, ground := Ground.data }], guard := none }) (v := ?vv5) rfl (by kernel_rfl) (by kernel_rfl) (by kernel_rfl) (fun _ _ _ h => h) ?hy5 (by assumption) ?rest5
        case hy5 => (refine Or.inl ⟨by rfl, ?_⟩; intro W hSw; (try dsimp only at hSw); go_simp; (try with_reducible rfl))
        try simp only [Act.put, List.setIfInBounds_toArray, List.set_cons_zero, List.set_cons_succ]
        refine wpAnyH_take (i := 5) (oi := { dst := some 15, op := Op.load 3 (Operand.tmp 14), type := 3, pos := "ticket.go:57", after := #[{ on := 4, ground := Ground.data }], guard := none }) (v := ?vv6) rfl (by kernel_rfl) (by kernel_rfl) (by kernel_rfl) (fun _ _ _ h => h) ?hy6 (by assumption) ?rest6
        case hy6 => (refine Or.inl ⟨by rfl, ?_⟩; intro W hSw; (try dsimp only at hSw); go_simp; (try with_reducible rfl))
        try simp only [Act.put, List.setIfInBounds_toArray, List.set_cons_zero, List.set_cons_succ]
        refine wpAnyH_take (i := 6) (oi := { dst := some 16, op := Op.load 44 (Operand.tmp 1), type := 44, pos := "ticket.go:57", after := #[], guard := none }) (v := ?vv7) rfl (by kernel_rfl) (by kernel_rfl) (by kernel_rfl) (fun _ _ _ h => h) ?hy7 (by assumption) ?rest7
        case hy7 => (refine Or.inl ⟨by rfl, ?_⟩; intro W hSw; (try dsimp only at hSw); go_simp; (try with_reducible rfl))
        try simp only [Act.put, List.setIfInBounds_toArray, List.set_cons_zero, List.set_cons_succ]
        refine wpAnyH_take (i := 7) (oi := { dst := some 17, op := Op.move (Operand.tmp 3), type := 3, pos := "ticket.go:57", after := #[], guard := none }) (v := ?vv8) rfl (by kernel_rfl) (by kernel_rfl) (by kernel_rfl) (fun _ _ _ h => h) ?hy8 (by assumption) ?rest8
        case hy8 => (refine Or.inl ⟨by rfl, ?_⟩; intro W hSw; (try dsimp only at hSw); go_simp; (try with_reducible rfl))
        try simp only [Act.put, List.setIfInBounds_toArray, List.set_cons_zero, List.set_cons_succ]
        refine wpAnyH_take (i := 8) (oi := { dst := some 18, op := Op.indexAddr 44 (Operand.tmp 16) (Operand.tmp 17), type := 0, pos := "ticket.go:57", after := #[{ on := 6, ground := Ground.data }, { on := 7, ground := Ground.data }], guard := none }) (v := ?vv9) rfl (by kernel_rfl) (by kernel_rfl) (by kernel_rfl) (fun _ _ _ h => h) ?hy9 (by assumption) ?rest9
        case hy9 => (refine Or.inl ⟨by rfl, ?_⟩; intro W hSw; (try dsimp only at hSw); go_simp; (try with_reducible rfl))
        try simp only [Act.put, List.setIfInBounds_toArray, List.set_cons_zero, List.set_cons_succ]
        refine wpAnyH_take (i := 9) (oi := { dst := some 19, op := Op.fieldAddr 59 (Operand.tmp 18) 1, type := 0, pos := "ticket.go:57", after := #[{ on := 8, ground := Ground.data }], guard := none }) (v := ?vv10) rfl (by kernel_rfl) (by kernel_rfl) (by kernel_rfl) (fun _ _ _ h => h) ?hy10 (by assumption) ?rest10
        case hy10 => (refine Or.inl ⟨by rfl, ?_⟩; intro W hSw; (try dsimp only at hSw); go_simp; (try with_reducible rfl))
        try simp only [Act.put, List.setIfInBounds_toArray, List.set_cons_zero, List.set_cons_succ]
        refine wpAnyH_take (i := 10) (oi := { dst := some 20, op := Op.load 3 (Operand.tmp 19), type := 3, pos := "ticket.go:57", after := #[{ on := 9, ground := Ground.data }], guard := none }) (v := ?vv11) rfl (by kernel_rfl) (by kernel_rfl) (by kernel_rfl) (fun _ _ _ h => h) ?hy11 (by assumption) ?rest11
        case hy11 => (refine Or.inl ⟨by rfl, ?_⟩; intro W hSw; (try dsimp only at hSw); go_simp; (try with_reducible rfl))
        try simp only [Act.put, List.setIfInBounds_toArray, List.set_cons_zero, List.set_cons_succ]
        refine wpAnyH_take (i := 11) (oi := { dst := some 21, op := Op.binOp BinOp.eql 3 (Operand.tmp 15) (Operand.tmp 20) 3, type := 4, pos := "ticket.go:57", after := #[{ on := 5, ground := Ground.data }, { on := 10, ground := Ground.data }], guard := none }) (v := (.bool false)) rfl (by kernel_rfl) (by kernel_rfl) (by kernel_rfl) (fun _ _ _ h => h) ?hy12 (by assumption) ?rest12
        case hy12 => ((refine Or.inl ⟨by rfl, ?_⟩; intro W hSw; (try dsimp only at hSw); go_simp; (try simp [hb])))
        try simp only [Act.put, List.setIfInBounds_toArray, List.set_cons_zero, List.set_cons_succ]
        refine wpAnyH_take (i := 12) (oi := { dst := some 22, op := Op.move (Operand.tmp 21), type := 4, pos := "ticket.go:57", after := #[{ on := 11, ground := Ground.data }], guard := none }) (v := ?vv13) rfl (by kernel_rfl) (by kernel_rfl) (by kernel_rfl) (fun _ _ _ h => h) ?hy13 (by assumption) ?rest13
        case hy13 => (refine Or.inl ⟨by rfl, ?_⟩; intro W hSw; (try dsimp only at hSw); go_simp; (try with_reducible rfl))
        try simp only [Act.put, List.setIfInBounds_toArray, List.set_cons_zero, List.set_cons_succ]
        refine wpAnyH_take (i := 13) (oi := { dst := some 23, op := Op.move (Operand.tmp 0), type := 106, pos := "ticket.go:57", after := #[{ on := 12, ground := Ground.guard }], guard := some (12, true) }) (v := undef) rfl (by kernel_rfl) (by kernel_rfl) (by kernel_rfl) (fun _ _ _ h => h) ?hy14 (by assumption) ?rest14
        case hy14 => (exact Or.inr ⟨by rfl, rfl⟩)
        try simp only [Act.put, List.setIfInBounds_toArray, List.set_cons_zero, List.set_cons_succ]
        refine wpAnyH_take (i := 14) (oi := { dst := some 24, op := Op.load 44 (Operand.tmp 1), type := 44, pos := "ticket.go:57", after := #[{ on := 12, ground := Ground.guard }], guard := some (12, true) }) (v := undef) rfl (by kernel_rfl) (by kernel_rfl) (by kernel_rfl) (fun _ _ _ h => h) ?hy15 (by assumption) ?rest15
        case hy15 => (exact Or.inr ⟨by rfl, rfl⟩)
        try simp only [Act.put, List.setIfInBounds_toArray, List.set_cons_zero, List.set_cons_succ]
        refine wpAnyH_take (i := 15) (oi := { dst := some 25, op := Op.move (Operand.tmp 3), type := 3, pos := "ticket.go:57", after := #[{ on := 12, ground := Ground.guard }], guard := some (12, true) }) (v := undef) rfl (by kernel_rfl) (by kernel_rfl) (by kernel_rfl) (fun _ _ _ h => h) ?hy16 (by assumption) ?rest16
        case hy16 => (exact Or.inr ⟨by rfl, rfl⟩)
        try simp only [Act.put, List.setIfInBounds_toArray, List.set_cons_zero, List.set_cons_succ]
        refine wpAnyH_take (i := 16) (oi := { dst := some 26, op := Op.binOp BinOp.sub 3 (Operand.tmp 25) (Operand.const (Value.int IntKind.i64 1)) 3, type := 3, pos := "ticket.go:57", after := #[{ on := 15, ground := Ground.data }, { on := 12, ground := Ground.guard }], guard := some (12, true) }) (v := undef) rfl (by kernel_rfl) (by kernel_rfl) (by kernel_rfl) (fun _ _ _ h => h) ?hy17 (by assumption) ?rest17
        case hy17 => (exact Or.inr ⟨by rfl, rfl⟩)
        try simp only [Act.put, List.setIfInBounds_toArray, List.set_cons_zero, List.set_cons_succ]
        refine wpAnyH_take (i := 17) (oi := { dst := some 27, op := Op.indexAddr 44 (Operand.tmp 24) (Operand.tmp 26), type := 0, pos := "ticket.go:57", after := #[{ on := 14, ground := Ground.data }, { on := 16, ground := Ground.data }, { on := 12, ground := Ground.guard }], guard := some (12, true) }) (v := undef) rfl (by kernel_rfl) (by kernel_rfl) (by kernel_rfl) (fun _ _ _ h => h) ?hy18 (by assumption) ?rest18
        case hy18 => (exact Or.inr ⟨by rfl, rfl⟩)
        try simp only [Act.put, List.setIfInBounds_toArray, List.set_cons_zero, List.set_cons_succ]
        refine wpAnyH_take (i := 18) (oi := { dst := some 28, op := Op.load 59 (Operand.tmp 27), type := 59, pos := "ticket.go:57", after := #[{ on := 17, ground := Ground.data }, { on := 12, ground := Ground.guard }], guard := some (12, true) }) (v := undef) rfl (by kernel_rfl) (by kernel_rfl) (by kernel_rfl) (fun _ _ _ h => h) ?hy19 (by assumption) ?rest19
        case hy19 => (exact Or.inr ⟨by rfl, rfl⟩)
        try simp only [Act.put, List.setIfInBounds_toArray, List.set_cons_zero, List.set_cons_succ]
        refine wpAnyH_take (i := 19) (oi := { dst := some 29, op := Op.load 44 (Operand.tmp 1), type := 44, pos := "ticket.go:57", after := #[{ on := 12, ground := Ground.guard }], guard := some (12, true) }) (v := undef) rfl (by kernel_rfl) (by kernel_rfl) (by kernel_rfl) (fun _ _ _ h => h) ?hy20 (by assumption) ?rest20
        case hy20 => (exact Or.inr ⟨by rfl, rfl⟩)
        try simp only [Act.put, List.setIfInBounds_toArray, List.set_cons_zero, List.set_cons_succ]
        refine wpAnyH_take (i := 20) (oi := { dst := some 30, op := Op.move (Operand.tmp 3), type := 3, pos := "ticket.go:57", after := #[{ on := 12, ground := Ground.guard }], guard := some (12, true) }) (v := undef) rfl (by kernel_rfl) (by kernel_rfl) (by kernel_rfl) (fun _ _ _ h => h) ?hy21 (by assumption) ?rest21
        case hy21 => (exact Or.inr ⟨by rfl, rfl⟩)
        try simp only [Act.put, List.setIfInBounds_toArray, List.set_cons_zero, List.set_cons_succ]
        refine wpAnyH_take (i := 21) (oi := { dst := some 31, op := Op.indexAddr 44 (Operand.tmp 29) (Operand.tmp 30), type := 0, pos := "ticket.go:57", after := #[{ on := 19, ground := Ground.data }, { on := 20, ground := Ground.data }, { on := 12, ground := Ground.guard }], guard := some (12, true) }) (v := undef) rfl (by kernel_rfl) (by kernel_rfl) (by kernel_rfl) (fun _ _ _ h => h) ?hy22 (by assumption) ?rest22
        case hy22 => (exact Or.inr ⟨by rfl, rfl⟩)
        try simp only [Act.put, List.setIfInBounds_toArray, List.set_cons_zero, List.set_cons_succ]
        refine wpAnyH_take (i := 22) (oi := { dst := some 32, op := Op.load 59 (Operand.tmp 31), type := 59, pos := "ticket.go:57", after := #[{ on := 21, ground := Ground.data }, { on := 12, ground := Ground.guard }], guard := some (12, true) }) (v := undef) rfl (by kernel_rfl) (by kernel_rfl) (by kernel_rfl) (fun _ _ _ h => h) ?hy23 (by assumption) ?rest23
        case hy23 => (exact Or.inr ⟨by rfl, rfl⟩)
        try simp only [Act.put, List.setIfInBounds_toArray, List.set_cons_zero, List.set_cons_succ]
        refine wpAnyH_take (i := 23) (oi := { dst := some 33, op := Op.call { callee := Callee.value (Operand.tmp 23), args := #[Operand.tmp 28, Operand.tmp 32], argTypes := #[59, 59] }, type := 4, pos := "ticket.go:57", after := #[{ on := 13, ground := Ground.data }, { on := 18, ground := Ground.data }, { on := 22, ground := Ground.data }, { on := 12, ground := Ground.chain }, { on := 12, ground := Ground.guard }], guard := some (12, true) }) (v := undef) rfl (by kernel_rfl) (by kernel_rfl) (by kernel_rfl) (fun _ _ _ h => h) ?hy24 (by assumption) ?rest24
        case hy24 => (exact Or.inr ⟨by rfl, rfl⟩)
        try simp only [Act.put, List.setIfInBounds_toArray, List.set_cons_zero, List.set_cons_succ]
        refine wpAnyH_take (i := 24) (oi := { dst := some 34, op := Op.unOp UnOp.not 4 (Operand.tmp 33), type := 4, pos := "ticket.go:57", after := #[{ on := 23, ground := Ground.data }, { on := 12, ground := Ground.guard }], guard := some (12, true) }) (v := undef) rfl (by kernel_rfl) (by kernel_rfl) (by kernel_rfl) (fun _ _ _ h => h) ?hy25 (by assumption) ?rest25
        case hy25 => (exact Or.inr ⟨by rfl, rfl⟩)
        try simp only [Act.put, List.setIfInBounds_toArray, List.set_cons_zero, List.set_cons_succ]
        refine wpAnyH_take (i := 25) (oi := { dst := some 35, op := Op.pick (Operand.tmp 22) (Operand.tmp 34) (Operand.const (Value.bool false)), type := 4, pos := "ticket.go:57", after := #[{ on := 12, ground := Ground.data }, { on := 24, ground := Ground.data }], guard := none }) (v := ?vv26) rfl (by kernel_rfl) (by kernel_rfl) (by kernel_rfl) (fun _ _ _ h => h) ?hy26 (by assumption) ?rest26
        case hy26 => (refine Or.inl ⟨by rfl, ?_⟩; intro W hSw; (try dsimp only at hSw); go_simp; (try with_reducible rfl))
        try simp only [Act.put, List.setIfInBounds_toArray, List.set_cons_zero, List.set_cons_succ]
        refine wpAnyH_done (by kernel_rfl) ?_ _
        clear hHeld
        gi_wp2
        go_roundw
        case rel => exact ⟨r + 1, pre, by omega, HR2.out, by go_num, HP.out, hJd _ _ hJs, HK.out.trans (⟨rfl, fun _ _ => rfl⟩ : KpB Bs _ wr wr.drew)⟩
        case measure => have := HR2.out; simp [intOf]; omega
    · have HE : Hid (adjL (S.take r) = adjL S) := Lib.hid (by rw [List.take_of_length_le (by omega)])
      gi_wp2
      go_end0
      exact ⟨⟨_, rfl⟩, .inl ⟨pre, by have h9 := hpre; rw [HE.out] at h9; exact h9, hJs⟩⟩
end Go.Proofs.Ytlbhpeeggbfcpaa
