/- slices.Index and Contains of a row of numbers; slices.Backward over one; the runs of a look-up and an append within a round. slices.Backward over a row of numbers: the numbers come, the last one first, whatever the loop's body does that leaves the row alone. What Circles keeps in memory while it walks back; one more round. -/
import Derived.RangeFuncNested
import Derived.RangeFuncBound
import Derived.RangeFuncCalls
import Derived.RangeFuncLeaves
import Derived.Shelf.Abstract
import Derived.Shelf.RegionOpen
import Derived.WalkKit
import Derived.OwnWalkIn
import Derived.TacticsInMore
import Derived.LoopNIn
import Derived.LoopIn
import Derived.Test.YtlbhpeeggbfcpaaZWaiG
import Derived.Test.YtlbhpeeggbfcpaaZWaiT
import Derived.Test.YtlbhpeeggbfcpaaZWaiW
set_option linter.unusedSimpArgs false
set_option linter.unusedVariables false
set_option linter.unnecessarySimpa false
namespace Go.Proofs.Ytlbhpeeggbfcpaa
open Go.RowKit Go.Shelf

set_option maxRecDepth 100000 in
set_option maxHeartbeats 2000000 in
theorem index_any {w : World} {v : Value} {l : List Int} {x : Int} (h : RowIs w 1 v l.length (ints l)) (hl : l.length ≤ 1000000000) : Calls Try.prog 38 #[v, .int .i64 x] w fun e w' => ∃ n : Int, e = .returned (.int .i64 n) ∧ (0 ≤ n ↔ x ∈ l) ∧ -1 ≤ n ∧ w' = w := by
  obtain ⟨A, cap, rfl, h1, h2, _⟩ := id h.form
  unfold maxLen at h2
  go_enter Try.func38, Try.ntmps38
  go_wp2_with fail
  have HC := Lib.hid ‹(A = none → l.length = 0 ∧ cap = 0) ∧ _›
  have HH := Lib.hid h
  have hl' : (l.length : Int) ≤ 1000000000 := by omega
  go_loopw [8] (fun iv wr => ∃ k : Nat, k ≤ l.length ∧ iv = .int .i64 k ∧ wr = w ∧ x ∉ l.take k) (fun iv _ => l.length - (intOf iv).toNat)
  case atStart => exact ⟨0, Nat.zero_le _, rfl, rfl, by simp⟩
  case round =>
    obtain ⟨k, hk, rfl, rfl, hno⟩ := hrel
    have HNO := Lib.hid hno
    by_cases hlt : k < l.length
    · have hx : l[k]? = some l[k] := List.getElem?_eq_getElem hlt
      have HMEM := Lib.hid (List.getElem_mem hlt)
      have HTK : Hid (l.take (k + 1) = l.take k ++ [l[k]]) := Lib.hid (List.take_succ_eq_append_getElem hlt)
      generalize l[k] = y at hx HMEM HTK
      obtain ⟨g, rfl, kc⟩ := HC.out.2.2 k (.int .i64 y) (by unfold ints; rw [List.getElem?_map, hx]; rfl)
      have hi : (k : Int) < (l.length : Int) := by omega
      have HLT := Lib.hid hlt
      by_cases he : y = x
      · have hb : (y == x) = true := by rw [he]; exact beq_self_eq_true x
        have HE := Lib.hid he
        clear hx hno hk he h
        go_wp2_with fail
        go_ret
        exact ⟨_, rfl, ⟨fun _ => by rw [← HE.out]; exact HMEM.out, fun _ => by omega⟩, by omega, rfl⟩
      · have hb : (y == x) = false := by rw [beq_eq_false_iff_ne]; exact he
        have HE := Lib.hid he
        clear hx hno hk he h
        go_wp2_with fail
        go_roundw
        case rel => exact ⟨k + 1, HLT.out, by go_num, by first | rfl | trivial, by rw [HTK.out, List.mem_append, List.mem_singleton]; exact fun h => h.elim HNO.out (fun h => HE.out h.symm)⟩
        case measure => have := HLT.out; simp [intOf]; omega
    · obtain rfl : k = l.length := by omega
      have HN2 : Hid (x ∉ l) := Lib.hid (by have := HNO.out; rwa [List.take_length] at this)
      clear hlt hk hno h
      go_wp2_with fail
      go_ret
      exact ⟨-1, rfl, ⟨fun h => by omega, fun h => absurd h HN2.out⟩, by omega, rfl⟩
set_option maxRecDepth 100000 in
set_option maxHeartbeats 2000000 in
theorem contains_any {w : World} {v : Value} {l : List Int} {x : Int} (h : RowIs w 1 v l.length (ints l)) (hl : l.length ≤ 1000000000) : Calls Try.prog 23 #[v, .int .i64 x] w fun e w' => e = .returned (.bool (decide (x ∈ l))) ∧ w' = w := by
  have HI := Lib.hid (index_any (x := x) h hl)
  clear h hl
  go_enter Try.func23, Try.ntmps23
  go_wp2_with fail
  refine (HI.out).mono ?_
  rintro e w1 ⟨n, rfl, h1, h2, rfl⟩
  by_cases hn : 0 ≤ n
  · have hb : decide (x ∈ l) = true := decide_eq_true (h1.1 hn)
    have HB := Lib.hid hb
    clear h1 hb
    go_wp2_with fail
    go_ret
    have hb := HB.out
    first | exact hb | (simp [hb]; done) | (simp [hb]; omega)
  · have hb : decide (x ∈ l) = false := decide_eq_false (fun e => hn (h1.2 e))
    have HB := Lib.hid hb
    clear h1 hb
    go_wp2_with fail
    go_ret
    have hb := HB.out
    first | exact hb | (simp [hb]; done) | (simp [hb]; omega)
theorem wpListIn_look_run {F : Fence} {n : Nat} {P : Program} {w : World} {ops : Array Oper} {rest : List Oper} {o : Oper} {a : Act} {Q : Exit → Act → World → Prop} (hg : o.guard = none) (m x : Operand) (M : TypeId) (c : Bool) (hop : o.op = Op.lookup M m x c) {mv xv v : Value} (hm : a.eval m = mv) (hx : a.eval x = xv) (hrun : (Instr.lookup M mv xv c).run P w = .ok v w) (hK : wpListIn F n P ops Q rest (a.put o.dst v) w) : wpListIn F n P ops Q (o :: rest) a w :=
  wpListIn_plain hg fun K hK' => by
    unfold Oper.wpIn
    refine ⟨by simp [Oper.about, hop], ?_⟩
    rw [Oper.semAt_plain F _ _ (by rw [hop]; intro c hc'; cases hc')]
    simp [execOp, hop, hm, hx, hrun, Result.andThen]
    exact hK' _ _ hK
theorem wpListIn_app_run {F : Fence} {n : Nat} {P : Program} {w w' : World} {ops : Array Oper} {rest : List Oper} {o : Oper} {a : Act} {Q : Exit → Act → World → Prop} (hg : o.guard = none) (s x : Operand) (T tx : TypeId) (ho : o.op = .call { callee := .builtin .append, args := #[s, x], argTypes := #[T, tx] }) {u v v' : Value} (hs : a.eval s = u) (hx : a.eval x = v) (hrun : (Builtin.append_ #[T, tx] o.type #[u, v]).run P w = .ok v' w') (hK : wpListIn F n P ops Q rest (a.put o.dst v') w') : wpListIn F n P ops Q (o :: rest) a w :=
  wpListIn_plain hg fun K hK' => by
    unfold Oper.wpIn
    refine ⟨by simp [Oper.about, ho, resolve, Target.leads, Sem.run_pure], ?_⟩
    rw [Oper.semAt_plain F _ _ (by rw [ho]; intro c hc'; cases hc')]
    simp [execOp, ho, resolve, invoke, builtin, hs, hx, hrun, Result.andThen]
    exact hK' _ _ hK
end Go.Proofs.Ytlbhpeeggbfcpaa

namespace Go.Proofs.Ytlbhpeeggbfcpaa
open Go.RowKit Go.Shelf
attribute [local go_sem] Oper.semAt_some

/-- The rounds: round number j brings the number that stands j places ahead of the last one. -/
abbrev Rnd (l : List Int) := { j : Nat // j < l.length }
def rndE (l : List Int) (x : Rnd l) : Array Value := #[.int .i64 ((l.length - 1 - x.1 : Nat) : Int), .int .i64 ((l[l.length - 1 - x.1]?).getD 0)]
/-- What a round leaves alone: the box of the slice and the row itself. -/
def KpB (Bs : Nat) (v : Value) (A B : World) : Prop := B.heap[Bs]? = A.heap[Bs]? ∧ ∀ g, v.ownBlock = some g → B.heap[g]? = A.heap[g]?
theorem KpB.trans {Bs : Nat} {v : Value} {A B C : World} (h : KpB Bs v A B) (k : KpB Bs v B C) : KpB Bs v A C := ⟨k.1.trans h.1, fun g hg => (k.2 g hg).trans (h.2 g hg)⟩
set_option maxRecDepth 100000 in
set_option maxHeartbeats 2000000 in
theorem back1_in (n : Nat) (hn : 1 ≤ n) (l Bs : Nat) (A : Option Addr) (cap : Nat) (zs : List Int) (hlen : zs.length ≤ 1000000000) (J Jx : List (Rnd zs) → World → Prop)
    (hY : ∀ pre x W, J pre W → pre.length < zs.length → YieldAt Fence.wide (n - 1) Try.prog l (rndE zs x) W fun e W' =>
      (e = .returned (.bool true) ∧ J (pre ++ [x]) W' ∧ KpB Bs (.slice A zs.length cap) W W') ∨ (e = .returned (.bool false) ∧ Jx (pre ++ [x]) W'))
    (W : World) (hBs : W.cell? ⟨Bs, 0, none⟩ = some (.slice A zs.length cap)) (hv : RowIs W 1 (.slice A zs.length cap) zs.length (ints zs)) (h0 : J [] W) :
    CallsIn Fence.wide n Try.prog 46 #[.func (.yield l) #[] #[], .pointer (some ⟨Bs, 0, none⟩)] W fun e W' => (∃ v, e = .returned v) ∧
      ((∃ ys, ys.map (·.1) = List.range zs.length ∧ J ys W') ∨ (∃ pre, (∃ k, k ≤ zs.length ∧ pre.map (·.1) = List.range k) ∧ Jx pre W')) := by
  obtain ⟨_, _, e', hc1, hc2, _, hcA, hcc⟩ := hv.form
  injection e' with e1 _ e3
  subst e1 e3
  unfold maxLen at hc2
  have hlI : (zs.length : Int) ≤ 1000000000 := by omega
  refine callsIn_of_wp Try.func46 rfl trivial ?_ rfl
  simp only [Try.ntmps46, List.size_toArray, List.length_cons, List.length_nil, Nat.reduceAdd, Nat.reduceSub, Array.replicate_succ, Array.replicate_zero, List.push_toArray, List.append_toArray, List.nil_append, List.cons_append]
  gi_wp2
  gi_loopw [3] (fun i wr => ∃ (r : Nat) (pre : List (Rnd zs)), r ≤ zs.length ∧ i = .int .i64 ((r : Int) - 1) ∧ pre.map (·.1) = List.range (zs.length - r) ∧ J pre wr ∧ KpB Bs (.slice A zs.length cap) W wr)
    (fun i _ => (intOf i + 1).toNat)
  case atStart => exact ⟨zs.length, [], Nat.le_refl _, rfl, by simp, h0, ⟨rfl, fun _ _ => rfl⟩⟩
  case round =>
    obtain ⟨r, pre, hr, rfl, hpre, hJs, hk⟩ := hrel
    cases r with
    | zero =>
      gi_wp2
      go_end0
      exact ⟨⟨_, rfl⟩, .inl ⟨pre, by simpa using hpre, hJs⟩⟩
    | succ r =>
      have e0 : ((r + 1 : Nat) : Int) - 1 = (r : Int) := by omega
      rw [e0]
      have hx : zs[r]? = some zs[r] := List.getElem?_eq_getElem (by omega)
      generalize zs[r] = y at hx
      have hbs2 : wr.cell? ⟨Bs, 0, none⟩ = some (.slice A zs.length cap) := (World.cell?_of_block (a := ⟨Bs, 0, none⟩) hk.1).trans hBs
      obtain ⟨g, hA, kc0⟩ := hcc r (.int .i64 y) (by unfold ints; rw [List.getElem?_map, hx]; rfl)
      obtain ⟨g2, eg, hog⟩ := hcA _ hA
      have eg2 : g = g2 := by injection eg
      have kc : wr.cell? ⟨g, r, none⟩ = some (.int .i64 y) := (World.cell?_of_block (a := ⟨g, r, none⟩) (hk.2 g (by rw [eg2]; exact hog))).trans kc0
      subst hA
      have hlt : zs.length - (r + 1) < zs.length := by omega
      have eidx : zs.length - 1 - (zs.length - (r + 1)) = r := by omega
      obtain ⟨x0, hx0⟩ : ∃ x0 : Rnd zs, x0.1 = zs.length - (r + 1) := ⟨⟨zs.length - (r + 1), hlt⟩, rfl⟩
      have hres := hY pre x0 wr hJs (by
        have := congrArg List.length hpre
        rw [List.length_map, List.length_range] at this
        omega)
      have henc : rndE zs x0 = #[.int .i64 (r : Int), .int .i64 y] := by
        unfold rndE
        simp only [hx0, eidx, hx, Option.getD_some]
      rw [henc] at hres
      obtain ⟨fn, tmps, assign, body, hy, hR⟩ := hres
      have HP : Hid ((pre ++ [x0]).map (fun x => x.1) = List.range (zs.length - r)) := Lib.hid (by
        rw [List.map_append, hpre, List.map_cons, List.map_nil, hx0]
        have e : zs.length - r = (zs.length - (r + 1)) + 1 := by omega
        rw [e, List.range_succ])
      have hi : (r : Int) < (zs.length : Int) := by omega
      have HK := Lib.hid hk
      have HR1 : Hid (r ≤ zs.length) := Lib.hid (by omega)
      have HSP : Hid (∃ k, k ≤ zs.length ∧ (pre ++ [x0]).map (fun x => x.1) = List.range k) := Lib.hid ⟨zs.length - r, by omega, HP.out⟩
      clear hk hx hpre kc0 hcc hcA eg hog eg2 henc hlt eidx e0 hx0
      gi_wp2
      refine hR.mono ?_
      rintro e W3 (⟨rfl, hJ3, hk3⟩ | ⟨rfl, hJx3⟩)
      · gi_wp2
        go_roundw
        case rel => exact ⟨r, _, HR1.out, by go_num, HP.out, hJ3, HK.out.trans hk3⟩
        case measure => simp [intOf]
      · gi_wp2
        refine bodyPost_ret (results_none rfl _ _ _) rfl ?_
        exact ⟨⟨_, rfl⟩, .inr ⟨_, HSP.out, hJx3⟩⟩
set_option maxRecDepth 100000 in
set_option maxHeartbeats 2000000 in
theorem back_any (w : World) (A : Option Addr) (n cap : Nat) : Calls Try.prog 31 #[.slice A n cap] w fun e w' => e = .returned (.func (.func 46) #[] #[.pointer (some ⟨w.heap.size, 0, none⟩)]) ∧ w' = w.alloc (.cells #[.slice A n cap] 30) := by
  go_enter Try.func31, Try.ntmps31
  go_wp2_with fail
  go_ret
  first | trivial | exact ⟨rfl, rfl⟩
theorem back_stops (n : Nat) (hn : 1 ≤ n) (Bs : Nat) (A : Option Addr) (cap : Nat) (zs : List Int) (hlen : zs.length ≤ 1000000000) (w : World) (hBs : Bs < w.heap.size) (hc : w.cell? ⟨Bs, 0, none⟩ = some (.slice A zs.length cap)) (hv : RowIs w 1 (.slice A zs.length cap) zs.length (ints zs)) :
    SeqStopsK Fence.wide n Try.prog 46 #[.pointer (some ⟨Bs, 0, none⟩)] (rndE zs) (KpB Bs (.slice A zs.length cap)) (fun ys => ys.map (·.1) = List.range zs.length) (fun pre => ∃ k, k ≤ zs.length ∧ pre.map (·.1) = List.range k) zs.length w := fun l J Jx W hW _ _ hY h0 =>
  back1_in n hn l Bs A cap zs hlen J Jx hY W ((hW.cell (p := ⟨Bs, 0, none⟩) hBs).trans hc) (hv.below hW) h0
end Go.Proofs.Ytlbhpeeggbfcpaa

namespace Go.Proofs.Ytlbhpeeggbfcpaa
open Go.RowKit Go.Shelf
open Go.Maps (Keyed)

theorem src_row {w : World} {v : Value} {l : List Int} (h : RowIs w 1 v l.length (ints l)) : Src Try.prog 1 30 v l.length (ints l) w := by
  obtain ⟨A, c, e, _, _, hn, hA, hc⟩ := h.form
  subst e
  cases A with
  | none =>
    obtain ⟨h1, h2⟩ := hn rfl
    have h3 : l = [] := List.eq_nil_of_length_eq_zero h1
    subst h3
    exact Src.ofNil w Try.underlying30 c
  | some a =>
    obtain ⟨g, ea, _⟩ := hA a rfl
    subst ea
    refine Src.ofSlice w Try.underlying30 ⟨g, 0, none⟩ l.length c (ints l) (by rw [ints_len]; omega) (fun j u hu => ?_) (fun u hu => ?_)
    · obtain ⟨g', e', hk⟩ := hc j u hu
      injection e' with e'
      injection e' with e'
      rw [add0, e']
      exact hk
    · unfold ints at hu
      obtain ⟨x, _, rfl⟩ := List.mem_map.1 hu
      rfl
/-- Numbers are put at the end of a row of numbers. -/
theorem app_row {w : World} {v v2 : Value} {l m : List Int} (ty : TypeId) (h : RowIs w 1 v l.length (ints l)) (h2 : RowIs w 1 v2 m.length (ints m)) (hl : l.length + m.length ≤ 16777000) : ∃ v' w', (Builtin.append_ #[30, 30] ty #[v, v2]).run Try.prog w = .ok v' w' ∧ RowIs w' 1 v' (l ++ m).length (ints (l ++ m)) ∧ Touch (fun k => v.ownBlock = some k) w w' ∧ (∀ k, v'.ownBlock = some k → v.ownBlock = some k ∨ w.heap.size ≤ k) ∧ (m = [] → v' = v ∧ w' = w) := by
  by_cases hm : m = []
  · subst hm
    obtain ⟨i0, hi, hzz, hz1, hz2⟩ := info_parts info3
    obtain ⟨A, c, e, hc, _⟩ := h.form
    subst e
    have hs : Src Try.prog i0.size 30 v2 0 [] w := by rw [hz1]; exact src_row h2
    exact ⟨_, w, run_append_nothing w 30 30 ty 3 i0 Try.underlying30 hi A l.length c hc v2 hs, by rw [List.append_nil]; exact h, Touch.refl _ _, fun k hk => .inl hk, fun _ => ⟨rfl, rfl⟩⟩
  · obtain ⟨v', w', hr, h3, h4, h5⟩ := run_append_row w 30 3 ty 30 Try.underlying30 info3 rfl (by omega) (by omega) v l.length m.length (ints l) (ints m) v2 h (src_row h2) (by omega)
    refine ⟨v', w', hr, by rw [List.length_append]; unfold ints at h3 ⊢; rw [List.map_append]; exact h3, (Touch.refl _ _).grown h4 (fun k hk _ => hk), fun k hk => ?_, fun e => (hm e).elim⟩
    rcases h5 with e | e
    · exact .inl (e ▸ hk)
    · right
      rw [e] at hk
      have := Option.some.inj hk
      omega
structure CirM (w5 W : World) (m a : Nat) (N : Nu) (av : Value) (all : List Int) : Prop where
  since : Touch (fun k => k = m ∨ k = a) w5 W
  met : ∃ L c, NAt Try.prog 3 W m N L c
  box : W.heap[a]? = some (.cells #[av] 30 (0, 0))
  row : RowIs W 1 av all.length (ints all)
  lo : m < w5.heap.size ∧ a < w5.heap.size ∧ m ≠ a
  own : ∀ k, av.ownBlock = some k → w5.heap.size ≤ k
  full : all = [] → av = .slice none 0 0
section
variable {w5 W W' : World} {m a : Nat} {N N' : Nu} {av av' : Value} {all all' : List Int}
theorem RowIs.cells_kept {w w' : World} {z : Nat} {v : Value} {n : Nat} {l : List Value} {row : Option Nat} (h : RowIs w z v n l) (hg : w.grownBy w' row) (hr : ∀ r, row = some r → ∃ o : Obj, w.heap[r]? = some o ∧ o.isCells = false) : RowIs w' z v n l := by
  rcases h with h | ⟨g, cap, rfl, h1, h2, hc⟩
  · exact .inl h
  · refine .inr ⟨g, cap, rfl, h1, h2, Nat.lt_of_lt_of_le hc.lt hg.size, hc.le, hc.max, fun j b hj => cell_kept (hc.holds j b hj) hg hr, fun j hj => ?_⟩
    obtain ⟨hs, hf⟩ := hc.there j hj
    obtain ⟨u, hu⟩ := Option.isSome_iff_exists.1 hs
    exact ⟨by rw [cell_kept hu hg hr]; rfl, (frozen_kept hu hg hr).trans hf⟩
theorem CirM.turned (h : CirM w5 W m a N av all) (hn : ∃ L c, NAt Try.prog 3 W' m N' L c) (ht : Touch (fun k => k = m) W W') : CirM w5 W' m a N' av all := by
  obtain ⟨h1, h2, h3⟩ := h.lo
  have hs := h.since.size
  refine ⟨h.since.trans ht (fun k hk e => .inl e), hn, (ht.block a (by omega) (fun e => h3 (Eq.symm e))).trans h.box, h.row.touch ht (fun k hk e => ?_), h.lo, h.own, h.full⟩
  have := h.own k hk; have e : k = m := e; omega
theorem CirM.grown (h : CirM w5 W m a N av all) {row : Option Nat} (hg : W.grownBy W' row) (hr : ∀ r, row = some r → w5.heap.size ≤ r ∧ ∃ o : Obj, W.heap[r]? = some o ∧ o.isCells = false) : CirM w5 W' m a N av all := by
  obtain ⟨h1, h2, h3⟩ := h.lo
  have hs := h.since.size
  have ht : Touch (fun k => row = some k) W W' := (Touch.refl _ _).grown hg (fun k e _ => e)
  refine ⟨h.since.trans ht (fun k hk e => by have := (hr k e).1; omega), ?_, (ht.block a (by omega) (fun e => by have := (hr a e).1; omega)).trans h.box, h.row.cells_kept hg (fun r e => (hr r e).2), h.lo, h.own, h.full⟩
  obtain ⟨L, c, hn⟩ := h.met
  exact ⟨L, c, hn.keep (ht.block m hn.map.lt (fun e => by have := (hr m e).1; omega))⟩
theorem CirM.after (h : CirM w5 W m a N av all) (hb : Below W.heap.size W W') : CirM w5 W' m a N av all := by
  obtain ⟨L, c, hn⟩ := h.met
  exact ⟨h.since.after hb, ⟨L, c, hn.keep (hb.block m hn.map.lt)⟩, (hb.block a (by have := h.lo.2.1; have := h.since.size; omega)).trans h.box, h.row.below hb, h.lo, h.own, h.full⟩
/-- Those that were met are put behind all. -/
theorem CirM.app (h : CirM w5 W m a N av all) (ha : RowIs W' 1 av' all'.length (ints all')) (hv : ∀ k, av'.ownBlock = some k → av.ownBlock = some k ∨ W.heap.size ≤ k) (ht : Touch (fun k => av.ownBlock = some k) W W') (hf : all' = [] → av' = .slice none 0 0) : CirM w5 (W'.setCell ⟨a, 0, none⟩ av') m a N av' all' := by
  obtain ⟨h1, h2, h3⟩ := h.lo
  have hs := h.since.size
  have hs2 := ht.size
  have hoa : ∀ k, av'.ownBlock = some k → w5.heap.size ≤ k := fun k hk => by
    rcases hv k hk with e | e
    · exact h.own k e
    · omega
  have hbox : W'.heap[a]? = some (.cells #[av] 30 (0, 0)) := (ht.block a (by omega) (fun e => by have := h.own a e; omega)).trans h.box
  have hts : Touch (fun k => k = a) W' (W'.setCell ⟨a, 0, none⟩ av') := (Touch.refl (fun k => k = a) W').setCell ⟨a, 0, none⟩ (fun _ => rfl) _
  refine ⟨(h.since.trans ht (fun k hk e => by have := h.own k e; omega)).trans hts (fun k hk e => .inr e), ?_, set_at hbox 0 _, ha.touch hts (fun k hk e => by have := hoa k hk; have e : k = a := e; omega), h.lo, hoa, hf⟩
  obtain ⟨L, c, hn⟩ := h.met
  refine ⟨L, c, (hn.keep (ht.block m hn.map.lt (fun e => by have := h.own m e; omega))).keep (hts.block m ?_ (fun e => h3 e))⟩
  have := hn.map.lt
  omega
theorem CirM.cells (h : CirM w5 W m a N av all) {k : Nat} (hk : av.ownBlock = some k) {o : Obj} (ho : W.heap[k]? = some o) : o.isCells = true := by
  cases all with
  | nil => rw [h.full rfl] at hk; cases hk
  | cons x all =>
    obtain ⟨A, c, e, _, _, _, hA, hc⟩ := h.row.form
    obtain ⟨g, rfl, hcell⟩ := hc 0 (.int .i64 x) rfl
    subst e
    obtain ⟨g', e1, e2⟩ := hA _ rfl
    injection e1 with e1
    rw [e2] at hk
    injection hk with hk
    obtain ⟨o', ho', hco⟩ := cells_of_cell hcell
    have ho'' : W.heap[g]? = some o' := ho'
    rw [e1, hk, ho] at ho''
    injection ho'' with ho''
    rw [ho'']
    exact hco
/-- What is no cells, and lay from the loop's beginning on, lies as it lay. -/
theorem CirM.keeps (h : CirM w5 W m a N av all) (ht : Touch (fun k => k = m ∨ k = a ∨ av.ownBlock = some k) W W') : KeepsFrom w5.heap.size W W' := by
  obtain ⟨h1, h2, _⟩ := h.lo
  refine ⟨ht.size, fun k o hB hk ho => (ht.block k (Array.getElem?_eq_some_iff.1 hk).1 (fun e => ?_)).trans hk⟩
  rcases e with e | e | e
  · omega
  · omega
  · rw [h.cells e hk] at ho
    cases ho
end
/-- What is known of those that were met, if the rounds came in order. -/
def LogI (G B : Gr) (left : List Int) (pre : List (Rnd left)) (N : Nu) (all : List Int) : Prop :=
  pre.map (·.1) = List.range pre.length → ∃ metl, DfsI B (fun _ => True) (N, [], metl) ∧ (∀ y ∈ metl, y ∈ left) ∧ (∀ y ∈ left.drop (left.length - pre.length), y ∈ metl) ∧ CircI G metl all
theorem LogI.nil (G B : Gr) (left : List Int) : LogI G B left [] [] [] := fun _ => ⟨[], DfsI.nil _ _, (fun y hy => by cases hy), (fun y hy => by simp at hy), ⟨List.nodup_nil, fun y => by simp⟩⟩
theorem LogI.snoc {G B : Gr} (hB : ∀ x y, y ∈ at_ B x ↔ x ∈ at_ G y) {left : List Int} (h : LeftI G left) {pre : List (Rnd left)} {x : Rnd left} {N N' : Nu} {met all : List Int} {who : Int} (hw : left[left.length - 1 - x.1]? = some who) (hI : LogI G B left pre N all) (hf : FromR B N [who] N' met) :
    ((1 < met.length ∨ who ∈ at_ G who) → LogI G B left (pre ++ [x]) N' (all ++ met)) ∧ (¬ (1 < met.length ∨ who ∈ at_ G who) → LogI G B left (pre ++ [x]) N' all) := by
  have key : (pre ++ [x]).map (·.1) = List.range (pre ++ [x]).length → pre.map (·.1) = List.range pre.length ∧ x.1 = pre.length := by
    intro he
    rw [List.map_append, List.length_append, List.length_singleton, List.range_succ] at he
    obtain ⟨e1, e2⟩ := List.append_inj' he rfl
    injection e2 with e2 _
    exact ⟨e1, e2⟩
  have hx := x.2
  have main : (pre ++ [x]).map (·.1) = List.range (pre ++ [x]).length → ∃ metl, DfsI B (fun _ => True) (N', [], metl ++ met) ∧ (∀ y ∈ metl ++ met, y ∈ left) ∧ (∀ y ∈ left.drop (left.length - (pre ++ [x]).length), y ∈ metl ++ met) ∧ ((1 < met.length ∨ who ∈ at_ G who) → CircI G (metl ++ met) (all ++ met)) ∧ (¬ (1 < met.length ∨ who ∈ at_ G who) → CircI G (metl ++ met) all) := by
    intro he
    obtain ⟨e1, e2⟩ := key he
    obtain ⟨metl, h1, h2, h3, h4⟩ := hI e1
    have hlt : left.length - 1 - pre.length < left.length := by omega
    have hd : left.drop (left.length - 1 - pre.length) = who :: left.drop (left.length - pre.length) := by
      have e3 := List.drop_eq_getElem_cons hlt
      rw [e3]
      have e4 : left[left.length - 1 - pre.length] = who := by
        have := (List.getElem?_eq_some_iff.1 hw).2
        rw [← this]
        congr 1
        omega
      rw [e4]
      congr 2
      omega
    have hsp : left = left.take (left.length - 1 - pre.length) ++ who :: left.drop (left.length - pre.length) := by
      rw [← hd, List.take_append_drop]
    obtain ⟨h5, h6, h7, h8, h9⟩ := h4.more hB h hsp h1 h2 h3 hf
    refine ⟨metl, h5, h6, fun y hy => ?_, h8, h9⟩
    have e5 : left.length - (pre ++ [x]).length = left.length - 1 - pre.length := by rw [List.length_append, List.length_singleton]; omega
    rw [e5, hd] at hy
    exact h7 y hy
  refine ⟨fun hyes he => ?_, fun hno he => ?_⟩
  · obtain ⟨metl, h1, h2, h3, h4, _⟩ := main he
    exact ⟨metl ++ met, h1, h2, h3, h4 hyes⟩
  · obtain ⟨metl, h1, h2, h3, _, h4⟩ := main he
    exact ⟨metl ++ met, h1, h2, h3, h4 hno⟩
/-- All that stand in a circle, rising. -/
structure CircP (l : List (Int × Int)) (c : List Int) : Prop where
  one : c.Nodup
  rise : c.Pairwise (· ≤ ·)
  mem : ∀ y, y ∈ c ↔ Circ (fun x z => (x, z) ∈ l) y
theorem EG_graphR (l : List (Int × Int)) : EG (graphR l) = fun x z => (x, z) ∈ l := by
  funext x z
  exact propext (mem_at l x z)
theorem circ_done {l : List (Int × Int)} {B : Gr} {left : List Int} (h : LeftI (graphR l) left) {ys : List (Rnd left)} {N : Nu} {all : List Int} (hy : ys.map (·.1) = List.range left.length) (hI : LogI (graphR l) B left ys N all) : CircP l (sorted all) := by
  have hlen : ys.length = left.length := by
    have := congrArg List.length hy
    rwa [List.length_map, List.length_range] at this
  obtain ⟨metl, h1, h2, h3, h4⟩ := hI (by rw [hlen]; exact hy)
  have hp := List.mergeSort_perm all fun x y => decide (x ≤ y)
  refine ⟨?_, ?_, fun y => ?_⟩
  · unfold sorted
    exact hp.nodup_iff.2 h4.one
  · unfold sorted
    have := List.pairwise_mergeSort (le := fun x y : Int => decide (x ≤ y)) (fun a b c h1 h2 => by simp at h1 h2 ⊢; omega) (fun a b => by simp; omega) all
    exact this.imp (fun h => by simpa using h)
  · unfold sorted
    rw [hp.mem_iff, h4.mem, EG_graphR]
    constructor
    · exact fun h => h.2
    · rintro ⟨z, hz, hr⟩
      have hyl : y ∈ left := (h.keys y z ((mem_at l y z).2 hz)).1
      refine ⟨h3 y ?_, ⟨z, hz, hr⟩⟩
      rw [hlen, Nat.sub_self, List.drop_zero]
      exact hyl
/-- What a walk ahead over all leaves. -/
theorem left_of {l : List (Int × Int)} {ns left : List Int} {N : Nu} (hk : KeysP l ns) (hf : FromR (graphR l) [] ns N left) : LeftI (graphR l) left ∧ left.length ≤ 2 * l.length ∧ ∀ y ∈ left, y ∈ ns := by
  obtain ⟨h1, h2, h3, h4⟩ := hf.left
  have hsub : ∀ y ∈ left, y ∈ ns := h4 (fun y => y ∈ ns) (fun y z hy hz => by
    rw [mem_at] at hz
    exact (hk.mem z).2 ⟨_, hz, .inr rfl⟩) (fun x hx => hx)
  refine ⟨⟨h1, fun y z hz => ?_, hf.path.closed⟩, Nat.le_trans (nodup_le h1 hsub) hk.few, hsub⟩
  rw [mem_at] at hz
  exact ⟨h2 y ((hk.mem y).2 ⟨_, hz, .inl rfl⟩), h2 z ((hk.mem z).2 ⟨_, hz, .inr rfl⟩)⟩
end Go.Proofs.Ytlbhpeeggbfcpaa
