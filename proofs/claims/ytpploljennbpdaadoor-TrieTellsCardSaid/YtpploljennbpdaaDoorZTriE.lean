/- slices.Backward over a row of numbers: the numbers come, the last one first, whatever the loop's body does that leaves the row alone. -/
import Derived.Test.YtpploljennbpdaaDoorZTriD
set_option linter.unusedSimpArgs false
set_option linter.unusedVariables false
set_option linter.unnecessarySimpa false
namespace Go.Proofs.YtpploljennbpdaaDoor
open Go.RowKit Go.Shelf
attribute [local go_sem] Oper.semAt_some

/-- The rounds: round number j brings the number that stands j places ahead of the last one. -/
abbrev Rnd (l : List Int) := { j : Nat // j < l.length }
def rndE (l : List Int) (x : Rnd l) : Array Value := #[.int .i64 ((l.length - 1 - x.1 : Nat) : Int), .int .i64 ((l[l.length - 1 - x.1]?).getD 0)]
/-- What a round leaves alone: the box of the slice and the row itself. -/
def KpB (Bs : Nat) (v : Value) (A B : World) : Prop := B.heap[Bs]? = A.heap[Bs]? ∧ ∀ g, v.ownBlock = some g → B.heap[g]? = A.heap[g]?
theorem KpB.trans {Bs : Nat} {v : Value} {A B C : World} (h : KpB Bs v A B) (k : KpB Bs v B C) : KpB Bs v A C := ⟨k.1.trans h.1, fun g hg => (k.2 g hg).trans (h.2 g hg)⟩
set_option maxRecDepth 100000 in
set_option maxHeartbeats 2000000 in
theorem back1_in (n : Nat) (hn : 1 ≤ n) (l Bs : Nat) (A : Option Addr) (cap : Nat) (zs : List Int) (hlen : zs.length ≤ 1000000000) (J Jx : List (Rnd zs) → World → Prop)
    (hY : ∀ pre x W, J pre W → pre.length < zs.length → YieldAt Fence.wide (n - 1) Tryd.prog l (rndE zs x) W fun e W' =>
      (e = .returned (.bool true) ∧ J (pre ++ [x]) W' ∧ KpB Bs (.slice A zs.length cap) W W') ∨ (e = .returned (.bool false) ∧ Jx (pre ++ [x]) W'))
    (W : World) (hBs : W.cell? ⟨Bs, 0, none⟩ = some (.slice A zs.length cap)) (hv : RowIs W 1 (.slice A zs.length cap) zs.length (ints zs)) (h0 : J [] W) :
    CallsIn Fence.wide n Tryd.prog 55 #[.func (.yield l) #[] #[], .pointer (some ⟨Bs, 0, none⟩)] W fun e W' => (∃ v, e = .returned v) ∧
      ((∃ ys, ys.map (·.1) = List.range zs.length ∧ J ys W') ∨ (∃ pre, (∃ k, k ≤ zs.length ∧ pre.map (·.1) = List.range k) ∧ Jx pre W')) := by
  obtain ⟨_, _, e', hc1, hc2, _, hcA, hcc⟩ := hv.form
  injection e' with e1 _ e3
  subst e1 e3
  unfold maxLen at hc2
  have hlI : (zs.length : Int) ≤ 1000000000 := by omega
  refine callsIn_of_wp Tryd.func55 rfl trivial ?_ rfl
  simp only [Tryd.ntmps55, List.size_toArray, List.length_cons, List.length_nil, Nat.reduceAdd, Nat.reduceSub, Array.replicate_succ, Array.replicate_zero, List.push_toArray, List.append_toArray, List.nil_append, List.cons_append]
  gi_wp2
  gi_loopw [3] (fun i wr => ∃ (r : Nat) (pre : List (Rnd zs)), r ≤ zs.length ∧ i = .int .i64 ((r : Int) - 1) ∧ pre.map (·.1) = List.range (zs.length - r) ∧ J pre wr ∧ KpB Bs (.slice A zs.length cap) W wr)
    (fun i _ => (intOf i + 1).toNat)
  case atStart => exact ⟨zs.length, [], Nat.le_refl _, rfl, by simp, h0, ⟨rfl, fun _ _ => rfl⟩⟩
  case round =>
    obtain ⟨r, pre, hr, rfl, hpre, hJs, hk⟩ := hrel
    cases r with
    | zero =>
      gi_wp2
      go_end0
      exact ⟨⟨_, rfl⟩, .inl ⟨pre, by simpa using hpre, hJs⟩⟩
    | succ r =>
      have e0 : ((r + 1 : Nat) : Int) - 1 = (r : Int) := by omega
      rw [e0]
      have hx : zs[r]? = some zs[r] := List.getElem?_eq_getElem (by omega)
      generalize zs[r] = y at hx
      have hbs2 : wr.cell? ⟨Bs, 0, none⟩ = some (.slice A zs.length cap) := (World.cell?_of_block (a := ⟨Bs, 0, none⟩) hk.1).trans hBs
      obtain ⟨g, hA, kc0⟩ := hcc r (.int .i64 y) (by unfold ints; rw [List.getElem?_map, hx]; rfl)
      obtain ⟨g2, eg, hog⟩ := hcA _ hA
      have eg2 : g = g2 := by injection eg
      have kc : wr.cell? ⟨g, r, none⟩ = some (.int .i64 y) := (World.cell?_of_block (a := ⟨g, r, none⟩) (hk.2 g (by rw [eg2]; exact hog))).trans kc0
      subst hA
      have hlt : zs.length - (r + 1) < zs.length := by omega
      have eidx : zs.length - 1 - (zs.length - (r + 1)) = r := by omega
      obtain ⟨x0, hx0⟩ : ∃ x0 : Rnd zs, x0.1 = zs.length - (r + 1) := ⟨⟨zs.length - (r + 1), hlt⟩, rfl⟩
      have hres := hY pre x0 wr hJs (by
        have := congrArg List.length hpre
        rw [List.length_map, List.length_range] at this
        omega)
      have henc : rndE zs x0 = #[.int .i64 (r : Int), .int .i64 y] := by
        unfold rndE
        simp only [hx0, eidx, hx, Option.getD_some]
      rw [henc] at hres
      obtain ⟨fn, tmps, assign, body, hy, hR⟩ := hres
      have HP : Hid ((pre ++ [x0]).map (fun x => x.1) = List.range (zs.length - r)) := Lib.hid (by
        rw [List.map_append, hpre, List.map_cons, List.map_nil, hx0]
        have e : zs.length - r = (zs.length - (r + 1)) + 1 := by omega
        rw [e, List.range_succ])
      have hi : (r : Int) < (zs.length : Int) := by omega
      have HK := Lib.hid hk
      have HR1 : Hid (r ≤ zs.length) := Lib.hid (by omega)
      have HSP : Hid (∃ k, k ≤ zs.length ∧ (pre ++ [x0]).map (fun x => x.1) = List.range k) := Lib.hid ⟨zs.length - r, by omega, HP.out⟩
      clear hk hx hpre kc0 hcc hcA eg hog eg2 henc hlt eidx e0 hx0
      gi_wp2
      refine hR.mono ?_
      rintro e W3 (⟨rfl, hJ3, hk3⟩ | ⟨rfl, hJx3⟩)
      · gi_wp2
        go_roundw
        case rel => exact ⟨r, _, HR1.out, by go_num, HP.out, hJ3, HK.out.trans hk3⟩
        case measure => simp [intOf]
      · gi_wp2
        refine bodyPost_ret (results_none rfl _ _ _) rfl ?_
        exact ⟨⟨_, rfl⟩, .inr ⟨_, HSP.out, hJx3⟩⟩
set_option maxRecDepth 100000 in
set_option maxHeartbeats 2000000 in
theorem back_any (w : World) (A : Option Addr) (n cap : Nat) : Calls Tryd.prog 46 #[.slice A n cap] w fun e w' => e = .returned (.func (.func 55) #[] #[.pointer (some ⟨w.heap.size, 0, none⟩)]) ∧ w' = w.alloc (.cells #[.slice A n cap] 24) := by
  go_enter Tryd.func46, Tryd.ntmps46
  go_wp2_with fail
  go_ret
  first | trivial | exact ⟨rfl, rfl⟩
theorem back_stops (n : Nat) (hn : 1 ≤ n) (Bs : Nat) (A : Option Addr) (cap : Nat) (zs : List Int) (hlen : zs.length ≤ 1000000000) (w : World) (hBs : Bs < w.heap.size) (hc : w.cell? ⟨Bs, 0, none⟩ = some (.slice A zs.length cap)) (hv : RowIs w 1 (.slice A zs.length cap) zs.length (ints zs)) :
    SeqStopsK Fence.wide n Tryd.prog 55 #[.pointer (some ⟨Bs, 0, none⟩)] (rndE zs) (KpB Bs (.slice A zs.length cap)) (fun ys => ys.map (·.1) = List.range zs.length) (fun pre => ∃ k, k ≤ zs.length ∧ pre.map (·.1) = List.range k) zs.length w := fun l J Jx W hW _ _ hY h0 =>
  back1_in n hn l Bs A cap zs hlen J Jx hY W ((hW.cell (p := ⟨Bs, 0, none⟩) hBs).trans hc) (hv.below hW) h0
end Go.Proofs.YtpploljennbpdaaDoor
