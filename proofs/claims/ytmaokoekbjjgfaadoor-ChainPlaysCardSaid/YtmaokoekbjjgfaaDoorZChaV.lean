/- slices.Backward over versions. slices.Insert between others, where there is room. -/
import Derived.Test.YtmaokoekbjjgfaaDoorZChaU
import Derived.Lib.Overlaps
set_option linter.unusedSimpArgs false
set_option linter.unusedVariables false
set_option linter.unnecessarySimpa false
namespace Go.Proofs.YtmaokoekbjjgfaaDoor
open Go.RowKit Go.Shelf
attribute [local go_sem] Oper.semAt_some

/-- The rounds: round number j brings the version that stands j places ahead of the last one. -/
abbrev Rnd (l : List Ver) := { j : Nat // j < l.length }
def ver0 : Ver := ⟨0, 0, false, 0, false⟩
def rndE (l : List Ver) (x : Rnd l) : Array Value := #[.int .i64 ((l.length - 1 - x.1 : Nat) : Int), aggV ((l[l.length - 1 - x.1]?).getD ver0)]
/-- What a round leaves alone: the box of the slice and the row itself. -/
def KpB (Bs : Nat) (v : Value) (A B : World) : Prop := B.heap[Bs]? = A.heap[Bs]? ∧ ∀ g, v.ownBlock = some g → B.heap[g]? = A.heap[g]?
theorem KpB.trans {Bs : Nat} {v : Value} {A B C : World} (h : KpB Bs v A B) (k : KpB Bs v B C) : KpB Bs v A C := ⟨k.1.trans h.1, fun g hg => (k.2 g hg).trans (h.2 g hg)⟩
set_option maxRecDepth 100000 in
set_option maxHeartbeats 2000000 in
theorem back1_in (n : Nat) (hn : 1 ≤ n) (l Bs : Nat) (g : Nat) (cap : Nat) (zs : List Ver) (hlen : zs.length ≤ 1000000) (J Jx : List (Rnd zs) → World → Prop)
    (hY : ∀ pre x W, J pre W → pre.length < zs.length → YieldAt Fence.wide (n - 1) Tryd.prog l (rndE zs x) W fun e W' =>
      (e = .returned (.bool true) ∧ J (pre ++ [x]) W' ∧ KpB Bs (.slice (some ⟨g, 0, none⟩) zs.length cap) W W') ∨ (e = .returned (.bool false) ∧ Jx (pre ++ [x]) W'))
    (W : World) (hBs : W.cell? ⟨Bs, 0, none⟩ = some (.slice (some ⟨g, 0, none⟩) zs.length cap)) (hv : RowIs W 5 (.slice (some ⟨g, 0, none⟩) zs.length cap) zs.length (verC zs)) (h0 : J [] W) :
    CallsIn Fence.wide n Tryd.prog 47 #[.func (.yield l) #[] #[], .pointer (some ⟨Bs, 0, none⟩)] W fun e W' => (∃ v, e = .returned v) ∧
      ((∃ ys, ys.map (·.1) = List.range zs.length ∧ J ys W') ∨ (∃ pre, (∃ k, k ≤ zs.length ∧ pre.map (·.1) = List.range k) ∧ Jx pre W')) := by
  have hlI : (zs.length : Int) ≤ 1000000 := by omega
  refine callsIn_of_wp Tryd.func47 rfl trivial ?_ rfl
  simp only [Tryd.ntmps47, List.size_toArray, List.length_cons, List.length_nil, Nat.reduceAdd, Nat.reduceSub, Array.replicate_succ, Array.replicate_zero, List.push_toArray, List.append_toArray, List.nil_append, List.cons_append]
  gi_wp2
  gi_loopw [3] (fun i wr => ∃ (r : Nat) (pre : List (Rnd zs)), r ≤ zs.length ∧ i = .int .i64 ((r : Int) - 1) ∧ pre.map (·.1) = List.range (zs.length - r) ∧ J pre wr ∧ KpB Bs (.slice (some ⟨g, 0, none⟩) zs.length cap) W wr)
    (fun i _ => (intOf i + 1).toNat)
  case atStart => exact ⟨zs.length, [], Nat.le_refl _, rfl, by simp, h0, ⟨rfl, fun _ _ => rfl⟩⟩
  case round =>
    obtain ⟨r, pre, hr, rfl, hpre, hJs, hk⟩ := hrel
    cases r with
    | zero =>
      gi_wp2
      go_end0
      exact ⟨⟨_, rfl⟩, .inl ⟨pre, by simpa using hpre, hJs⟩⟩
    | succ r =>
      have e0 : ((r + 1 : Nat) : Int) - 1 = (r : Int) := by omega
      rw [e0]
      have hx : zs[r]? = some zs[r] := List.getElem?_eq_getElem (by omega)
      generalize zs[r] = y at hx
      have hbs2 : wr.cell? ⟨Bs, 0, none⟩ = some (.slice (some ⟨g, 0, none⟩) zs.length cap) := (World.cell?_of_block (a := ⟨Bs, 0, none⟩) hk.1).trans hBs
      obtain ⟨g', cap', ev, hc1, hc2, _, k0, k1, k2, k3, k4⟩ := hv.ver hx
      injection ev with ev _ ev3
      injection ev with ev
      injection ev with ev _ _
      subst ev
      subst ev3
      have hkk := hk.2 g rfl
      have c0 : wr.cell? ⟨g, r * 5, none⟩ = some (.int .i64 y.at_) := (World.cell?_of_block (a := ⟨g, r * 5, none⟩) hkk).trans k0
      have c1 : wr.cell? ⟨g, r * 5 + 1, none⟩ = some (.int .i64 y.n) := (World.cell?_of_block (a := ⟨g, r * 5 + 1, none⟩) hkk).trans k1
      have c2 : wr.cell? ⟨g, r * 5 + 2, none⟩ = some (.bool y.there) := (World.cell?_of_block (a := ⟨g, r * 5 + 2, none⟩) hkk).trans k2
      have c3 : wr.cell? ⟨g, r * 5 + 3, none⟩ = some (.int .i64 y.read) := (World.cell?_of_block (a := ⟨g, r * 5 + 3, none⟩) hkk).trans k3
      have c4 : wr.cell? ⟨g, r * 5 + 4, none⟩ = some (.bool y.opn) := (World.cell?_of_block (a := ⟨g, r * 5 + 4, none⟩) hkk).trans k4
      have hlt : zs.length - (r + 1) < zs.length := by omega
      have eidx : zs.length - 1 - (zs.length - (r + 1)) = r := by omega
      obtain ⟨x0, hx0⟩ : ∃ x0 : Rnd zs, x0.1 = zs.length - (r + 1) := ⟨⟨zs.length - (r + 1), hlt⟩, rfl⟩
      have hres := hY pre x0 wr hJs (by
        have := congrArg List.length hpre
        rw [List.length_map, List.length_range] at this
        omega)
      have henc : rndE zs x0 = #[.int .i64 (r : Int), .agg #[.int .i64 y.at_, .int .i64 y.n, .bool y.there, .int .i64 y.read, .bool y.opn]] := by
        unfold rndE
        simp only [hx0, eidx, hx, Option.getD_some, aggV]
      rw [henc] at hres
      obtain ⟨fn, tmps, assign, body, hy, hR⟩ := hres
      have HP : Hid ((pre ++ [x0]).map (fun x => x.1) = List.range (zs.length - r)) := Lib.hid (by
        rw [List.map_append, hpre, List.map_cons, List.map_nil, hx0]
        have e : zs.length - r = (zs.length - (r + 1)) + 1 := by omega
        rw [e, List.range_succ])
      have hi : (r : Int) < (zs.length : Int) := by omega
      have HK := Lib.hid hk
      have HR1 : Hid (r ≤ zs.length) := Lib.hid (by omega)
      have HSP : Hid (∃ k, k ≤ zs.length ∧ (pre ++ [x0]).map (fun x => x.1) = List.range k) := Lib.hid ⟨zs.length - r, by omega, HP.out⟩
      clear hk hx hpre henc hlt eidx e0 hx0 k0 k1 k2 k3 k4 hkk hc1 hc2
      gi_wp2
      refine hR.mono ?_
      rintro e W3 (⟨rfl, hJ3, hk3⟩ | ⟨rfl, hJx3⟩)
      · gi_wp2
        go_roundw
        case rel => exact ⟨r, _, HR1.out, by go_num, HP.out, hJ3, HK.out.trans hk3⟩
        case measure => simp [intOf]
      · gi_wp2
        refine bodyPost_ret (results_none rfl _ _ _) rfl ?_
        exact ⟨⟨_, rfl⟩, .inr ⟨_, HSP.out, hJx3⟩⟩
theorem back_stops (n : Nat) (hn : 1 ≤ n) (Bs : Nat) (g : Nat) (cap : Nat) (zs : List Ver) (hlen : zs.length ≤ 1000000) (w : World) (hBs : Bs < w.heap.size) (hc : w.cell? ⟨Bs, 0, none⟩ = some (.slice (some ⟨g, 0, none⟩) zs.length cap)) (hv : RowIs w 5 (.slice (some ⟨g, 0, none⟩) zs.length cap) zs.length (verC zs)) :
    SeqStopsK Fence.wide n Tryd.prog 47 #[.pointer (some ⟨Bs, 0, none⟩)] (rndE zs) (KpB Bs (.slice (some ⟨g, 0, none⟩) zs.length cap)) (fun ys => ys.map (·.1) = List.range zs.length) (fun pre => ∃ k, k ≤ zs.length ∧ pre.map (·.1) = List.range k) zs.length w := fun l J Jx W hW _ _ hY h0 =>
  back1_in n hn l Bs g cap zs hlen J Jx hY W ((hW.cell (p := ⟨Bs, 0, none⟩) hBs).trans hc) (hv.below hW) h0
end Go.Proofs.YtmaokoekbjjgfaaDoor

namespace Go.Proofs.YtmaokoekbjjgfaaDoor
open Go.RowKit Go.Shelf

theorem shape_of {w : World} {g j : Nat} (h : (w.cell? ⟨g, j, none⟩).isSome = true) : ∃ t k, w.shape? g = some (t, k) ∧ k ≠ 0 := by
  unfold World.cell? at h
  unfold World.shape?
  cases e : w.heap[g]? with
  | none => simp [e] at h
  | some o =>
    cases o with
    | cells cs t fr =>
      refine ⟨t, cs.size, rfl, fun e0 => ?_⟩
      have : cs[j]? = none := by rw [Array.getElem?_eq_none (by omega)]
      simp [e, this] at h
    | _ => simp [e] at h
theorem copy_off {P : Program} (w : World) (dT sT ty elem : TypeId) (z g p dn dc h q sn sc k : Nat) (l : List Value)
    (hu : P.underlying dT = some (.slice elem)) (hs : (P.info? elem).map (·.size) = some z) (hk : Nat.min sn dn = k) (hl : l.length = k * z)
    (hsrc : ∀ j v, l[j]? = some v → w.cell? ⟨h, q + j, none⟩ = some v) (hc : ∀ j, j < l.length → (w.cell? ⟨g, p + j, none⟩).isSome = true) (hf : ∀ j, j < l.length → w.frozen? ⟨g, p + j, none⟩ = false) (h1 : ∀ v ∈ l, v.oneCell' = true) :
    (Builtin.copy_ #[dT, sT] ty #[.slice (some ⟨g, p, none⟩) dn dc, .slice (some ⟨h, q, none⟩) sn sc]).run P w = .ok (.int .i64 k) (w.setCells g p l) := by
  have hf0 := run_firstCells_some (P := P) w z k ⟨h, q, none⟩ sn sc l hl (fun j v hj => by
    have hadd : (⟨h, q, none⟩ : Addr).add j = ⟨h, q + j, none⟩ := by unfold Addr.add; split <;> simp_all
    rw [hadd]; exact hsrc j v hj)
  have hst := run_storeCells_cells (P := P) g p l 0 w (fun j hj => by rw [Nat.add_zero]; exact hc j hj) (fun j hj => by rw [Nat.add_zero]; exact hf j hj) h1
  rw [Nat.add_zero] at hst
  cases hq : P.info? elem with
  | none => simp [hq] at hs
  | some i =>
    have hi : i.size = z := by simpa [hq] using hs
    simp only [Builtin.firstCells] at hf0
    simp [Builtin.copy_, run_underlying hu, Builtin.lenOf, Builtin.firstCells, sizeOf, typeInfo, hq, hi, hk, hf0, hst, goInt]
theorem size_ver (w : World) : (sizeOf 47).run Tryd.prog w = .ok 5 w := by kernel_rfl
theorem over_ver {W : World} {b g p : Nat} {x : Ver} (hx : W.heap[b]? = some (.cells #[.int .i64 x.at_, .int .i64 x.n, .bool x.there, .int .i64 x.read, .bool x.opn] 47 (0, 0))) (hbg : b ≠ g) {j : Nat} (hg : (W.cell? ⟨g, j, none⟩).isSome = true) (lb cb : Nat) :
    (callFunc 50 #[.slice (some ⟨b, 0, none⟩) 1 1, .slice (some ⟨g, p, none⟩) lb cb]).run Tryd.prog W = .ok (.value (.bool false)) W := by
  obtain ⟨t, k, hs, hk⟩ := shape_of hg
  rw [run_callFunc_extern Tryd.func50 (by kernel_rfl) (by kernel_rfl) (by kernel_rfl) (e := Extern.SlicesOverlaps.overlaps #[48, 48] #[4]) (by kernel_rfl),
    Lib.run_overlaps_apart W 48 4 47 Tryd.underlying48 5 size_ver ⟨b, 0, none⟩ ⟨g, p, none⟩ 1 1 lb cb hbg 47 t 5 k (by simp [World.shape?, hx]) hs hk (free0 hx 0) (free0 hx 5)]
  rfl
end Go.Proofs.YtmaokoekbjjgfaaDoor
