/- trie: the walk upwards, as a sequence. -/
import Derived.Test.YtpploljennbpdaaDoorZTriE
set_option linter.unusedSimpArgs false
set_option linter.unusedVariables false
set_option linter.unnecessarySimpa false
namespace Go.Proofs.YtpploljennbpdaaDoor
open Go.RowKit Go.Shelf
attribute [local go_sem] Oper.semAt_some

/-- The rounds over a list of nodes. -/
abbrev RndL (l : List Nat) := { j : Nat // j < l.length }
def rndN (l : List Nat) (j : Nat) : Nat := (l[j]?).getD 0
def rndL (l : List Nat) (x : RndL l) : Array Value := #[.int .i64 (rndN l x.1 : Int)]
theorem rndN_at {l : List Nat} {j : Nat} (hj : j < l.length) : l[j]? = some (rndN l j) := by
  unfold rndN
  rw [List.getElem?_eq_getElem hj]
  rfl
/-- What a round leaves alone. -/
def KpS (S : Nat → Prop) (A B : World) : Prop := A.heap.size ≤ B.heap.size ∧ ∀ k, S k → B.heap[k]? = A.heap[k]?
theorem KpS.refl (S : Nat → Prop) (A : World) : KpS S A A := ⟨Nat.le_refl _, fun _ _ => rfl⟩
theorem KpS.trans {S : Nat → Prop} {A B C : World} (h : KpS S A B) (k : KpS S B C) : KpS S A C := ⟨Nat.le_trans h.1 k.1, fun g hg => (k.2 g hg).trans (h.2 g hg)⟩
theorem grown_none {A B : World} (h : Below A.heap.size A B) : A.grownBy B none := ⟨h.os, h.tape, h.output, h.size, fun k hk _ => h.block k hk⟩
theorem KpS.of_below {S : Nat → Prop} {A B : World} {b : Nat} (h : Below b A B) (hS : ∀ k, S k → k < b) : KpS S A B := ⟨h.size, fun k hk => h.block k (hS k hk)⟩
/-- The nodes from a number up; none, if it is none. -/
def aboveI (P : List Pth) (m : Int) : List Nat := if 0 ≤ m ∧ m < (P.length : Int) then aboveP P m.toNat else []
def TrS (Bn Bt : Nat) (v : Value) (N : List Nd) (k : Nat) : Prop := k = Bn ∨ k = Bt ∨ TrOwn v N k
theorem TrAt.kps {w w' : World} {v : Value} {N : List Nd} {P : List Pth} {S : Nat → Prop} (h : TrAt w v N P) (hk : KpS S w w') (hS : ∀ g, TrOwn v N g → S g) : TrAt w' v N P :=
  ⟨h.tree, h.row.keep hk.1 (fun g hg => hk.2 g (hS g (.inl hg))), h.len, h.nums, fun i x hx => (h.kid i x hx).keep hk.1 (fun g hg => hk.2 g (hS g (.inr ⟨x, List.mem_of_getElem? hx, hg⟩))), h.off, h.apart⟩
/-- The node that the walk stands at behind so many rounds; -1 behind the root. -/
def atI (P : List Pth) (m : Int) (r : Nat) : Int := match (aboveI P m)[r]? with | some k => (k : Int) | none => if r = 0 then m else -1
theorem at_zero (P : List Pth) (m : Int) (hT : TreeP P) : atI P m 0 = m := by
  unfold atI aboveI
  split
  · rename_i k hk
    split at hk
    · rename_i h
      obtain ⟨i, rfl⟩ : ∃ i : Nat, m = (i : Int) := ⟨m.toNat, by omega⟩
      have hi : i < P.length := by omega
      have hp := List.getElem?_eq_getElem hi
      rw [Int.toNat_natCast, above_at hT hp (Nat.zero_le _), Nat.sub_zero, List.take_length, hT.idx hp] at hk
      rw [Option.some.inj hk]
    · cases hk
  · rfl
theorem at_in {P : List Pth} {m : Int} (hT : TreeP P) {r : Nat} (hr : r ≤ (aboveI P m).length) : (0 ≤ atI P m r ∧ atI P m r < (P.length : Int)) ↔ r < (aboveI P m).length := by
  constructor
  · intro h
    by_cases hlt : r < (aboveI P m).length
    · exact hlt
    · exfalso
      unfold atI at h
      rw [List.getElem?_eq_none (by omega)] at h
      simp only at h
      by_cases h0 : r = 0
      · rw [if_pos h0] at h
        have hlen : (aboveI P m).length = 0 := by omega
        unfold aboveI at hlen
        rw [if_pos h, above_len (List.getElem?_eq_getElem (by omega))] at hlen
        omega
      · rw [if_neg h0] at h
        omega
  · intro h
    unfold atI
    rw [List.getElem?_eq_getElem h]
    have hm : (aboveI P m)[r] ∈ aboveI P m := List.getElem_mem h
    generalize (aboveI P m)[r] = k at hm
    unfold aboveI at hm
    split at hm
    · have := above_lt hT hm
      show (0 : Int) ≤ (k : Int) ∧ (k : Int) < _
      omega
    · cases hm
theorem at_nat {P : List Pth} {m : Int} {r k : Nat} (hr : (aboveI P m)[r]? = some k) : atI P m r = (k : Int) := by unfold atI; rw [hr]
theorem at_up {P : List Pth} {m : Int} (hT : TreeP P) {r k : Nat} (hr : (aboveI P m)[r]? = some k) : atI P m (r + 1) = upP P k := by
  have hrl := (List.getElem?_eq_some_iff.1 hr).1
  unfold atI
  unfold aboveI at hr hrl ⊢
  split at hr
  · rename_i h
    rw [if_pos h] at hrl ⊢
    obtain ⟨i, rfl⟩ : ∃ i : Nat, m = (i : Int) := ⟨m.toNat, by omega⟩
    have hi : i < P.length := by omega
    have hp := List.getElem?_eq_getElem hi
    rw [Int.toNat_natCast] at hr hrl ⊢
    rw [above_len hp] at hrl
    rw [above_at hT hp (by omega)] at hr
    have hr := Option.some.inj hr
    by_cases hlt : r < P[i].length
    · rw [above_at hT hp (by omega), ← hr, above_up hT hp hlt]
    · have e : r = P[i].length := by omega
      rw [List.getElem?_eq_none (by rw [above_len hp]; omega)]
      simp only
      rw [if_neg (by omega), ← hr, e, Nat.sub_self, List.take_zero, hT.idx hT.root, up_root]
  · cases hr
theorem aboveI_le {P : List Pth} {m : Int} (hT : TreeP P) : (aboveI P m).length ≤ P.length := by
  unfold aboveI
  split
  · rename_i h
    have hp : P[m.toNat]? = some (P[m.toNat]'(by omega)) := List.getElem?_eq_getElem _
    rw [above_len hp]
    exact above_le hT hp
  · exact Nat.zero_le _
set_option maxRecDepth 100000 in
set_option maxHeartbeats 2000000 in
theorem up_in (n : Nat) (hn : 1 ≤ n) (l Bn Bt : Nat) (v : Value) (N : List Nd) (P : List Pth) (m : Int) (hP : P.length ≤ 1000) (J Jx : List (RndL (aboveI P m)) → World → Prop)
    (hJg : ∀ s (W W' : World), J s W → W.grownBy W' none → J s W')
    (hY : ∀ pre x W, J pre W → pre.length < (aboveI P m).length → YieldAt Fence.wide (n - 1) Tryd.prog l (rndL (aboveI P m) x) W fun e W' =>
      (e = .returned (.bool true) ∧ J (pre ++ [x]) W' ∧ KpS (TrS Bn Bt v N) W W') ∨ (e = .returned (.bool false) ∧ Jx (pre ++ [x]) W'))
    (W : World) (hBn : W.cell? ⟨Bn, 0, none⟩ = some (.int .i64 m)) (hBt : W.cell? ⟨Bt, 0, none⟩ = some v) (hv : TrAt W v N P) (h0 : J [] W) :
    CallsIn Fence.wide n Tryd.prog 43 #[.func (.yield l) #[] #[], .pointer (some ⟨Bn, 0, none⟩), .pointer (some ⟨Bt, 0, none⟩)] W fun e W' => (∃ v, e = .returned v) ∧
      ((∃ ys, ys.map (·.1) = List.range (aboveI P m).length ∧ J ys W') ∨ (∃ pre, (∃ k, k ≤ (aboveI P m).length ∧ pre.map (·.1) = List.range k) ∧ Jx pre W')) := by
  obtain ⟨g, cap, rfl, hc1, hc2, hog⟩ := hv.form
  unfold maxLen at hc2
  have hlI : (P.length : Int) ≤ 1000 := by omega
  have hT := hv.tree
  have hle := aboveI_le (m := m) hT
  have hgW : g < W.heap.size := hv.row.lt g hog
  refine callsIn_of_wp Tryd.func43 rfl trivial ?_ rfl
  simp only [Tryd.ntmps43, List.size_toArray, List.length_cons, List.length_nil, Nat.reduceAdd, Nat.reduceSub, Array.replicate_succ, Array.replicate_zero, List.push_toArray, List.append_toArray, List.nil_append, List.cons_append]
  have HV := Lib.hid hv
  have HT := Lib.hid hT
  clear hv hT
  gi_wp2
  gi_loopw [4, 9] (fun a i wr => ∃ (r : Nat) (pre : List (RndL (aboveI P m))), r ≤ (aboveI P m).length ∧ a = .int .i64 (atI P m r) ∧ i = .int .i64 (r : Int) ∧ pre.map (·.1) = List.range r ∧ J pre wr ∧ KpS (TrS Bn Bt (.slice (some ⟨g, 0, none⟩) P.length cap) N) W wr)
    (fun _ i _ => P.length - (intOf i).toNat)
  case atStart => exact ⟨0, [], Nat.zero_le _, by rw [at_zero P m HT.out], rfl, rfl, h0, KpS.refl _ _⟩
  case round =>
    obtain ⟨r, pre, hr, rfl, rfl, hpre, hJs, hk⟩ := hrel
    have hbt2 : wr.cell? ⟨Bt, 0, none⟩ = some (.slice (some ⟨g, 0, none⟩) P.length cap) := (World.cell?_of_block (a := ⟨Bt, 0, none⟩) (hk.2 _ (.inr (.inl rfl)))).trans hBt
    have hv2 := HV.out.kps hk (fun g hg => .inr (.inr hg))
    have HK := Lib.hid hk
    have HJ := Lib.hid hJs
    have HHA := Lib.hid (fun W => has_any (w := W) (A := some ⟨g, 0, none⟩) (n := P.length) (cap := cap) (atI P m r) hP)
    by_cases hlt : r < (aboveI P m).length
    · have hin := (at_in HT.out hr).2 hlt
      obtain ⟨k, hkr⟩ : ∃ k, (aboveI P m)[r]? = some k := ⟨_, List.getElem?_eq_getElem hlt⟩
      have hak := at_nat hkr
      have HUP := Lib.hid (at_up HT.out hkr)
      have hd : decide (0 ≤ atI P m r ∧ atI P m r < (P.length : Int)) = true := decide_eq_true hin
      rw [hak] at hin hd HHA ⊢
      rw [hd] at HHA
      have hkP : k < P.length := by omega
      obtain ⟨x0, hx0⟩ : ∃ x0 : RndL (aboveI P m), x0.1 = r := ⟨⟨r, hlt⟩, rfl⟩
      have henc : rndL (aboveI P m) x0 = #[.int .i64 (k : Int)] := by
        unfold rndL rndN
        rw [hx0, hkr]
        rfl
      have hbn := below_new (w := wr) (.cells #[.slice (some ⟨g, 0, none⟩) P.length cap] 27)
      have hres := hY pre x0 (wr.alloc (.cells #[.slice (some ⟨g, 0, none⟩) P.length cap] 27)) (hJg _ _ _ hJs (grown_none hbn)) (by
        have := congrArg List.length hpre
        rw [List.length_map, List.length_range] at this
        omega)
      rw [henc] at hres
      obtain ⟨fn, tmps, assign, body, hy, hR⟩ := hres
      have HPP : Hid ((pre ++ [x0]).map (fun x => x.1) = List.range (r + 1)) := Lib.hid (by
        rw [List.map_append, hpre, List.map_cons, List.map_nil, hx0, List.range_succ])
      have HSP : Hid (∃ k, k ≤ (aboveI P m).length ∧ (pre ++ [x0]).map (fun x => x.1) = List.range k) := Lib.hid ⟨r + 1, by omega, HPP.out⟩
      have hrP : (r : Int) < (P.length : Int) := by omega
      have hkI : (k : Int) < (P.length : Int) := by omega
      have HKN : Hid (∀ g', TrS Bn Bt (.slice (some ⟨g, 0, none⟩) P.length cap) N g' → g' < W.heap.size) := Lib.hid (fun g' hg' => by
        rcases hg' with rfl | rfl | hg'
        · exact heap_lt' hBn
        · exact heap_lt' hBt
        · exact HV.out.own_lt _ hg')
      have HK2 := Lib.hid (HK.out.trans (KpS.of_below hbn (fun k' hk' => by have := HKN.out k' hk'; have := HK.out.1; omega)))
      have HR := Lib.hid hR
      have HLT := Lib.hid hlt
      have HLE := Lib.hid hle
      clear hbn hk hJs hpre hlt hr hin hak hkr henc hx0 hd hR hle hv2
      gi_wp2
      refine ⟨trivial, callsIn_wide.2 ((HHA.out _).mono ?_)⟩
      rintro e w1 ⟨rfl, rfl⟩
      gi_wp2
      refine HR.out.mono ?_
      rintro e W3 (⟨rfl, hJ3, hk3⟩ | ⟨rfl, hJx3⟩)
      · have HK4 := Lib.hid (HK2.out.trans hk3)
        have hbt3 : W3.cell? ⟨Bt, 0, none⟩ = some (.slice (some ⟨g, 0, none⟩) P.length cap) := (World.cell?_of_block (a := ⟨Bt, 0, none⟩) (HK4.out.2 _ (.inr (.inl rfl)))).trans hBt
        obtain ⟨g', x, e', _, _, _, _, k1, _, _⟩ := (HV.out.kps HK4.out (fun g hg => .inr (.inr hg))).cells hkP
        injection e' with e'
        injection e' with e'
        subst e'
        rw [← HUP.out] at k1
        have HJ3 := Lib.hid hJ3
        clear hJ3 hk3 hbt2
        gi_wp2
        go_roundw
        case rel => exact ⟨r + 1, _, by have := HLT.out; omega, rfl, by go_num, HPP.out, HJ3.out, HK4.out⟩
        case measure => have := HLT.out; have := HLE.out; simp [intOf]; omega
      · gi_wp2
        refine bodyPost_ret (results_none rfl _ _ _) rfl ?_
        exact ⟨⟨_, rfl⟩, .inr ⟨_, HSP.out, hJx3⟩⟩
    · have er : r = (aboveI P m).length := by omega
      have hnin : ¬ (0 ≤ atI P m r ∧ atI P m r < (P.length : Int)) := fun e => hlt ((at_in HT.out hr).1 e)
      have hd : decide (0 ≤ atI P m r ∧ atI P m r < (P.length : Int)) = false := decide_eq_false hnin
      rw [hd] at HHA
      have HPP : Hid (pre.map (fun x => x.1) = List.range (aboveI P m).length) := Lib.hid (by rw [hpre, er])
      have hbn := below_new (w := wr) (.cells #[.slice (some ⟨g, 0, none⟩) P.length cap] 27)
      have HJ2 := Lib.hid (hJg _ _ _ hJs (grown_none hbn))
      obtain ⟨z, hz⟩ : ∃ z, atI P m r = z := ⟨_, rfl⟩
      rw [hz] at HHA ⊢
      by_cases hrP : (r : Int) < (P.length : Int)
      · clear hbn hk hJs hpre hlt hr hnin hd hle hv2 er hz
        gi_wp2
        refine ⟨trivial, callsIn_wide.2 ((HHA.out _).mono ?_)⟩
        rintro e w1 ⟨rfl, rfl⟩
        gi_wp2
        all_goals (refine ⟨(fun f h => by cases h), ?_⟩)
        all_goals gi_wp2
        all_goals (refine bodyPost_ret (results_none rfl _ _ _) rfl ?_)
        all_goals exact ⟨⟨_, rfl⟩, .inl ⟨pre, HPP.out, HJ2.out⟩⟩
      · clear hbn hk hJs hpre hlt hr hnin hd hle hv2 er hz
        gi_wp2
        go_end0
        exact ⟨⟨_, rfl⟩, .inl ⟨pre, HPP.out, HJ.out⟩⟩
set_option maxRecDepth 100000 in
set_option maxHeartbeats 2000000 in
theorem upwards_any (w : World) (v : Value) (m : Int) (hv : v.oneCell' = true) : Calls Tryd.prog 32 #[.agg #[v], .int .i64 m] w fun e w' => e = .returned (.func (.func 43) #[] #[.pointer (some ⟨w.heap.size + 1, 0, none⟩), .pointer (some ⟨w.heap.size, 0, none⟩)]) ∧ w' = (w.alloc (.cells #[v] 27)).alloc (.cells #[.int .i64 m] 3) := by
  go_enter Tryd.func32, Tryd.ntmps32
  go_wp2_with fail
  go_ret
  first | trivial | exact ⟨rfl, rfl⟩
theorem up_stops (n : Nat) (hn : 1 ≤ n) (Bn Bt : Nat) (v : Value) (N : List Nd) (P : List Pth) (m : Int) (hP : P.length ≤ 1000) (w : World) (hBn : w.cell? ⟨Bn, 0, none⟩ = some (.int .i64 m)) (hBt : w.cell? ⟨Bt, 0, none⟩ = some v) (hv : TrAt w v N P) :
    SeqStopsK Fence.wide n Tryd.prog 43 #[.pointer (some ⟨Bn, 0, none⟩), .pointer (some ⟨Bt, 0, none⟩)] (rndL (aboveI P m)) (KpS (TrS Bn Bt v N)) (fun ys => ys.map (·.1) = List.range (aboveI P m).length) (fun pre => ∃ k, k ≤ (aboveI P m).length ∧ pre.map (·.1) = List.range k) (aboveI P m).length w := fun l J Jx W hW hJ hJx hY h0 =>
  up_in n hn l Bn Bt v N P m hP J Jx (fun s W W' h hg => hJ s W W' none h hg (fun r e => by cases e)) hY W ((hW.cell (p := ⟨Bn, 0, none⟩) (heap_lt' hBn)).trans hBn) ((hW.cell (p := ⟨Bt, 0, none⟩) (heap_lt' hBt)).trans hBt) (hv.below hW) h0
end Go.Proofs.YtpploljennbpdaaDoor
