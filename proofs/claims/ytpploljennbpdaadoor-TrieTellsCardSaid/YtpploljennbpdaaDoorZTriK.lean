/- trie: the walk downwards, as a sequence that keeps memory of its own (gentrik.py wrote it). -/
import Derived.Test.YtpploljennbpdaaDoorZTriJ
set_option linter.unusedSimpArgs false
set_option linter.unusedVariables false
set_option linter.unnecessarySimpa false
namespace Go.Proofs.YtpploljennbpdaaDoor
open Go.RowKit Go.Shelf
attribute [local go_sem] Oper.semAt_some

theorem made_met (P : List Pth) (w : World) (hP : P.length ≤ 1000) : RowC (w.alloc (.cells (madeCells #[.bool false] P.length) 4)) 1 w.heap.size P.length (metC P []) := by
  obtain ⟨c, hm, hs, hc⟩ := World.rowIs_made w (.bool false) P.length 4
  refine ⟨heap_lt hm, by rw [metC_len]; omega, by unfold maxLen; omega, fun j b hj => ?_, fun j hj => ?_⟩
  · have hjl := (List.getElem?_eq_some_iff.1 hj).1
    rw [metC_len] at hjl
    rw [metC_at hjl] at hj
    rw [cell_of hm j, hc j hjl]
    rw [← hj]
    rfl
  · rw [Nat.mul_one] at hj
    exact ⟨by rw [cell_of hm j, hc j hj]; rfl, free0 hm j⟩
set_option maxRecDepth 100000 in
set_option maxHeartbeats 4000000 in
theorem down_foot (n : Nat) (hn : 4 ≤ n) (Bn Bt : Nat) (v : Value) (N : List Nd) (P : List Pth) (m : Int) (hP : P.length ≤ 1000) (w : World) (hBn : w.cell? ⟨Bn, 0, none⟩ = some (.int .i64 m)) (hBt : w.cell? ⟨Bt, 0, none⟩ = some v) (hv : TrAt w v N P) :
    SeqFoot Tryd.prog n 45 #[.pointer (some ⟨Bt, 0, none⟩), .pointer (some ⟨Bn, 0, none⟩)] (rndL (belowI P m)) (fun ys => ys.map (·.1) = List.range (belowI P m).length) (fun pre => ∃ k, k ≤ (belowI P m).length ∧ pre.map (·.1) = List.range k) (belowI P m).length (TrS Bn Bt v N) w := by
  intro l J Jx W hW hJ hJF hJx hY F0 h0 hD
  have hlt : ∀ k, TrS Bn Bt v N k → k < W.heap.size := fun k hk => by
    have : k < w.heap.size := by
      rcases hk with rfl | rfl | hk
      · exact heap_lt' hBn
      · exact heap_lt' hBt
      · exact hv.own_lt _ hk
    exact Nat.lt_of_lt_of_le this hW.size
  replace hBn := (hW.cell (p := ⟨Bn, 0, none⟩) (heap_lt' hBn)).trans hBn
  replace hBt := (hW.cell (p := ⟨Bt, 0, none⟩) (heap_lt' hBt)).trans hBt
  replace hv := hv.below hW
  clear hW
  obtain ⟨g, cap, rfl, hc1, hc2, hog⟩ := hv.form
  unfold maxLen at hc2
  have hlI : (P.length : Int) ≤ 1000 := by omega
  have h1n : 1 ≤ n := by omega
  have HV := Lib.hid hv
  clear hv
  refine callsIn_of_wp_marks Tryd.func45 rfl trivial ?_ rfl
  simp only [Tryd.ntmps45, List.size_toArray, List.length_cons, List.length_nil, Nat.reduceAdd, Nat.reduceSub, Array.replicate_succ, Array.replicate_zero, List.push_toArray, List.append_toArray, List.nil_append, List.cons_append]
  have hmk := run_make_row' (P := Tryd.prog) (w := W) 59 4 (.bool false) 1 Tryd.underlying59 (by kernel_rfl) rfl (kl := .i64) (kc := .i64) (n := P.length) (by omega) (by omega)
  obtain ⟨W1, hW1⟩ : ∃ W1, W1 = W.alloc (.cells (madeCells #[.bool false] P.length) 4) := ⟨_, rfl⟩
  have hb1 : Below W.heap.size W W1 := by rw [hW1]; exact below_new _
  have hs1 : W1.heap.size = W.heap.size + 1 := by rw [hW1, asz]
  have hm1 : W1.heap[W.heap.size]? = some (.cells (madeCells #[.bool false] P.length) 4 (0, 0)) := by rw [hW1]; exact alloc_at W _
  have hr1 : RowC W1 1 W.heap.size P.length (metC P []) := by rw [hW1]; exact made_met P W hP
  have HR1 := Lib.hid hr1
  have hn1 := (hb1.cell (p := ⟨Bn, 0, none⟩) (heap_lt' hBn)).trans hBn
  rw [← hW1] at hmk
  have HMK := Lib.hid hmk
  have HB1 := Lib.hid hb1
  have HS1 := Lib.hid hs1
  have HM1 := Lib.hid hm1
  clear hmk hW1 hb1 hs1 hm1 hr1
  gi_wp2
  rw [HMK.out]
  gi_wp2
  refine wpIn_loop_rounds ((belowI P m).length + 2) ?_
  refine id (α := ∀ (fuel : Nat) (L : List Nat) (pre : List (RndL (belowI P m))) (F : Nat → Prop) (S : List Int) (wr : World) (x6 x8 x15 x16 x17 x18 x19 x20 x21 x22 x23 x24 x25 x26 x27 x28 x29 x30 x31 x32 x33 x34 x35 x36 x37 x38 x39 x40 x41 x42 x43 x44 x45 x46 x47 x48 x49 x50 x51 x52 x53 x54 x55 x56 x57 x58 : Value), J pre wr F → DnAt W Bn Bt (.slice (some ⟨g, 0, none⟩) P.length cap) N P W.heap.size (W1.heap.size + 1) L ((belowI P m).take pre.length) S wr F → pre.map (·.1) = List.range pre.length → restI P S = (belowI P m).drop pre.length → pre.length ≤ (belowI P m).length → (((∀ z ∈ S, 0 ≤ z ∧ z < (P.length : Int)) ∧ (restI P S).length < fuel) ∨ (S.length = 1 ∧ (restI P S).length + 1 < fuel)) → Code.roundsIn Fence.wide n Tryd.prog _ _ fuel { tmps := #[.func (.yield l) #[] #[], .pointer (some ⟨Bt, 0, none⟩), .pointer (some ⟨Bn, 0, none⟩), undef, .slice (some ⟨W.heap.size, 0, none⟩) P.length P.length, .pointer (some ⟨W1.heap.size + 1, 0, none⟩), x6, undef, x8, .pointer (some ⟨Bt, 0, none⟩), .slice (some ⟨g, 0, none⟩) P.length cap, .int .i64 P.length, .slice (some ⟨W.heap.size, 0, none⟩) P.length P.length, .int .i64 m, .slice (some ⟨W1.heap.size, 0, none⟩) 1 1, x15, x16, x17, x18, x19, x20, x21, x22, x23, x24, x25, x26, x27, x28, x29, x30, x31, x32, x33, x34, x35, x36, x37, x38, x39, x40, x41, x42, x43, x44, x45, x46, x47, x48, x49, x50, x51, x52, x53, x54, x55, x56, x57, x58], defers := marksD L } wr) ?key _ [] [] F0 [m] _ undef undef undef undef undef undef undef undef undef undef undef undef undef undef undef undef undef undef undef undef undef undef undef undef undef undef undef undef undef undef undef undef undef undef undef undef undef undef undef undef undef undef undef undef undef undef ?start1 ?start rfl (by rw [show ([m] : List Int) = [] ++ [m] from rfl, rest_snoc]; exact List.append_nil _) (Nat.zero_le _) ?fuel
  case start1 =>
    exact hJ [] W _ F0 h0 (.of_below (HB1.out.trans (((below_new _).trans ((below_new _).mono (by rw [asz]; omega))).mono HB1.out.size)))
  case start =>
    have hb3 : Below W1.heap.size W1 ((W1.alloc (.cells #[.int .i64 m] 3)).alloc (.cells #[.slice (some ⟨W1.heap.size, 0, none⟩) 1 1] 24)) := (below_new _).trans ((below_new _).mono (by rw [asz]; omega))
    have hbx := alloc_at (W1.alloc (.cells #[.int .i64 m] 3)) (.cells #[.slice (some ⟨W1.heap.size, 0, none⟩) 1 1] 24)
    rw [asz] at hbx
    have hbq := (Below.heap_alloc (W1.alloc (.cells #[.int .i64 m] 3)) (.cells #[.slice (some ⟨W1.heap.size, 0, none⟩) 1 1] 24) W1.heap.size (by rw [asz]; omega)).trans (alloc_at W1 _)
    have hsz : ((W1.alloc (.cells #[.int .i64 m] 3)).alloc (.cells #[.slice (some ⟨W1.heap.size, 0, none⟩) 1 1] 24)).heap.size = W1.heap.size + 2 := by rw [asz, asz]
    have hs1 := HS1.out
    have nF : ∀ k, W.heap.size ≤ k → ¬ F0 k := fun k hk e => by have := hJF [] W F0 h0 k e; omega
    refine ⟨HR1.out.keep hb3.size (hb3.block _ (by omega)), ⟨_, hbx, .inr ⟨W1.heap.size, 1, rfl, rfl, Nat.le_refl _, heap_lt hbq, Nat.le_refl _, by unfold maxLen; omega, fun j b hj => ?_, fun j hj => ?_⟩, fun g' hg' => ?_⟩, ⟨Nat.le_refl _, by omega, by simp, nF _ (Nat.le_refl _)⟩, ⟨by omega, by simp, nF _ (by omega)⟩, List.nodup_nil, (fun r hr => by cases hr), fun k hk => ⟨?_, hD k hk⟩, hlt, by rw [hsz]; omega⟩
    · cases j with
      | zero => rw [cell_of hbq 0]; exact hj
      | succ j => cases j <;> cases hj
    · obtain rfl : j = 0 := by omega
      exact ⟨by rw [cell_of hbq 0]; rfl, free0 hbq 0⟩
    · have hg' : W1.heap.size = g' := Option.some.inj hg'
      subst hg'
      exact ⟨by omega, by omega, by omega, by simp, nF _ (by omega)⟩
    · have := hlt k hk
      rw [hb3.block k (by omega), HB1.out.block k this]
  case fuel =>
    by_cases hm : 0 ≤ m ∧ m < (P.length : Int)
    · exact .inl ⟨fun z hz => by rw [List.mem_singleton] at hz; subst hz; exact hm, by rw [show ([m] : List Int) = [] ++ [m] from rfl, rest_snoc]; simp [restI]⟩
    · exact .inr ⟨rfl, by rw [show ([m] : List Int) = [] ++ [m] from rfl, rest_snoc]; simp [restI]⟩
  case key =>
    intro fuel
    induction fuel with
    | zero => intro _ _ _ _ _ x6 x8 x15 x16 x17 x18 x19 x20 x21 x22 x23 x24 x25 x26 x27 x28 x29 x30 x31 x32 x33 x34 x35 x36 x37 x38 x39 x40 x41 x42 x43 x44 x45 x46 x47 x48 x49 x50 x51 x52 x53 x54 x55 x56 x57 x58 _ _ _ _ _ h; omega
    | succ fuel ih =>
      intro L pre F S wr x6 x8 x15 x16 x17 x18 x19 x20 x21 x22 x23 x24 x25 x26 x27 x28 x29 x30 x31 x32 x33 x34 x35 x36 x37 x38 x39 x40 x41 x42 x43 x44 x45 x46 x47 x48 x49 x50 x51 x52 x53 x54 x55 x56 x57 x58 hJs hDn hpre hrest hrl hfu
      rw [roundsIn_succ]
      have hT := HV.out.tree
      obtain ⟨u, hB, hru, hou⟩ := hDn.box
      have hTv := hDn.tree HV.out
      have kT := hDn.cellT hBt
      have HDN := Lib.hid hDn
      have HJ := Lib.hid hJs
      have HH : Hid (∀ k, F k → k < wr.heap.size) := Lib.hid (hJF _ _ _ hJs)
      have hBl := heap_lt hB
      have HRL := Lib.hid hrl
      have HPRE := Lib.hid hpre
      rcases List.eq_nil_or_concat S with rfl | ⟨S0, z, rfl⟩
      · have q0 := cell_of hB 0
        obtain ⟨A, c, rfl, _⟩ := hru.form
        have hr0 : pre.length = (belowI P m).length := by
          have h2 : (belowI P m).drop pre.length = [] := hrest.symm
          have := List.drop_eq_nil_iff.1 h2
          omega
        have HR0 := Lib.hid hr0
        clear hDn hJs hB hru hou hTv kT hrl hpre hrest hfu hr0
        gi_wp2
        refine leaves_marks L wr (fun r hr => (HDN.out.marks r hr).1) HDN.out.one (fun W' ht => ?_)
        refine ⟨_, results_none rfl _ _ _, ⟨_, rfl⟩, .inl ⟨pre, by have := HPRE.out; rw [HR0.out] at this; exact this, F, hJ _ _ _ _ HJ.out (ht.mono fun k _ hk => (HDN.out.marks k hk).2)⟩⟩
      · have hlS : S0.length ≤ 1000 := by
          rcases hfu with ⟨h1, _⟩ | ⟨h1, _⟩
          · have h2 := rest_len hT (S0.concat z) h1
            have h3 := congrArg List.length hrest
            rw [List.length_drop] at h3
            have h4 := belowI_le hT m
            rw [List.length_concat] at h2
            omega
          · rw [List.length_concat] at h1
            omega
        rw [List.concat_eq_append] at *
        obtain ⟨A, c, rfl, hk1, hk2, _, hkA, hkc⟩ := id hru.form
        obtain ⟨gq, rfl, kz⟩ := hkc S0.length (.int .i64 z) (by unfold ints; rw [List.map_append, List.getElem?_append_right (by rw [List.length_map]; exact Nat.le_refl _), List.length_map, Nat.sub_self]; rfl)
        have eL : (S0 ++ [z]).length = S0.length + 1 := by rw [List.length_append]; rfl
        rw [eL] at hru hB hkA hk1
        have hpop := hru.pop
        obtain ⟨hDn2, ht2⟩ := hDn.put hB (Touch.refl _ _) hpop (fun g' hg' => .inl hg') HH.out
        have hJ2 := hJ _ _ _ _ hJs (ht2.mono fun k _ hk => by
          rcases hk with rfl | hk
          · exact ⟨hDn.bxo.1, hDn.bxo.2.2⟩
          · exact ⟨(hou k hk).1, (hou k hk).2.2.2.2⟩)
        have kB := cell_of hB 0
        have fB := free0 hB 0
        have nBt : ¬ Bt = W1.heap.size + 1 := fun e => by have := hlt Bt (.inr (.inl rfl)); have := HS1.out; omega
        have HDN2 := Lib.hid hDn2
        have HJ2 := Lib.hid hJ2
        have HHA := Lib.hid (fun W => has_any (w := W) (A := some ⟨g, 0, none⟩) (n := P.length) (cap := cap) z hP)
        obtain ⟨w2, hw2⟩ : ∃ w2, w2 = wr.setCell ⟨W1.heap.size + 1, 0, none⟩ (.slice (some ⟨gq, 0, none⟩) S0.length c) := ⟨_, rfl⟩
        rw [← hw2] at HDN2 HJ2
        have kT2 := HDN2.out.cellT hBt
        have HW2 := Lib.hid hw2
        have hzI : (S0.length : Int) ≤ 1000 := by omega
        have HREST := Lib.hid hrest
        have HFU := Lib.hid hfu
        have eL2 : (S0.length : Int) + 1 - 1 = S0.length := by omega
        have hlS0 := hlS
        have HLS := Lib.hid hlS0
        obtain ⟨q, hq⟩ : ∃ q, q = S0.length := ⟨_, rfl⟩
        have HQ := Lib.hid hq
        simp only [← hq] at kz kB hk1 HDN2 HJ2 hzI eL2 hw2 HW2 hB hru hpop
        clear hq
        clear hDn2 ht2 hJ2 hpop hw2 hDn hJs hB hru hou hTv hrl hpre hrest hfu hkA hkc eL kT2
        unfold maxLen at hk2
        gi_wp2
        rw [← HW2.out]
        refine ⟨trivial, callsIn_wide.2 ((HHA.out _).mono ?_)⟩
        rintro e w3 ⟨rfl, rfl⟩
        have hbn := below_new (w := w2) (.cells #[.slice (some ⟨g, 0, none⟩) P.length cap] 27)
        obtain ⟨W3, hW3⟩ : ∃ W3, W3 = w2.alloc (.cells #[.slice (some ⟨g, 0, none⟩) P.length cap] 27) := ⟨_, rfl⟩
        rw [← hW3] at hbn ⊢
        clear hW3
        have hJ3 := hJ _ _ _ _ HJ2.out (.of_below hbn)
        have HJ3 := Lib.hid hJ3
        by_cases hz : 0 ≤ z ∧ z < (P.length : Int)
        · obtain ⟨i, rfl⟩ : ∃ i : Nat, z = (i : Int) := ⟨z.toNat, by omega⟩
          have hi : i < P.length := by omega
          have hd : decide (0 ≤ (i : Int) ∧ (i : Int) < (P.length : Int)) = true := decide_eq_true hz
          have hrd := HREST.out
          rw [rest_snoc, below_in hT hi, List.cons_append] at hrd
          have hri : (belowI P m)[pre.length]? = some i := by
            have h2 : ((belowI P m).drop pre.length)[0]? = some i := by rw [← hrd]; rfl
            rwa [List.getElem?_drop, Nat.add_zero] at h2
          have hrlt := (List.getElem?_eq_some_iff.1 hri).1
          have hno : ((belowI P m).take pre.length).contains i = false := by
            rw [Bool.eq_false_iff]
            intro e
            rw [List.contains_iff_mem] at e
            have hnd := below_nodup hT m
            rw [← List.take_append_drop pre.length (belowI P m), ← hrd, List.nodup_append] at hnd
            exact hnd.2.2 i e i (List.mem_cons_self ..) rfl
          have HDN3 := Lib.hid (HDN2.out.grow hbn)
          have kM := HDN3.out.met.holds i _ (metC_at hi)
          rw [hno] at kM
          obtain ⟨x0, hx0⟩ : ∃ x0 : RndL (belowI P m), x0.1 = pre.length := ⟨⟨pre.length, hrlt⟩, rfl⟩
          have hres := hY pre x0 _ F hJ3 hrlt
          have henc : rndL (belowI P m) x0 = #[.int .i64 (i : Int)] := by
            unfold rndL rndN
            rw [hx0, hri]
            rfl
          rw [henc] at hres
          obtain ⟨fn, tmps, assign, body, hy, hR⟩ := hres
          have HPP : Hid ((pre ++ [x0]).map (fun x => x.1) = List.range (pre ++ [x0]).length) := Lib.hid (by
            rw [List.map_append, HPRE.out, List.map_cons, List.map_nil, hx0, List.length_append, List.length_singleton, List.range_succ])
          have HSP : Hid (∃ k, k ≤ (belowI P m).length ∧ (pre ++ [x0]).map (fun x => x.1) = List.range k) := Lib.hid ⟨(pre ++ [x0]).length, by rw [List.length_append, List.length_singleton]; omega, HPP.out⟩
          have HRD := Lib.hid hrd
          have HRI := Lib.hid hri
          have HRLT := Lib.hid hrlt
          have HR := Lib.hid hR
          have hiI : (i : Int) < (P.length : Int) := hz.2
          have HI := Lib.hid hi
          rw [hd]
          clear hbn hJ3 hrd hri hrlt hno henc hR hx0 hd hi hz
          gi_wp2
          refine HR.out.mono ?_
          rintro e W4 (⟨rfl, F', hJ4, ht4, hF4⟩ | ⟨rfl, F', hJx4, ht4, hF4⟩)
          · have hDn4 := HDN3.out.round ht4 hF4
            have hH4 := hJF _ _ _ hJ4
            obtain ⟨kM4', fM4⟩ := hDn4.met.there i (by have := HI.out; omega)
            obtain ⟨uM, kM4⟩ := Option.isSome_iff_exists.1 kM4'
            have hTv4 := hDn4.tree HV.out
            obtain ⟨g', x, e', hx, y1, y2, y3, y4, kK4, hkr⟩ := hTv4.cells HI.out
            injection e' with e'
            injection e' with e'
            subst e'
            have kT4 := hDn4.cellT hBt
            obtain ⟨hDn5, ht5⟩ := hDn4.meet HI.out
            have hJ5 := hJ _ _ _ _ hJ4 (ht5.mono fun k _ hk => by subst hk; exact ⟨hDn4.gmo.1, hDn4.gmo.2.2.2⟩)
            have hTv5 := hDn5.tree HV.out
            obtain ⟨g', x', e', hx', y5, y6, y7, y8, y9, hkr5⟩ := hTv5.cells HI.out
            injection e' with e'
            injection e' with e'
            subst e'
            rw [hx] at hx'
            obtain rfl := Option.some.inj hx'
            have hkn : ∀ b, x.k.ownBlock = some b → b < W.heap.size := fun b hb => hlt b (.inr (.inr (.inr ⟨x, List.mem_of_getElem? hx, hb⟩)))
            obtain ⟨ka, kc, hxk, hkk1, hkk2, y0⟩ := id hkr5.form
            rw [hxk] at kK4 hkr5 hkn
            have nB2 : ¬ Bt = W.heap.size := fun e => by have := hlt Bt (.inr (.inl rfl)); omega
            have nG2 : ¬ g = W.heap.size := fun e => by have := hlt g (.inr (.inr (.inl hog))); omega
            have HDN5 := Lib.hid hDn5
            have HJ5 := Lib.hid hJ5
            have HH4 := Lib.hid hH4
            have HKR := Lib.hid hkr5
            have HKN := Lib.hid hkn
            obtain ⟨W5, hW5⟩ : ∃ W5, W5 = W4.setCell ⟨W.heap.size, i, none⟩ (.bool true) := ⟨_, rfl⟩
            rw [← hW5] at HDN5 HJ5 HKR
            have HW5 := Lib.hid hW5
            have HBK := Lib.hid (back_any W5 ka (kidsP P i).length kc)
            clear y0 y1 y2 y3 y4 y5 y6 y7 y8 y9 hDn4 hH4 kM4' hTv4 hkr hDn5 ht5 hJ5 hTv5 hkr5 hkn hW5 hx hxk hJ4 ht4 hF4
            unfold maxLen at hkk2
            gi_wp2
            rw [← HW5.out]
            refine ⟨trivial, callsIn_wide.2 ((HBK.out).mono ?_)⟩
            rintro e w6 ⟨rfl, rfl⟩
            gi_wp2
            have hbn6 := below_new (w := W5) (.cells #[.slice ka (kidsP P i).length kc] 24)
            have hbs := alloc_at W5 (.cells #[.slice ka (kidsP P i).length kc] 24)
            have hsz6 := asz W5 (.cells #[.slice ka (kidsP P i).length kc] 24)
            generalize W5.alloc (.cells #[.slice ka (kidsP P i).length kc] 24) = W6 at *
            have hDn6 := HDN5.out.grow hbn6
            have hJ6 := hJ _ _ _ _ HJ5.out (.of_below hbn6)
            have hH6 := hJF _ _ _ hJ6
            obtain ⟨u6, hB5, hru5, hou6⟩ := HDN5.out.box
            have hB6 := (hbn6.block _ (heap_lt hB5)).trans hB5
            have hru6 := hru5.below hbn6
            have hkr6 := HKR.out.below hbn6
            have HKL : Hid ((natI (kidsP P i)).length = (kidsP P i).length) := Lib.hid (natI_len _)
            have hkl2 : (kidsP P i).length ≤ 1000 := Nat.le_trans (length_le_of_nodup _ _ (kids_nodup P i) (fun k hk => kid_lt hk)) hP
            have hseq := back_foot (n - 1) (by omega) W5.heap.size ka kc (natI (kidsP P i)) (by have := HKL.out; omega) W6 (by rw [HKL.out]; exact cell_of hbs 0) (by rw [HKL.out]; exact hkr6)
            refine wpIn_rangeFunc_foot (n := n) h1n (gf := 55) (lb := #[.pointer (some ⟨W5.heap.size, 0, none⟩)]) rfl (enters_of Tryd.func55 (by kernel_rfl) rfl) hseq (Below.refl _ _) ?hDl (fun _ => rfl)
              (fun pr X Fi => AccTo W6 (W1.heap.size + 1) u6 (S0 ++ cameB (natI (kidsP P i)) pr) X Fi) (fun _ _ _ _ => False) (fun s X X' Fi h ht => h.kept ht) (fun s X Fi h => h.within (heap_lt hB6) (fun g' hg' => hru6.lt g' hg')) (fun c s X X' Fi h => h.elim) (fun c s X Fi h => h.elim)
              (fun k => k = W1.heap.size + 1 ∨ u6.ownBlock = some k) ?h0l ?hF0l
              (fun x => { tmps := #[.func (.yield l) #[] #[], .pointer (some ⟨Bt, 0, none⟩), .pointer (some ⟨Bn, 0, none⟩), undef, .slice (some ⟨W.heap.size, 0, none⟩) P.length P.length, .pointer (some ⟨W1.heap.size + 1, 0, none⟩), .int .i64 (i : Int), undef, .int .i64 (((natI (kidsP P i))[(natI (kidsP P i)).length - 1 - x.1]?).getD 0), .pointer (some ⟨Bt, 0, none⟩), .slice (some ⟨g, 0, none⟩) P.length cap, .int .i64 (P.length : Int), .slice (some ⟨W.heap.size, 0, none⟩) P.length P.length, .int .i64 m, .slice (some ⟨W1.heap.size, 0, none⟩) 1 1, .slice (some ⟨gq, 0, none⟩) (q + 1) c, .int .i64 ((q : Int) + 1), .bool true, .slice (some ⟨gq, 0, none⟩) (q + 1) c, .slice (some ⟨gq, 0, none⟩) (q + 1) c, .int .i64 ((q : Int) + 1), .int .i64 (q : Int), .pointer (some ⟨gq, q, none⟩), .int .i64 (i : Int), .slice (some ⟨gq, 0, none⟩) (q + 1) c, .slice (some ⟨gq, 0, none⟩) (q + 1) c, .int .i64 ((q : Int) + 1), .int .i64 (q : Int), .slice (some ⟨gq, 0, none⟩) q c, .agg #[.slice (some ⟨g, 0, none⟩) P.length cap], .int .i64 (i : Int), .bool true, .bool false, .bool false, .slice (some ⟨W.heap.size, 0, none⟩) P.length P.length, .int .i64 (i : Int), .pointer (some ⟨W.heap.size, i, none⟩), .bool false, .bool false, .func (.yield l) #[] #[], .int .i64 (i : Int), .bool true, .bool false, .slice (some ⟨W.heap.size, 0, none⟩) P.length P.length, .int .i64 (i : Int), .pointer (some ⟨W.heap.size, i, none⟩), .pointer (some ⟨Bt, 0, none⟩), .slice (some ⟨g, 0, none⟩) P.length cap, .int .i64 (i : Int), .pointer (some ⟨g, i * 3, none⟩), .pointer (some ⟨g, i * 3 + 2, none⟩), .slice ka (kidsP P i).length kc, .func (.func 55) #[] #[.pointer (some ⟨W5.heap.size, 0, none⟩)], .int .i64 (((natI (kidsP P i)).length - 1 - x.1 : Nat) : Int), .int .i64 (((natI (kidsP P i))[(natI (kidsP P i)).length - 1 - x.1]?).getD 0), x55, x56, x57, x58], defers := [] })
              ?assign ?body ?done (fun D' c pr X Fi _ _ _ h => h.elim)
            case hDl =>
              rintro k (rfl | hk)
              · rw [hsz6]; omega
              · exact hkr6.lt k (by rw [HKL.out] at hk; exact hk)
            case h0l =>
              exact AccTo.start hB6 (by simpa [cameB] using hru6)
            case hF0l =>
              have hb5 := HDN5.out.size
              rintro k (rfl | hk) (e | e)
              · have := heap_lt hB5
                omega
              · have := hru5.lt _ e
                omega
              · have := HKN.out k (by rw [HKL.out] at hk; exact hk)
                have := HS1.out
                omega
              · have := HKN.out k (by rw [HKL.out] at hk; exact hk)
                have := (hou6 k e).1
                omega
            case assign =>
              intro l' x' X K hK
              simp only [rndE]
              gi_wp2
              exact hK
            case body =>
              rintro l' pr x' X Fi hI hplt hXs
              have hcl : (S0 ++ cameB (natI (kidsP P i)) pr).length ≤ 100000 := by
                rw [List.length_append, cameB_len]
                have h1 := HLS.out
                have h2 := HKL.out
                omega
              obtain ⟨A1, c1, A2, c2, X', hq1, hrun, hq2, F2, hI2, ht2, hF2⟩ := hI.push (heap_lt hB6) (fun e => (hou6 _ e).2.2.1 rfl) hcl hXs (((natI (kidsP P i))[(natI (kidsP P i)).length - 1 - x'.1]?).getD 0)
              have HE := Lib.hid (cameB_snoc (natI (kidsP P i)) pr x')
              generalize ((natI (kidsP P i))[(natI (kidsP P i)).length - 1 - x'.1]?).getD 0 = y at *
              rw [List.append_assoc, ← HE.out] at hI2
              obtain ⟨LL, hLL⟩ : ∃ LL, LL = (S0 ++ cameB (natI (kidsP P i)) pr).length := ⟨_, rfl⟩
              rw [← hLL] at hq1 hrun hq2 hI2 ht2
              have p1 := cell_of hq1 0
              have p2 := cell_of hq2 0
              have p3 := free0 hq2 0
              have HI2 := Lib.hid hI2
              have HT2 := Lib.hid ht2
              have HF2 := Lib.hid hF2
              clear hI hI2 ht2 hF2 hq1 hq2 hLL hcl hplt hXs hB6 hru6 hB5 hru5 hou6 hDn6 hJ6 hH6 hkr6 hseq hbn6 hbs
              gi_wp2_with (gi_at_builtin; refine wpListIn_app_run rfl _ _ _ _ rfl rfl rfl hrun ?_)
              exact ⟨F2, HI2.out, HT2.out, HF2.out⟩
            case done =>
              rintro D' ys X Fi hD' hnF hys hI hDf
              rw [cameB_all hys] at hI
              obtain ⟨hDn7, ht7⟩ := hDn6.acc hB6 hI hH6
              have hJ7 := hJ _ _ _ _ hJ6 ht7
              have hDn8 := hDn7.mark hDf (by have := hDn6.size; omega) (fun e => by have := heap_lt (hDn6.marks D' e).1; omega) (fun e => by have := hH6 _ e; omega) (fun e => by have := hDn6.met.lt; omega) (fun e => by have := heap_lt hB6; omega) (fun u hu e => by
                obtain ⟨_, u', hB', _, _, hFi⟩ := hI
                rw [hu] at hB'
                have e2 : u = u' := by
                  have := Option.some.inj hB'
                  injection this with this _ _
                  exact (List.cons.inj (congrArg Array.toList this)).1
                exact hnF ((hFi D').2 (.inr (by rw [← e2]; exact e))))
              have hplen : (pre ++ [x0]).length = pre.length + 1 := by rw [List.length_append]; rfl
              have htk : (belowI P m).take (pre ++ [x0]).length = (belowI P m).take pre.length ++ [i] := by rw [hplen, List.take_add_one, HRI.out]; rfl
              rw [← htk] at hDn8
              have hrs : restI P (S0 ++ (natI (kidsP P i)).reverse) = (belowI P m).drop (pre ++ [x0]).length := by
                rw [rest_kids, hplen]
                have h9 := congrArg (List.drop 1) HRD.out
                rw [List.drop_drop] at h9
                exact h9
              have hfuel : ((∀ z ∈ S0 ++ (natI (kidsP P i)).reverse, 0 ≤ z ∧ z < (P.length : Int)) ∧ (restI P (S0 ++ (natI (kidsP P i)).reverse)).length < fuel) ∨ ((S0 ++ (natI (kidsP P i)).reverse).length = 1 ∧ (restI P (S0 ++ (natI (kidsP P i)).reverse)).length + 1 < fuel) := by
                left
                have hkin : ∀ z ∈ (natI (kidsP P i)).reverse, 0 ≤ z ∧ z < (P.length : Int) := fun z hz => by
                  rw [List.mem_reverse] at hz
                  unfold natI at hz
                  obtain ⟨k, hk, rfl⟩ := List.mem_map.1 hz
                  have := kid_lt hk
                  omega
                have hre : (restI P (S0 ++ [(i : Int)])).length = (restI P (S0 ++ (natI (kidsP P i)).reverse)).length + 1 := by
                  rw [rest_snoc, below_in hT HI.out, rest_kids, List.cons_append, List.length_cons]
                rcases HFU.out with ⟨h1, h2⟩ | ⟨h1, h2⟩
                · refine ⟨fun z hz => ?_, by omega⟩
                  rcases List.mem_append.1 hz with hz | hz
                  · exact h1 z (List.mem_append_left _ hz)
                  · exact hkin z hz
                · refine ⟨fun z hz => ?_, by omega⟩
                  rcases List.mem_append.1 hz with hz | hz
                  · rw [List.length_append] at h1
                    cases S0 with
                    | nil => cases hz
                    | cons a S0 => simp at h1
                  · exact hkin z hz
              simp only [Exit.inBlock, Exit.then]
              exact ih (D' :: L) (pre ++ [x0]) F' (S0 ++ (natI (kidsP P i)).reverse) X _ _ _ _ _ _ _ _ _ _ _ _ _ _ _ _ _ _ _ _ _ _ _ _ _ _ _ _ _ _ _ _ _ _ _ _ _ _ _ _ _ _ _ _ _ _ hJ7 hDn8 HPP.out hrs (by rw [hplen]; exact HRLT.out) hfuel
          · gi_wp2
            have hDn4 := HDN3.out.round ht4 hF4
            refine leaves_marks L W4 (fun r hr => (hDn4.marks r hr).1) hDn4.one (fun W' ht => ?_)
            exact ⟨_, results_none rfl _ _ _, ⟨_, rfl⟩, .inr ⟨pre ++ [x0], HSP.out, F', hJx _ _ _ _ hJx4 (ht.mono fun k _ hk => (hDn4.marks k hk).2)⟩⟩
        · have hd : decide (0 ≤ z ∧ z < (P.length : Int)) = false := decide_eq_false hz
          have HRS : Hid (restI P S0 = (belowI P m).drop pre.length) := Lib.hid (by
            have h := HREST.out
            rwa [rest_snoc, below_out hz, List.nil_append] at h)
          have HFF : Hid (((∀ z ∈ S0, 0 ≤ z ∧ z < (P.length : Int)) ∧ (restI P S0).length < fuel) ∨ (S0.length = 1 ∧ (restI P S0).length + 1 < fuel)) := Lib.hid (by
            rcases HFU.out with ⟨h1, _⟩ | ⟨h1, h2⟩
            · exact absurd (h1 z (by simp)) hz
            · left
              rw [rest_snoc, below_out hz, List.nil_append] at h2
              refine ⟨fun y hy => ?_, by omega⟩
              rw [List.length_append] at h1
              cases S0 with
              | nil => cases hy
              | cons a S0 => simp at h1)
          have HDN3 := Lib.hid (HDN2.out.grow hbn)
          rw [hd]
          clear hd hbn hJ3 hz
          gi_wp2
          (try simp only [Exit.inBlock, Exit.then])
          exact ih L pre F S0 _ _ _ _ _ _ _ _ _ _ _ _ _ _ _ _ _ _ _ _ _ _ _ _ _ _ _ _ _ _ _ _ _ _ _ _ _ _ _ _ _ _ _ _ _ _ _ HJ3.out HDN3.out HPRE.out HRS.out HRL.out HFF.out
end Go.Proofs.YtpploljennbpdaaDoor
