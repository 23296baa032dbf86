/- trie: the law TriePaths (gentrjf.py wrote it). -/
import Derived.Test.YtpploljennbpdaaDoorZTrjE
set_option linter.unusedSimpArgs false
set_option linter.unusedVariables false
set_option linter.unnecessarySimpa false
namespace Go.Proofs.YtpploljennbpdaaDoor
open Go.RowKit Go.Shelf

/-- A tree, its leaves and the paths, as the law holds them; all of it lies below. -/
structure Held (W0 : World) (bx : Nat) (A : Option Addr) (nt cap : Nat) (N : List Nd) (L : List Pth) (ov : Value) (gl : Option Addr) (V : List Nat) (W : World) : Prop where
  box : W.cell? ⟨bx, 0, none⟩ = some (.slice A nt cap)
  tree : TrAt W (.slice A nt cap) N (treeP L)
  leaf : ∀ (i n : Nat), V[i]? = some n → ∃ g, gl = some ⟨g, 0, none⟩ ∧ W.cell? ⟨g, i, none⟩ = some (.int .i64 (n : Int))
  paths : PsIs W ov L
  glob : Glob W
  below : Below W0.heap.size W0 W
theorem Held.on {W0 : World} {bx : Nat} {A : Option Addr} {nt cap : Nat} {N : List Nd} {L : List Pth} {ov : Value} {gl : Option Addr} {V : List Nat} {W W' : World} (h : Held W0 bx A nt cap N L ov gl V W) (hb : Below W.heap.size W W') : Held W0 bx A nt cap N L ov gl V W' :=
  ⟨(hb.cell (p := ⟨bx, 0, none⟩) (heap_lt' h.box)).trans h.box, h.tree.below hb, fun i n hi => by
    obtain ⟨g, e, hc⟩ := h.leaf i n hi
    exact ⟨g, e, (hb.cell (p := ⟨g, i, none⟩) (heap_lt' hc)).trans hc⟩, h.paths.below hb, h.glob.below hb, h.below.trans (hb.mono h.below.size)⟩
/-- A list of numbers of one's own stays. -/
theorem row_cell {W : World} {A : Option Addr} {n c : Nat} {p : List Int} (h : SIs W (.slice A n c) p) {i : Nat} {x : Int} (hx : p[i]? = some x) {W' : World} (hb : Below W.heap.size W W') : ∃ a : Addr, A = some a ∧ W'.cell? (a.add i) = some (.int .i64 x) := by
  obtain ⟨a, e, hl, hc⟩ := h.at hx
  exact ⟨a, e, (hb.cell (p := a.add i) (by rw [add_block]; exact hl)).trans hc⟩
set_option maxRecDepth 100000 in
set_option maxHeartbeats 4000000 in
theorem law_paths {w : World} {v : Value} {L1 : List Pth} (hG : Glob w) (h : PsIs w v L1) : Calls Tryd.prog 5 #[v] w fun e w' => e = .returned (.bool true) ∧ Below w.heap.size w w' := by
  have HCU := Lib.hid (Cut_any h)
  have HG := Lib.hid hG
  obtain ⟨A0, cap0, rfl, hc01, hc02⟩ := h.form
  unfold maxLen at hc02
  obtain ⟨L, hL⟩ : ∃ L, cutP L1 = L := ⟨_, rfl⟩
  have hl10 : L.length ≤ 1000 := by rw [← hL]; have := cut_len L1; omega
  have hp10 : ∀ p ∈ L, p.length ≤ 1000 := by rw [← hL]; exact fun p hp => by have := cut_short hp; omega
  unfold CutP at HCU
  rw [hL] at HCU
  have HL10 := Lib.hid hl10
  have HP10 := Lib.hid hp10
  clear h hL hG hl10 hp10
  go_enter Tryd.func5, Tryd.ntmps5
  go_wp2_with fail
  refine (HCU.out).mono ?_
  rintro e w1 ⟨ov, vs, rfl, hpr, hb1⟩
  have hps := hpr.is
  have HB1 := Lib.hid hb1
  have HPS := Lib.hid hps
  have HBD := Lib.hid (Build_any (HG.out.below hb1) hps HL10.out HP10.out)
  have HG1 := Lib.hid (HG.out.below hb1)
  clear hpr hb1 hps HCU
  go_wp2_with fail
  refine (HBD.out).mono ?_
  rintro e w2 ⟨hb2, hr⟩
  have HB2 := Lib.hid (HB1.out.trans (hb2.mono HB1.out.size))
  have HG2 := Lib.hid (HG1.out.below hb2)
  rcases hr with ⟨h0, rfl⟩ | ⟨h0, tv, N, rfl, ht, _⟩
  · have h0b : (bcode L == 0) = false := beq_eq_false_iff_ne.2 h0
    obtain ⟨c, hc⟩ : ∃ c, bcode L = c := ⟨_, rfl⟩
    rw [hc] at h0b h0 ⊢
    have hb3 := below_new (w := w2) (.cells #[.slice none 0 0] 27)
    have HAW := Lib.hid (awake_any (HG2.out.below hb3))
    have HB3 := Lib.hid (HB2.out.trans (hb3.mono HB2.out.size))
    clear hb2 hb3 hc HBD HPS
    go_wp2_with fail
    refine (HAW.out).mono ?_
    rintro e w4 ⟨rfl, hb4⟩
    have HB4 := Lib.hid (HB3.out.trans (hb4.mono HB3.out.size))
    clear hb4
    go_wp2_with fail
    refine bodyPost_ret (v := .bool true) (by simp [results, Tryd.results5, go_sem]) rfl ⟨rfl, HB4.out⟩
  · obtain ⟨g, cap, rfl, hc1, hc2, _⟩ := ht.form
    unfold maxLen at hc2
    have H0 := Lib.hid h0
    obtain ⟨hL0, hL8, hne, h8, hgd⟩ := bcode_good h0
    have hTl : (treeP L).length ≤ 1000 := by have := tree_len L h8; omega
    have HTL := Lib.hid hTl
    obtain ⟨hVl, _⟩ := leaf_at h0
    have hbx := alloc_at w2 (.cells #[.slice (some ⟨g, 0, none⟩) (treeP L).length cap] 27)
    have hb3 : Below w2.heap.size w2 (w2.alloc (.cells #[.slice (some ⟨g, 0, none⟩) (treeP L).length cap] 27)) := below_new _
    obtain ⟨w3, hw3⟩ : ∃ w3, w3 = w2.alloc (.cells #[.slice (some ⟨g, 0, none⟩) (treeP L).length cap] 27) := ⟨_, rfl⟩
    rw [← hw3] at hbx hb3
    have HW3 := Lib.hid hw3
    have ht3 := ht.below hb3
    have HLV := Lib.hid (Leaves_any ht3 hTl)
    have HT3 := Lib.hid ht3
    have HB3 := Lib.hid (HB2.out.trans (hb3.mono HB2.out.size))
    have HG3 := Lib.hid (HG2.out.below hb3)
    have HP3 := Lib.hid ((HPS.out.below hb2).below hb3)
    have q3 := cell_of hbx 0
    have HBX := Lib.hid hbx
    obtain ⟨oA, ocap, hov, ho1, ho2⟩ := HPS.out.form
    subst hov
    unfold maxLen at ho2
    have hL8I : (L.length : Int) ≤ 8 := by omega
    have hVb : (((leavesP (treeP L)).length : Int) != (L.length : Int)) = false := by rw [hVl]; simp
    have HVL := Lib.hid hVl
    obtain ⟨V, hV⟩ : ∃ V, leavesP (treeP L) = V := ⟨_, rfl⟩
    rw [hV] at hVb HVL
    have HV := Lib.hid hV
    have hVI : (V.length : Int) = (L.length : Int) := by have := HVL.out; omega
    have HVI := Lib.hid hVI
    have hV8 : (V.length : Int) ≤ 8 := by omega
    obtain ⟨nt, hnt⟩ : ∃ nt, (treeP L).length = nt := ⟨_, rfl⟩
    rw [hnt] at q3 HLV HT3 HBX hc1 hTl HW3 ⊢
    obtain ⟨bx, hbxe⟩ : ∃ bx, w2.heap.size = bx := ⟨_, rfl⟩
    rw [hbxe] at q3 HBX
    have HBE := Lib.hid hbxe
    clear hb2 ht ht3 hbx hb3 hw3 h0 hL0 hL8 hne h8 hgd hVl hV hVI hnt hbxe HBD HPS q3
    go_wp2_with fail
    rw [← HW3.out, HBE.out]
    have q3 := cell_of HBX.out 0
    go_wp2_with fail
    refine (HLV.out).mono ?_
    rintro e w4 ⟨lv, rfl, hrow, _, hb4⟩
    rw [HV.out] at hrow
    obtain ⟨lA, lcap, rfl, hl1, hl2, _, _, hlc⟩ := hrow.form
    unfold maxLen at hl2
    have hheld : Held w bx (some ⟨g, 0, none⟩) nt cap N L (.slice oA L.length ocap) lA V w4 :=
      ⟨(hb4.cell (p := ⟨bx, 0, none⟩) (heap_lt' q3)).trans q3, HT3.out.below hb4, fun i n hi => by
        obtain ⟨g, e, hc⟩ := hlc i _ (natI_at hi)
        exact ⟨g, e, hc⟩, HP3.out.below hb4, HG3.out.below hb4, HB3.out.trans (hb4.mono HB3.out.size)⟩
    have HE := Lib.hid hheld
    clear hb4 hrow hlc hheld q3 HLV HT3 HP3 HG3 HB3
    go_wp2_with fail
    clear hVb
    go_loopw [32] (fun iv wr => ∃ i : Nat, i ≤ V.length ∧ iv = .int .i64 i ∧ Held w bx (some ⟨g, 0, none⟩) nt cap N L (.slice oA L.length ocap) lA V wr) (fun iv _ => V.length - (intOf iv).toNat)
    case atStart => exact ⟨0, Nat.zero_le _, rfl, HE.out⟩
    case round =>
      obtain ⟨i, hi, rfl, hh⟩ := hrel
      obtain ⟨W, rfl⟩ : ∃ W, W = wr := ⟨_, rfl⟩
      have HH := Lib.hid hh
      by_cases hlt : i < V.length
      · have hx : V[i]? = some V[i] := List.getElem?_eq_getElem hlt
        generalize V[i] = a at hx
        obtain ⟨p, hLi, hTa⟩ := (leaf_at H0.out).2 i a (by rw [HV.out]; exact hx)
        obtain ⟨gl, rfl, kl⟩ := hh.leaf i a hx
        have qb := hh.box
        have hiI : (i : Int) < (V.length : Int) := by omega
        have hiL : (i : Int) < (L.length : Int) := by have := HVI.out; omega
        have HLI := Lib.hid hLi
        have HTA := Lib.hid hTa
        have HX := Lib.hid hx
        have HPA := Lib.hid (Path_any (a : Int) hh.tree HTL.out)
        rw [path_nat hTa] at HPA
        have HLT := Lib.hid hlt
        clear hi hlt hx hLi hTa hh
        go_wp2_with fail
        refine (HPA.out).mono ?_
        rintro e w5 ⟨pv, rfl, hrp, _, hb5⟩
        have hh5 := HH.out.on hb5
        have HH5 := Lib.hid hh5
        have hsp := hrp.sis
        obtain ⟨pA, pcap, rfl, hp1, hp2⟩ := hsp.form
        unfold maxLen at hp2
        obtain ⟨ap, ppv, rfl, _, kp, hsp2⟩ := hh5.paths.at HLI.out
        have hpl : p.length ≤ 1000 := HP10.out p (List.mem_of_getElem? HLI.out)
        have HSA := Lib.hid (Same_any hsp hsp2 (by omega) (by omega))
        have hsame : sameB p p = true := decide_eq_true rfl
        rw [hsame] at HSA
        have HSP := Lib.hid hsp
        have HPL := Lib.hid hpl
        clear hb5 hh5 hrp hsp hsp2 hsame hpl HPA qb kl
        go_wp2_with fail
        refine (HSA.out).mono ?_
        rintro e w6 ⟨rfl, hb6⟩
        have HH6 := Lib.hid (HH5.out.on hb6)
        have HS6 := Lib.hid (HSP.out.below hb6)
        clear hb6 kp HSA HH5 HSP
        go_wp2_with fail
        go_loopw [49] (fun iv wr => ∃ k : Nat, k ≤ V.length ∧ iv = .int .i64 k ∧ Held w bx (some ⟨g, 0, none⟩) nt cap N L (.slice (some ap) L.length ocap) (some ⟨gl, 0, none⟩) V wr ∧ SIs wr (.slice pA p.length pcap) p) (fun iv _ => V.length - (intOf iv).toNat)
        case atStart => exact ⟨0, Nat.zero_le _, rfl, HH6.out, HS6.out⟩
        case round =>
          obtain ⟨k, hk, rfl, hh, hsp⟩ := hrel
          have HK := Lib.hid hh
          have HSP := Lib.hid hsp
          by_cases hlt : k < V.length
          · have hx : V[k]? = some V[k] := List.getElem?_eq_getElem hlt
            generalize V[k] = b at hx
            obtain ⟨gl', egl, kl⟩ := hh.leaf k b hx
            injection egl with egl
            injection egl with egl
            subst egl
            have hkI : (k : Int) < (V.length : Int) := by omega
            have HLK := Lib.hid hlt
            by_cases hik : i = k
            · subst hik
              have hb : ((i : Int) == (i : Int)) = true := beq_self_eq_true _
              clear hk hlt hx hh hsp
              go_wp2_with fail
              go_roundw
              case rel => exact ⟨i + 1, HLK.out, by go_num, HK.out, HSP.out⟩
              case measure => have := HLK.out; simp [intOf]; omega
            · have hb : ((i : Int) == (k : Int)) = false := by rw [beq_eq_false_iff_ne]; omega
              obtain ⟨p', q, r, m, x, y, e1, e2, e3, e4, e5, e6, e7, e8, e9, e10, e11, e12, e13⟩ := two_leaves H0.out hik (by rw [HV.out]; exact HX.out) (by rw [HV.out]; exact hx)
              obtain rfl : p = p' := Option.some.inj (HLI.out.symm.trans e1)
              have HPB := Lib.hid (Path_any (b : Int) hh.tree HTL.out)
              rw [path_nat e4] at HPB
              have hql : q.length ≤ 1000 := HP10.out q (List.mem_of_getElem? e2)
              have HE := Lib.hid (And.intro e5 (And.intro e6 (And.intro e7 (And.intro e8 (And.intro e9 (And.intro e10 (And.intro e11 (And.intro e12 e13))))))))
              have HQL := Lib.hid hql
              have HIK := Lib.hid hik
              have qb := hh.box
              clear hk hlt hx hh hsp e1 e2 e3 e4 e5 e6 e7 e8 e9 e10 e11 e12 e13 hql hik
              go_wp2_with fail
              refine (HPB.out).mono ?_
              rintro e w7 ⟨qv, rfl, hrq, _, hb7⟩
              have hh7 := HK.out.on hb7
              have HH7 := Lib.hid hh7
              have hsp7 := HSP.out.below hb7
              have HSP7 := Lib.hid hsp7
              have hsq := hrq.sis
              obtain ⟨qA, qcap, rfl, hq1, hq2⟩ := hsq.form
              unfold maxLen at hq2
              have HSQ := Lib.hid hsq
              obtain ⟨e5, e6, e7, e8, e9, e10, e11, e12, e13⟩ := HE.out
              obtain ⟨z, hz⟩ : ∃ z, r.length = z := ⟨_, rfl⟩
              rw [hz] at e7 e8 e10 e11 e12
              have HME : Hid (∀ W, Below w7.heap.size w7 W → Calls Tryd.prog 20 #[.agg #[.slice (some ⟨g, 0, none⟩) nt cap], .int .i64 (a : Int), .int .i64 (b : Int)] W fun e w' => e = .returned (.int .i64 (m : Int)) ∧ Below W.heap.size W w') := Lib.hid (fun W hW => by
                have := Meet_any (a : Int) (b : Int) (hh7.tree.below hW) HTL.out
                rwa [e5] at this)
              have HPM : Hid (∀ W, Below w7.heap.size w7 W → Calls Tryd.prog 13 #[.agg #[.slice (some ⟨g, 0, none⟩) nt cap], .int .i64 (m : Int)] W fun e w' => ∃ rA rc, e = .returned (.slice rA z rc) ∧ Below W.heap.size W w') := Lib.hid (fun W hW => by
                refine (Path_any (m : Int) (hh7.tree.below hW) HTL.out).mono ?_
                rintro e w' ⟨rv, rfl, hr, _, hb⟩
                rw [e6] at hr
                obtain ⟨rA, rc, rfl, _⟩ := hr.form
                exact ⟨rA, rc, by rw [hz], hb⟩)
              have HPR : Hid (∀ W, Below w7.heap.size w7 W → Calls Tryd.prog 22 #[.agg #[.slice (some ⟨g, 0, none⟩) nt cap], .int .i64 (a : Int), .int .i64 (b : Int)] W fun e w' => e = .returned (.bool (decide (i < k))) ∧ Below W.heap.size W w') := Lib.hid (fun W hW => by
                have := Prefers_any (a : Int) (b : Int) (hh7.tree.below hW) HTL.out
                rwa [e13] at this)
              have HBG : Hid (∀ W, Below w7.heap.size w7 W → Calls Tryd.prog 26 #[.slice pA z pcap, .slice qA q.length qcap] W fun e w' => e = .returned (.bool true) ∧ Below W.heap.size W w') := Lib.hid (fun W hW => by
                have := Begins_any ((hsp7.below hW).take (k := z) (by omega)) (hsq.below hW) (by rw [List.length_take]; have := HPL.out; omega) (by have := HQL.out; omega)
                rwa [e10] at this)
              obtain ⟨pa, epa, _⟩ := row_cell hsp7 e7 (Below.refl _ _)
              obtain ⟨qa, eqa, _⟩ := row_cell hsq e8 (Below.refl _ _)
              subst epa eqa
              have HALL : Hid (∀ W, Below w7.heap.size w7 W → W.cell? ⟨bx, 0, none⟩ = some (.slice (some ⟨g, 0, none⟩) nt cap) ∧ W.cell? (pa.add z) = some (.int .i64 x) ∧ W.cell? (qa.add z) = some (.int .i64 y)) := Lib.hid (fun W hW => by
                obtain ⟨pa', ep, kp⟩ := row_cell hsp7 e7 hW
                obtain ⟨qa', eq, kq⟩ := row_cell hsq e8 hW
                cases ep
                cases eq
                exact ⟨(hh7.on hW).box, kp, kq⟩)
              have hxy : (x == y) = false := beq_eq_false_iff_ne.2 e9
              have z1 : (z : Int) < (p.length : Int) := by omega
              have z2 : (z : Int) < (q.length : Int) := by omega
              have z3 : ¬ (p.length : Int) < (z : Int) := by omega
              have z4 : ¬ (q.length : Int) < (z : Int) := by omega
              have z5 : z ≤ pcap := by omega
              have HZ := Lib.hid (And.intro z1 (And.intro z2 (And.intro z3 (And.intro z4 z5))))
              have HXY := Lib.hid hxy
              clear hb7 hh7 hsp7 hrq hsq e5 e6 e7 e8 e9 e10 e11 e12 e13 hz hxy z1 z2 z3 z4 z5 qb kl HPB HE HSP HSQ
              go_wp2_with fail
              have HS := Lib.hid (HALL.out _ (below_drew (Below.refl _ w7))).1
              refine wp_region_held_drew (S := fun W => W.cell? ⟨bx, 0, none⟩ = some (.slice (some ⟨g, 0, none⟩) nt cap)) (by kernel_rfl) HS.out (fun hHeld => ?_)
              refine wpAnyH_take (i := 0) (oi := { dst := some 60, op := Op.load 27 (Operand.tmp 3), type := 27, pos := "law.go:121", after := #[], guard := none }) (v := ?vv1) rfl (by kernel_rfl) (by kernel_rfl) (by kernel_rfl) (fun _ _ _ h => h) ?hy1 (by assumption) ?rest1
              case hy1 => (refine Or.inl ⟨by rfl, ?_⟩; intro W hSw; (try dsimp only at hSw); go_simp; (try with_reducible rfl))
              try simp only [Act.put, List.setIfInBounds_toArray, List.set_cons_zero, List.set_cons_succ]
              refine wpAnyH_take (i := 1) (oi := { dst := some 61, op := Op.load 27 (Operand.tmp 3), type := 27, pos := "law.go:121", after := #[], guard := none }) (v := ?vv2) rfl (by kernel_rfl) (by kernel_rfl) (by kernel_rfl) (fun _ _ _ h => h) ?hy2 (by assumption) ?rest2
              case hy2 => (refine Or.inl ⟨by rfl, ?_⟩; intro W hSw; (try dsimp only at hSw); go_simp; (try with_reducible rfl))
              try simp only [Act.put, List.setIfInBounds_toArray, List.set_cons_zero, List.set_cons_succ]
              refine wpAnyH_take (i := 2) (oi := { dst := some 62, op := Op.move (Operand.tmp 7), type := 3, pos := "law.go:121", after := #[], guard := none }) (v := ?vv3) rfl (by kernel_rfl) (by kernel_rfl) (by kernel_rfl) (fun _ _ _ h => h) ?hy3 (by assumption) ?rest3
              case hy3 => (refine Or.inl ⟨by rfl, ?_⟩; intro W hSw; (try dsimp only at hSw); go_simp; (try with_reducible rfl))
              try simp only [Act.put, List.setIfInBounds_toArray, List.set_cons_zero, List.set_cons_succ]
              refine wpAnyH_take (i := 3) (oi := { dst := some 63, op := Op.move (Operand.tmp 10), type := 3, pos := "law.go:121", after := #[], guard := none }) (v := ?vv4) rfl (by kernel_rfl) (by kernel_rfl) (by kernel_rfl) (fun _ _ _ h => h) ?hy4 (by assumption) ?rest4
              case hy4 => (refine Or.inl ⟨by rfl, ?_⟩; intro W hSw; (try dsimp only at hSw); go_simp; (try with_reducible rfl))
              try simp only [Act.put, List.setIfInBounds_toArray, List.set_cons_zero, List.set_cons_succ]
              refine wpAnyH_ready (rs := [4]) (by kernel_rfl) (by simp) ?_
              refine AllReadyH.cons (o := { dst := some 64, op := Op.call { callee := Callee.value (Operand.func 20), args := #[Operand.tmp 61, Operand.tmp 62, Operand.tmp 63], argTypes := #[27, 3, 3] }, type := 3, pos := "law.go:121", after := #[{ on := 1, ground := Ground.data }, { on := 2, ground := Ground.data }, { on := 3, ground := Ground.data }], guard := none }) rfl (fun K hK => ?step5) ?more5
              case more5 => exact AllReadyH.nil
              ((go_simp; go_at_call 20; refine (HME.out _ (below_drew (Below.refl _ w7))).mono ?_; rintro e w8 ⟨rfl, hb8⟩; go_wp2_with fail))
              refine hK.out _ _ ?hS5 (fun hHeld => ?rr5)
              case hS5 => (exact (HALL.out _ (below_of_drew hb8)).1)
              clear hK K
              try simp only [Act.put, List.setIfInBounds_toArray, List.set_cons_zero, List.set_cons_succ]
              have hc8 : Below w7.heap.size w7 w8 := below_of_drew hb8
              have HC8 := Lib.hid hc8
              refine wpAnyH_ready (rs := [5]) (by kernel_rfl) (by simp) ?_
              refine AllReadyH.cons (o := { dst := some 65, op := Op.call { callee := Callee.value (Operand.func 13), args := #[Operand.tmp 60, Operand.tmp 64], argTypes := #[27, 3] }, type := 24, pos := "law.go:121", after := #[{ on := 0, ground := Ground.data }, { on := 4, ground := Ground.data }, { on := 4, ground := Ground.chain }], guard := none }) rfl (fun K hK => ?step6) ?more6
              case more6 => exact AllReadyH.nil
              ((go_simp; go_at_call 13; refine (HPM.out _ HC8.out).mono ?_; rintro e w9 ⟨rA, rc, rfl, hb9⟩; go_wp2_with fail))
              refine hK.out _ _ ?hS6 (fun hHeld => ?rr6)
              case hS6 => (exact (HALL.out _ (HC8.out.trans (hb9.mono HC8.out.size))).1)
              clear hK K
              try simp only [Act.put, List.setIfInBounds_toArray, List.set_cons_zero, List.set_cons_succ]
              have HC9 := Lib.hid (HC8.out.trans (hb9.mono HC8.out.size))
              refine wpAnyH_take (i := 6) (oi := { dst := some 66, op := Op.call { callee := Callee.builtin Builtin.len, args := #[Operand.tmp 65], argTypes := #[24] }, type := 3, pos := "law.go:121", after := #[{ on := 5, ground := Ground.data }], guard := none }) (v := ?vv7) rfl (by kernel_rfl) (by kernel_rfl) (by kernel_rfl) (fun _ _ _ h => h) ?hy7 (by assumption) ?rest7
              case hy7 => (refine Or.inl ⟨by rfl, ?_⟩; intro W hSw; (try dsimp only at hSw); go_simp; (try with_reducible rfl))
              try simp only [Act.put, List.setIfInBounds_toArray, List.set_cons_zero, List.set_cons_succ]
              refine wpAnyH_take (i := 7) (oi := { dst := some 12, op := Op.assign (Operand.tmp 66), type := 3, pos := "law.go:121", after := #[{ on := 6, ground := Ground.data }, { on := 5, ground := Ground.chain }, { on := 0, ground := Ground.phase }, { on := 1, ground := Ground.phase }, { on := 2, ground := Ground.phase }, { on := 3, ground := Ground.phase }, { on := 4, ground := Ground.phase }, { on := 5, ground := Ground.phase }, { on := 6, ground := Ground.phase }], guard := none }) (v := ?vv8) rfl (by kernel_rfl) (by kernel_rfl) (by kernel_rfl) (fun _ _ _ h => h) ?hy8 (by assumption) ?rest8
              case hy8 => (refine Or.inl ⟨by rfl, ?_⟩; intro W hSw; (try dsimp only at hSw); go_simp; (try with_reducible rfl))
              try simp only [Act.put, List.setIfInBounds_toArray, List.set_cons_zero, List.set_cons_succ]
              refine wpAnyH_done (by kernel_rfl) ?_ _
              clear hHeld HS hb8 hc8 hb9 HME HPM
              go_wp2_with fail
              by_cases hikl : i < k
              · have hlk : (i : Int) < (k : Int) := by omega
                have hdk : decide (i < k) = true := decide_eq_true hikl
                rw [hdk] at HPR
                obtain ⟨z1, z2, z3, z4, z5⟩ := HZ.out
                have hxy := HXY.out
                have HS := Lib.hid (HALL.out _ (below_drew HC9.out))
                clear hikl hdk
                refine wp_region_held_drew (S := fun W => W.cell? ⟨bx, 0, none⟩ = some (.slice (some ⟨g, 0, none⟩) nt cap) ∧ W.cell? (pa.add z) = some (.int .i64 x) ∧ W.cell? (qa.add z) = some (.int .i64 y)) (by kernel_rfl) HS.out (fun hHeld => ?_)
                refine wpAnyH_take (i := 0) (oi := { dst := some 67, op := Op.move (Operand.tmp 12), type := 3, pos := "law.go:122", after := #[], guard := none }) (v := ?vv9) rfl (by kernel_rfl) (by kernel_rfl) (by kernel_rfl) (fun _ _ _ h => h) ?hy9 (by assumption) ?rest9
                case hy9 => (refine Or.inl ⟨by rfl, ?_⟩; intro W hSw; (try dsimp only at hSw); go_simp; (try with_reducible rfl))
                try simp only [Act.put, List.setIfInBounds_toArray, List.set_cons_zero, List.set_cons_succ]
                refine wpAnyH_take (i := 1) (oi := { dst := some 68, op := Op.move (Operand.tmp 8), type := 24, pos := "law.go:122", after := #[], guard := none }) (v := ?vv10) rfl (by kernel_rfl) (by kernel_rfl) (by kernel_rfl) (fun _ _ _ h => h) ?hy10 (by assumption) ?rest10
                case hy10 => (refine Or.inl ⟨by rfl, ?_⟩; intro W hSw; (try dsimp only at hSw); go_simp; (try with_reducible rfl))
                try simp only [Act.put, List.setIfInBounds_toArray, List.set_cons_zero, List.set_cons_succ]
                refine wpAnyH_take (i := 2) (oi := { dst := some 69, op := Op.call { callee := Callee.builtin Builtin.len, args := #[Operand.tmp 68], argTypes := #[24] }, type := 3, pos := "law.go:122", after := #[{ on := 1, ground := Ground.data }], guard := none }) (v := ?vv11) rfl (by kernel_rfl) (by kernel_rfl) (by kernel_rfl) (fun _ _ _ h => h) ?hy11 (by assumption) ?rest11
                case hy11 => (refine Or.inl ⟨by rfl, ?_⟩; intro W hSw; (try dsimp only at hSw); go_simp; (try with_reducible rfl))
                try simp only [Act.put, List.setIfInBounds_toArray, List.set_cons_zero, List.set_cons_succ]
                refine wpAnyH_take (i := 3) (oi := { dst := some 70, op := Op.binOp BinOp.gtr 3 (Operand.tmp 67) (Operand.tmp 69) 3, type := 4, pos := "law.go:122", after := #[{ on := 0, ground := Ground.data }, { on := 2, ground := Ground.data }], guard := none }) (v := (.bool false)) rfl (by kernel_rfl) (by kernel_rfl) (by kernel_rfl) (fun _ _ _ h => h) ?hy12 (by assumption) ?rest12
                case hy12 => ((refine Or.inl ⟨by rfl, ?_⟩; intro W hSw; (try dsimp only at hSw); go_simp; (first | done | with_reducible rfl | omega | (refine congrArg Value.bool ?_; first | exact decide_eq_false (by omega) | exact decide_eq_true (by omega) | simp_all))))
                try simp only [Act.put, List.setIfInBounds_toArray, List.set_cons_zero, List.set_cons_succ]
                refine wpAnyH_take (i := 4) (oi := { dst := some 71, op := Op.move (Operand.tmp 70), type := 4, pos := "law.go:122", after := #[{ on := 3, ground := Ground.data }], guard := none }) (v := ?vv13) rfl (by kernel_rfl) (by kernel_rfl) (by kernel_rfl) (fun _ _ _ h => h) ?hy13 (by assumption) ?rest13
                case hy13 => (refine Or.inl ⟨by rfl, ?_⟩; intro W hSw; (try dsimp only at hSw); go_simp; (try with_reducible rfl))
                try simp only [Act.put, List.setIfInBounds_toArray, List.set_cons_zero, List.set_cons_succ]
                refine wpAnyH_take (i := 5) (oi := { dst := some 72, op := Op.move (Operand.tmp 12), type := 3, pos := "law.go:122", after := #[{ on := 4, ground := Ground.guard }], guard := some (4, false) }) (v := ?vv14) rfl (by kernel_rfl) (by kernel_rfl) (by kernel_rfl) (fun _ _ _ h => h) ?hy14 (by assumption) ?rest14
                case hy14 => (refine Or.inl ⟨by rfl, ?_⟩; intro W hSw; (try dsimp only at hSw); go_simp; (try with_reducible rfl))
                try simp only [Act.put, List.setIfInBounds_toArray, List.set_cons_zero, List.set_cons_succ]
                refine wpAnyH_take (i := 6) (oi := { dst := some 73, op := Op.move (Operand.tmp 11), type := 24, pos := "law.go:122", after := #[{ on := 4, ground := Ground.guard }], guard := some (4, false) }) (v := ?vv15) rfl (by kernel_rfl) (by kernel_rfl) (by kernel_rfl) (fun _ _ _ h => h) ?hy15 (by assumption) ?rest15
                case hy15 => (refine Or.inl ⟨by rfl, ?_⟩; intro W hSw; (try dsimp only at hSw); go_simp; (try with_reducible rfl))
                try simp only [Act.put, List.setIfInBounds_toArray, List.set_cons_zero, List.set_cons_succ]
                refine wpAnyH_take (i := 7) (oi := { dst := some 74, op := Op.call { callee := Callee.builtin Builtin.len, args := #[Operand.tmp 73], argTypes := #[24] }, type := 3, pos := "law.go:122", after := #[{ on := 6, ground := Ground.data }, { on := 4, ground := Ground.guard }], guard := some (4, false) }) (v := ?vv16) rfl (by kernel_rfl) (by kernel_rfl) (by kernel_rfl) (fun _ _ _ h => h) ?hy16 (by assumption) ?rest16
                case hy16 => (refine Or.inl ⟨by rfl, ?_⟩; intro W hSw; (try dsimp only at hSw); go_simp; (try with_reducible rfl))
                try simp only [Act.put, List.setIfInBounds_toArray, List.set_cons_zero, List.set_cons_succ]
                refine wpAnyH_take (i := 8) (oi := { dst := some 75, op := Op.binOp BinOp.gtr 3 (Operand.tmp 72) (Operand.tmp 74) 3, type := 4, pos := "law.go:122", after := #[{ on := 5, ground := Ground.data }, { on := 7, ground := Ground.data }, { on := 4, ground := Ground.guard }], guard := some (4, false) }) (v := (.bool false)) rfl (by kernel_rfl) (by kernel_rfl) (by kernel_rfl) (fun _ _ _ h => h) ?hy17 (by assumption) ?rest17
                case hy17 => ((refine Or.inl ⟨by rfl, ?_⟩; intro W hSw; (try dsimp only at hSw); go_simp; (first | done | with_reducible rfl | omega | (refine congrArg Value.bool ?_; first | exact decide_eq_false (by omega) | exact decide_eq_true (by omega) | simp_all))))
                try simp only [Act.put, List.setIfInBounds_toArray, List.set_cons_zero, List.set_cons_succ]
                refine wpAnyH_take (i := 9) (oi := { dst := some 76, op := Op.pick (Operand.tmp 71) (Operand.const (Value.bool true)) (Operand.tmp 75), type := 4, pos := "law.go:122", after := #[{ on := 4, ground := Ground.data }, { on := 8, ground := Ground.data }], guard := none }) (v := (.bool false)) rfl (by kernel_rfl) (by kernel_rfl) (by kernel_rfl) (fun _ _ _ h => h) ?hy18 (by assumption) ?rest18
                case hy18 => ((refine Or.inl ⟨by rfl, ?_⟩; intro W hSw; (try dsimp only at hSw); go_simp; (first | done | with_reducible rfl | omega | (refine congrArg Value.bool ?_; first | exact decide_eq_false (by omega) | exact decide_eq_true (by omega) | simp_all))))
                try simp only [Act.put, List.setIfInBounds_toArray, List.set_cons_zero, List.set_cons_succ]
                refine wpAnyH_take (i := 10) (oi := { dst := some 77, op := Op.move (Operand.tmp 76), type := 4, pos := "law.go:122", after := #[{ on := 9, ground := Ground.data }, { on := 4, ground := Ground.chain }], guard := none }) (v := ?vv19) rfl (by kernel_rfl) (by kernel_rfl) (by kernel_rfl) (fun _ _ _ h => h) ?hy19 (by assumption) ?rest19
                case hy19 => (refine Or.inl ⟨by rfl, ?_⟩; intro W hSw; (try dsimp only at hSw); go_simp; (try with_reducible rfl))
                try simp only [Act.put, List.setIfInBounds_toArray, List.set_cons_zero, List.set_cons_succ]
                refine wpAnyH_take (i := 11) (oi := { dst := some 78, op := Op.load 27 (Operand.tmp 3), type := 27, pos := "law.go:122", after := #[{ on := 10, ground := Ground.guard }], guard := some (10, false) }) (v := ?vv20) rfl (by kernel_rfl) (by kernel_rfl) (by kernel_rfl) (fun _ _ _ h => h) ?hy20 (by assumption) ?rest20
                case hy20 => (refine Or.inl ⟨by rfl, ?_⟩; intro W hSw; (try dsimp only at hSw); go_simp; (try with_reducible rfl))
                try simp only [Act.put, List.setIfInBounds_toArray, List.set_cons_zero, List.set_cons_succ]
                refine wpAnyH_take (i := 12) (oi := { dst := some 79, op := Op.move (Operand.tmp 7), type := 3, pos := "law.go:122", after := #[{ on := 10, ground := Ground.guard }], guard := some (10, false) }) (v := ?vv21) rfl (by kernel_rfl) (by kernel_rfl) (by kernel_rfl) (fun _ _ _ h => h) ?hy21 (by assumption) ?rest21
                case hy21 => (refine Or.inl ⟨by rfl, ?_⟩; intro W hSw; (try dsimp only at hSw); go_simp; (try with_reducible rfl))
                try simp only [Act.put, List.setIfInBounds_toArray, List.set_cons_zero, List.set_cons_succ]
                refine wpAnyH_take (i := 13) (oi := { dst := some 80, op := Op.move (Operand.tmp 10), type := 3, pos := "law.go:122", after := #[{ on := 10, ground := Ground.guard }], guard := some (10, false) }) (v := ?vv22) rfl (by kernel_rfl) (by kernel_rfl) (by kernel_rfl) (fun _ _ _ h => h) ?hy22 (by assumption) ?rest22
                case hy22 => (refine Or.inl ⟨by rfl, ?_⟩; intro W hSw; (try dsimp only at hSw); go_simp; (try with_reducible rfl))
                try simp only [Act.put, List.setIfInBounds_toArray, List.set_cons_zero, List.set_cons_succ]
                refine wpAnyH_take (i := 15) (oi := { dst := some 82, op := Op.move (Operand.tmp 6), type := 3, pos := "law.go:122", after := #[{ on := 10, ground := Ground.guard }], guard := some (10, false) }) (v := ?vv23) rfl (by kernel_rfl) (by kernel_rfl) (by kernel_rfl) (fun _ _ _ h => h) ?hy23 (by assumption) ?rest23
                case hy23 => (refine Or.inl ⟨by rfl, ?_⟩; intro W hSw; (try dsimp only at hSw); go_simp; (try with_reducible rfl))
                try simp only [Act.put, List.setIfInBounds_toArray, List.set_cons_zero, List.set_cons_succ]
                refine wpAnyH_take (i := 16) (oi := { dst := some 83, op := Op.move (Operand.tmp 9), type := 3, pos := "law.go:122", after := #[{ on := 10, ground := Ground.guard }], guard := some (10, false) }) (v := ?vv24) rfl (by kernel_rfl) (by kernel_rfl) (by kernel_rfl) (fun _ _ _ h => h) ?hy24 (by assumption) ?rest24
                case hy24 => (refine Or.inl ⟨by rfl, ?_⟩; intro W hSw; (try dsimp only at hSw); go_simp; (try with_reducible rfl))
                try simp only [Act.put, List.setIfInBounds_toArray, List.set_cons_zero, List.set_cons_succ]
                refine wpAnyH_take (i := 17) (oi := { dst := some 84, op := Op.binOp BinOp.lss 3 (Operand.tmp 82) (Operand.tmp 83) 3, type := 4, pos := "law.go:122", after := #[{ on := 15, ground := Ground.data }, { on := 16, ground := Ground.data }, { on := 10, ground := Ground.guard }], guard := some (10, false) }) (v := (.bool true)) rfl (by kernel_rfl) (by kernel_rfl) (by kernel_rfl) (fun _ _ _ h => h) ?hy25 (by assumption) ?rest25
                case hy25 => ((refine Or.inl ⟨by rfl, ?_⟩; intro W hSw; (try dsimp only at hSw); go_simp; (first | done | with_reducible rfl | omega | (refine congrArg Value.bool ?_; first | exact decide_eq_false (by omega) | exact decide_eq_true (by omega) | simp_all))))
                try simp only [Act.put, List.setIfInBounds_toArray, List.set_cons_zero, List.set_cons_succ]
                refine wpAnyH_ready (rs := [14]) (by kernel_rfl) (by simp) ?_
                refine AllReadyH.cons (o := { dst := some 81, op := Op.call { callee := Callee.value (Operand.func 22), args := #[Operand.tmp 78, Operand.tmp 79, Operand.tmp 80], argTypes := #[27, 3, 3] }, type := 4, pos := "law.go:122", after := #[{ on := 11, ground := Ground.data }, { on := 12, ground := Ground.data }, { on := 13, ground := Ground.data }, { on := 10, ground := Ground.chain }, { on := 10, ground := Ground.guard }], guard := some (10, false) }) rfl (fun K hK => ?step26) ?more26
                case more26 => exact AllReadyH.nil
                ((go_simp; go_at_call 22; refine (HPR.out _ (below_drew HC9.out)).mono ?_; rintro e w10 ⟨rfl, hb10⟩; go_wp2_with fail))
                refine hK.out _ _ ?hS26 (fun hHeld => ?rr26)
                case hS26 => (exact HALL.out _ (HC9.out.trans ((below_of_drew hb10).mono HC9.out.size)))
                clear hK K
                try simp only [Act.put, List.setIfInBounds_toArray, List.set_cons_zero, List.set_cons_succ]
                have HC10 := Lib.hid (HC9.out.trans ((below_of_drew hb10).mono HC9.out.size))
                refine wpAnyH_take (i := 18) (oi := { dst := some 85, op := Op.binOp BinOp.neq 4 (Operand.tmp 81) (Operand.tmp 84) 4, type := 4, pos := "law.go:122", after := #[{ on := 14, ground := Ground.data }, { on := 17, ground := Ground.data }, { on := 10, ground := Ground.guard }], guard := some (10, false) }) (v := (.bool false)) rfl (by kernel_rfl) (by kernel_rfl) (by kernel_rfl) (fun _ _ _ h => h) ?hy27 (by assumption) ?rest27
                case hy27 => ((refine Or.inl ⟨by rfl, ?_⟩; intro W hSw; (try dsimp only at hSw); go_simp; (first | done | with_reducible rfl | omega | (refine congrArg Value.bool ?_; first | exact decide_eq_false (by omega) | exact decide_eq_true (by omega) | simp_all))))
                try simp only [Act.put, List.setIfInBounds_toArray, List.set_cons_zero, List.set_cons_succ]
                refine wpAnyH_take (i := 19) (oi := { dst := some 86, op := Op.pick (Operand.tmp 77) (Operand.const (Value.bool true)) (Operand.tmp 85), type := 4, pos := "law.go:122", after := #[{ on := 10, ground := Ground.data }, { on := 18, ground := Ground.data }], guard := none }) (v := (.bool false)) rfl (by kernel_rfl) (by kernel_rfl) (by kernel_rfl) (fun _ _ _ h => h) ?hy28 (by assumption) ?rest28
                case hy28 => ((refine Or.inl ⟨by rfl, ?_⟩; intro W hSw; (try dsimp only at hSw); go_simp; (first | done | with_reducible rfl | omega | (refine congrArg Value.bool ?_; first | exact decide_eq_false (by omega) | exact decide_eq_true (by omega) | simp_all))))
                try simp only [Act.put, List.setIfInBounds_toArray, List.set_cons_zero, List.set_cons_succ]
                refine wpAnyH_take (i := 20) (oi := { dst := some 87, op := Op.move (Operand.tmp 86), type := 4, pos := "law.go:122", after := #[{ on := 19, ground := Ground.data }, { on := 14, ground := Ground.chain }], guard := none }) (v := ?vv29) rfl (by kernel_rfl) (by kernel_rfl) (by kernel_rfl) (fun _ _ _ h => h) ?hy29 (by assumption) ?rest29
                case hy29 => (refine Or.inl ⟨by rfl, ?_⟩; intro W hSw; (try dsimp only at hSw); go_simp; (try with_reducible rfl))
                try simp only [Act.put, List.setIfInBounds_toArray, List.set_cons_zero, List.set_cons_succ]
                refine wpAnyH_take (i := 21) (oi := { dst := some 88, op := Op.move (Operand.tmp 8), type := 24, pos := "law.go:122", after := #[{ on := 20, ground := Ground.guard }], guard := some (20, false) }) (v := ?vv30) rfl (by kernel_rfl) (by kernel_rfl) (by kernel_rfl) (fun _ _ _ h => h) ?hy30 (by assumption) ?rest30
                case hy30 => (refine Or.inl ⟨by rfl, ?_⟩; intro W hSw; (try dsimp only at hSw); go_simp; (try with_reducible rfl))
                try simp only [Act.put, List.setIfInBounds_toArray, List.set_cons_zero, List.set_cons_succ]
                refine wpAnyH_take (i := 22) (oi := { dst := some 89, op := Op.move (Operand.tmp 12), type := 3, pos := "law.go:122", after := #[{ on := 20, ground := Ground.guard }], guard := some (20, false) }) (v := ?vv31) rfl (by kernel_rfl) (by kernel_rfl) (by kernel_rfl) (fun _ _ _ h => h) ?hy31 (by assumption) ?rest31
                case hy31 => (refine Or.inl ⟨by rfl, ?_⟩; intro W hSw; (try dsimp only at hSw); go_simp; (try with_reducible rfl))
                try simp only [Act.put, List.setIfInBounds_toArray, List.set_cons_zero, List.set_cons_succ]
                refine wpAnyH_take (i := 23) (oi := { dst := some 90, op := Op.slice 24 (Operand.tmp 88) none (some (Operand.tmp 89)) none, type := 24, pos := "law.go:122", after := #[{ on := 21, ground := Ground.data }, { on := 22, ground := Ground.data }, { on := 20, ground := Ground.guard }], guard := some (20, false) }) (v := ?vv32) rfl (by kernel_rfl) (by kernel_rfl) (by kernel_rfl) (fun _ _ _ h => h) ?hy32 (by assumption) ?rest32
                case hy32 => (refine Or.inl ⟨by rfl, ?_⟩; intro W hSw; (try dsimp only at hSw); go_simp; (try with_reducible rfl))
                try simp only [Act.put, List.setIfInBounds_toArray, List.set_cons_zero, List.set_cons_succ]
                refine wpAnyH_take (i := 24) (oi := { dst := some 91, op := Op.move (Operand.tmp 11), type := 24, pos := "law.go:122", after := #[{ on := 20, ground := Ground.guard }], guard := some (20, false) }) (v := ?vv33) rfl (by kernel_rfl) (by kernel_rfl) (by kernel_rfl) (fun _ _ _ h => h) ?hy33 (by assumption) ?rest33
                case hy33 => (refine Or.inl ⟨by rfl, ?_⟩; intro W hSw; (try dsimp only at hSw); go_simp; (try with_reducible rfl))
                try simp only [Act.put, List.setIfInBounds_toArray, List.set_cons_zero, List.set_cons_succ]
                refine wpAnyH_ready (rs := [25]) (by kernel_rfl) (by simp) ?_
                refine AllReadyH.cons (o := { dst := some 92, op := Op.call { callee := Callee.value (Operand.func 26), args := #[Operand.tmp 90, Operand.tmp 91], argTypes := #[24, 24] }, type := 4, pos := "law.go:122", after := #[{ on := 23, ground := Ground.data }, { on := 24, ground := Ground.data }, { on := 20, ground := Ground.chain }, { on := 20, ground := Ground.guard }], guard := some (20, false) }) rfl (fun K hK => ?step34) ?more34
                case more34 => exact AllReadyH.nil
                ((go_simp; go_at_call 26; refine (HBG.out _ HC10.out).mono ?_; rintro e w11 ⟨rfl, hb11⟩; go_wp2_with fail))
                refine hK.out _ _ ?hS34 (fun hHeld => ?rr34)
                case hS34 => (exact HALL.out _ (HC10.out.trans (hb11.mono HC10.out.size)))
                clear hK K
                try simp only [Act.put, List.setIfInBounds_toArray, List.set_cons_zero, List.set_cons_succ]
                have HC11 := Lib.hid (HC10.out.trans (hb11.mono HC10.out.size))
                refine wpAnyH_take (i := 26) (oi := { dst := some 93, op := Op.unOp UnOp.not 4 (Operand.tmp 92), type := 4, pos := "law.go:122", after := #[{ on := 25, ground := Ground.data }, { on := 20, ground := Ground.guard }], guard := some (20, false) }) (v := (.bool false)) rfl (by kernel_rfl) (by kernel_rfl) (by kernel_rfl) (fun _ _ _ h => h) ?hy35 (by assumption) ?rest35
                case hy35 => ((refine Or.inl ⟨by rfl, ?_⟩; intro W hSw; (try dsimp only at hSw); go_simp; (first | done | with_reducible rfl | omega | (refine congrArg Value.bool ?_; first | exact decide_eq_false (by omega) | exact decide_eq_true (by omega) | simp_all))))
                try simp only [Act.put, List.setIfInBounds_toArray, List.set_cons_zero, List.set_cons_succ]
                refine wpAnyH_take (i := 27) (oi := { dst := some 94, op := Op.pick (Operand.tmp 87) (Operand.const (Value.bool true)) (Operand.tmp 93), type := 4, pos := "law.go:122", after := #[{ on := 20, ground := Ground.data }, { on := 26, ground := Ground.data }], guard := none }) (v := (.bool false)) rfl (by kernel_rfl) (by kernel_rfl) (by kernel_rfl) (fun _ _ _ h => h) ?hy36 (by assumption) ?rest36
                case hy36 => ((refine Or.inl ⟨by rfl, ?_⟩; intro W hSw; (try dsimp only at hSw); go_simp; (first | done | with_reducible rfl | omega | (refine congrArg Value.bool ?_; first | exact decide_eq_false (by omega) | exact decide_eq_true (by omega) | simp_all))))
                try simp only [Act.put, List.setIfInBounds_toArray, List.set_cons_zero, List.set_cons_succ]
                refine wpAnyH_take (i := 28) (oi := { dst := some 95, op := Op.move (Operand.tmp 94), type := 4, pos := "law.go:122", after := #[{ on := 27, ground := Ground.data }, { on := 25, ground := Ground.chain }], guard := none }) (v := ?vv37) rfl (by kernel_rfl) (by kernel_rfl) (by kernel_rfl) (fun _ _ _ h => h) ?hy37 (by assumption) ?rest37
                case hy37 => (refine Or.inl ⟨by rfl, ?_⟩; intro W hSw; (try dsimp only at hSw); go_simp; (try with_reducible rfl))
                try simp only [Act.put, List.setIfInBounds_toArray, List.set_cons_zero, List.set_cons_succ]
                refine wpAnyH_take (i := 29) (oi := { dst := some 96, op := Op.move (Operand.tmp 12), type := 3, pos := "law.go:122", after := #[{ on := 28, ground := Ground.guard }], guard := some (28, false) }) (v := ?vv38) rfl (by kernel_rfl) (by kernel_rfl) (by kernel_rfl) (fun _ _ _ h => h) ?hy38 (by assumption) ?rest38
                case hy38 => (refine Or.inl ⟨by rfl, ?_⟩; intro W hSw; (try dsimp only at hSw); go_simp; (try with_reducible rfl))
                try simp only [Act.put, List.setIfInBounds_toArray, List.set_cons_zero, List.set_cons_succ]
                refine wpAnyH_take (i := 30) (oi := { dst := some 97, op := Op.move (Operand.tmp 8), type := 24, pos := "law.go:122", after := #[{ on := 28, ground := Ground.guard }], guard := some (28, false) }) (v := ?vv39) rfl (by kernel_rfl) (by kernel_rfl) (by kernel_rfl) (fun _ _ _ h => h) ?hy39 (by assumption) ?rest39
                case hy39 => (refine Or.inl ⟨by rfl, ?_⟩; intro W hSw; (try dsimp only at hSw); go_simp; (try with_reducible rfl))
                try simp only [Act.put, List.setIfInBounds_toArray, List.set_cons_zero, List.set_cons_succ]
                refine wpAnyH_take (i := 31) (oi := { dst := some 98, op := Op.call { callee := Callee.builtin Builtin.len, args := #[Operand.tmp 97], argTypes := #[24] }, type := 3, pos := "law.go:122", after := #[{ on := 30, ground := Ground.data }, { on := 28, ground := Ground.guard }], guard := some (28, false) }) (v := ?vv40) rfl (by kernel_rfl) (by kernel_rfl) (by kernel_rfl) (fun _ _ _ h => h) ?hy40 (by assumption) ?rest40
                case hy40 => (refine Or.inl ⟨by rfl, ?_⟩; intro W hSw; (try dsimp only at hSw); go_simp; (try with_reducible rfl))
                try simp only [Act.put, List.setIfInBounds_toArray, List.set_cons_zero, List.set_cons_succ]
                refine wpAnyH_take (i := 32) (oi := { dst := some 99, op := Op.binOp BinOp.lss 3 (Operand.tmp 96) (Operand.tmp 98) 3, type := 4, pos := "law.go:122", after := #[{ on := 29, ground := Ground.data }, { on := 31, ground := Ground.data }, { on := 28, ground := Ground.guard }], guard := some (28, false) }) (v := (.bool true)) rfl (by kernel_rfl) (by kernel_rfl) (by kernel_rfl) (fun _ _ _ h => h) ?hy41 (by assumption) ?rest41
                case hy41 => ((refine Or.inl ⟨by rfl, ?_⟩; intro W hSw; (try dsimp only at hSw); go_simp; (first | done | with_reducible rfl | omega | (refine congrArg Value.bool ?_; first | exact decide_eq_false (by omega) | exact decide_eq_true (by omega) | simp_all))))
                try simp only [Act.put, List.setIfInBounds_toArray, List.set_cons_zero, List.set_cons_succ]
                refine wpAnyH_take (i := 33) (oi := { dst := some 100, op := Op.move (Operand.tmp 99), type := 4, pos := "law.go:122", after := #[{ on := 32, ground := Ground.data }, { on := 28, ground := Ground.chain }, { on := 28, ground := Ground.guard }], guard := some (28, false) }) (v := ?vv42) rfl (by kernel_rfl) (by kernel_rfl) (by kernel_rfl) (fun _ _ _ h => h) ?hy42 (by assumption) ?rest42
                case hy42 => (refine Or.inl ⟨by rfl, ?_⟩; intro W hSw; (try dsimp only at hSw); go_simp; (try with_reducible rfl))
                try simp only [Act.put, List.setIfInBounds_toArray, List.set_cons_zero, List.set_cons_succ]
                refine wpAnyH_take (i := 34) (oi := { dst := some 101, op := Op.move (Operand.tmp 12), type := 3, pos := "law.go:122", after := #[{ on := 33, ground := Ground.guard }], guard := some (33, true) }) (v := ?vv43) rfl (by kernel_rfl) (by kernel_rfl) (by kernel_rfl) (fun _ _ _ h => h) ?hy43 (by assumption) ?rest43
                case hy43 => (refine Or.inl ⟨by rfl, ?_⟩; intro W hSw; (try dsimp only at hSw); go_simp; (try with_reducible rfl))
                try simp only [Act.put, List.setIfInBounds_toArray, List.set_cons_zero, List.set_cons_succ]
                refine wpAnyH_take (i := 35) (oi := { dst := some 102, op := Op.move (Operand.tmp 11), type := 24, pos := "law.go:122", after := #[{ on := 33, ground := Ground.guard }], guard := some (33, true) }) (v := ?vv44) rfl (by kernel_rfl) (by kernel_rfl) (by kernel_rfl) (fun _ _ _ h => h) ?hy44 (by assumption) ?rest44
                case hy44 => (refine Or.inl ⟨by rfl, ?_⟩; intro W hSw; (try dsimp only at hSw); go_simp; (try with_reducible rfl))
                try simp only [Act.put, List.setIfInBounds_toArray, List.set_cons_zero, List.set_cons_succ]
                refine wpAnyH_take (i := 36) (oi := { dst := some 103, op := Op.call { callee := Callee.builtin Builtin.len, args := #[Operand.tmp 102], argTypes := #[24] }, type := 3, pos := "law.go:122", after := #[{ on := 35, ground := Ground.data }, { on := 33, ground := Ground.guard }], guard := some (33, true) }) (v := ?vv45) rfl (by kernel_rfl) (by kernel_rfl) (by kernel_rfl) (fun _ _ _ h => h) ?hy45 (by assumption) ?rest45
                case hy45 => (refine Or.inl ⟨by rfl, ?_⟩; intro W hSw; (try dsimp only at hSw); go_simp; (try with_reducible rfl))
                try simp only [Act.put, List.setIfInBounds_toArray, List.set_cons_zero, List.set_cons_succ]
                refine wpAnyH_take (i := 37) (oi := { dst := some 104, op := Op.binOp BinOp.lss 3 (Operand.tmp 101) (Operand.tmp 103) 3, type := 4, pos := "law.go:122", after := #[{ on := 34, ground := Ground.data }, { on := 36, ground := Ground.data }, { on := 33, ground := Ground.guard }], guard := some (33, true) }) (v := (.bool true)) rfl (by kernel_rfl) (by kernel_rfl) (by kernel_rfl) (fun _ _ _ h => h) ?hy46 (by assumption) ?rest46
                case hy46 => ((refine Or.inl ⟨by rfl, ?_⟩; intro W hSw; (try dsimp only at hSw); go_simp; (first | done | with_reducible rfl | omega | (refine congrArg Value.bool ?_; first | exact decide_eq_false (by omega) | exact decide_eq_true (by omega) | simp_all))))
                try simp only [Act.put, List.setIfInBounds_toArray, List.set_cons_zero, List.set_cons_succ]
                refine wpAnyH_take (i := 38) (oi := { dst := some 105, op := Op.pick (Operand.tmp 100) (Operand.tmp 104) (Operand.const (Value.bool false)), type := 4, pos := "law.go:122", after := #[{ on := 33, ground := Ground.data }, { on := 37, ground := Ground.data }, { on := 28, ground := Ground.guard }], guard := some (28, false) }) (v := (.bool true)) rfl (by kernel_rfl) (by kernel_rfl) (by kernel_rfl) (fun _ _ _ h => h) ?hy47 (by assumption) ?rest47
                case hy47 => ((refine Or.inl ⟨by rfl, ?_⟩; intro W hSw; (try dsimp only at hSw); go_simp; (first | done | with_reducible rfl | omega | (refine congrArg Value.bool ?_; first | exact decide_eq_false (by omega) | exact decide_eq_true (by omega) | simp_all))))
                try simp only [Act.put, List.setIfInBounds_toArray, List.set_cons_zero, List.set_cons_succ]
                refine wpAnyH_take (i := 39) (oi := { dst := some 106, op := Op.move (Operand.tmp 105), type := 4, pos := "law.go:122", after := #[{ on := 38, ground := Ground.data }, { on := 33, ground := Ground.chain }, { on := 28, ground := Ground.guard }], guard := some (28, false) }) (v := ?vv48) rfl (by kernel_rfl) (by kernel_rfl) (by kernel_rfl) (fun _ _ _ h => h) ?hy48 (by assumption) ?rest48
                case hy48 => (refine Or.inl ⟨by rfl, ?_⟩; intro W hSw; (try dsimp only at hSw); go_simp; (try with_reducible rfl))
                try simp only [Act.put, List.setIfInBounds_toArray, List.set_cons_zero, List.set_cons_succ]
                refine wpAnyH_take (i := 40) (oi := { dst := some 107, op := Op.move (Operand.tmp 8), type := 24, pos := "law.go:122", after := #[{ on := 39, ground := Ground.guard }], guard := some (39, true) }) (v := ?vv49) rfl (by kernel_rfl) (by kernel_rfl) (by kernel_rfl) (fun _ _ _ h => h) ?hy49 (by assumption) ?rest49
                case hy49 => (refine Or.inl ⟨by rfl, ?_⟩; intro W hSw; (try dsimp only at hSw); go_simp; (try with_reducible rfl))
                try simp only [Act.put, List.setIfInBounds_toArray, List.set_cons_zero, List.set_cons_succ]
                refine wpAnyH_take (i := 41) (oi := { dst := some 108, op := Op.move (Operand.tmp 12), type := 3, pos := "law.go:122", after := #[{ on := 39, ground := Ground.guard }], guard := some (39, true) }) (v := ?vv50) rfl (by kernel_rfl) (by kernel_rfl) (by kernel_rfl) (fun _ _ _ h => h) ?hy50 (by assumption) ?rest50
                case hy50 => (refine Or.inl ⟨by rfl, ?_⟩; intro W hSw; (try dsimp only at hSw); go_simp; (try with_reducible rfl))
                try simp only [Act.put, List.setIfInBounds_toArray, List.set_cons_zero, List.set_cons_succ]
                refine wpAnyH_take (i := 42) (oi := { dst := some 109, op := Op.indexAddr 24 (Operand.tmp 107) (Operand.tmp 108), type := 0, pos := "law.go:122", after := #[{ on := 40, ground := Ground.data }, { on := 41, ground := Ground.data }, { on := 39, ground := Ground.guard }], guard := some (39, true) }) (v := ?vv51) rfl (by kernel_rfl) (by kernel_rfl) (by kernel_rfl) (fun _ _ _ h => h) ?hy51 (by assumption) ?rest51
                case hy51 => (refine Or.inl ⟨by rfl, ?_⟩; intro W hSw; (try dsimp only at hSw); go_simp; (try with_reducible rfl))
                try simp only [Act.put, List.setIfInBounds_toArray, List.set_cons_zero, List.set_cons_succ]
                refine wpAnyH_take (i := 43) (oi := { dst := some 110, op := Op.load 3 (Operand.tmp 109), type := 3, pos := "law.go:122", after := #[{ on := 42, ground := Ground.data }, { on := 39, ground := Ground.guard }], guard := some (39, true) }) (v := ?vv52) rfl (by kernel_rfl) (by kernel_rfl) (by kernel_rfl) (fun _ _ _ h => h) ?hy52 (by assumption) ?rest52
                case hy52 => (refine Or.inl ⟨by rfl, ?_⟩; intro W hSw; (try dsimp only at hSw); go_simp; (try with_reducible rfl))
                try simp only [Act.put, List.setIfInBounds_toArray, List.set_cons_zero, List.set_cons_succ]
                refine wpAnyH_take (i := 44) (oi := { dst := some 111, op := Op.move (Operand.tmp 11), type := 24, pos := "law.go:122", after := #[{ on := 39, ground := Ground.guard }], guard := some (39, true) }) (v := ?vv53) rfl (by kernel_rfl) (by kernel_rfl) (by kernel_rfl) (fun _ _ _ h => h) ?hy53 (by assumption) ?rest53
                case hy53 => (refine Or.inl ⟨by rfl, ?_⟩; intro W hSw; (try dsimp only at hSw); go_simp; (try with_reducible rfl))
                try simp only [Act.put, List.setIfInBounds_toArray, List.set_cons_zero, List.set_cons_succ]
                refine wpAnyH_take (i := 45) (oi := { dst := some 112, op := Op.move (Operand.tmp 12), type := 3, pos := "law.go:122", after := #[{ on := 39, ground := Ground.guard }], guard := some (39, true) }) (v := ?vv54) rfl (by kernel_rfl) (by kernel_rfl) (by kernel_rfl) (fun _ _ _ h => h) ?hy54 (by assumption) ?rest54
                case hy54 => (refine Or.inl ⟨by rfl, ?_⟩; intro W hSw; (try dsimp only at hSw); go_simp; (try with_reducible rfl))
                try simp only [Act.put, List.setIfInBounds_toArray, List.set_cons_zero, List.set_cons_succ]
                refine wpAnyH_take (i := 46) (oi := { dst := some 113, op := Op.indexAddr 24 (Operand.tmp 111) (Operand.tmp 112), type := 0, pos := "law.go:122", after := #[{ on := 44, ground := Ground.data }, { on := 45, ground := Ground.data }, { on := 39, ground := Ground.guard }], guard := some (39, true) }) (v := ?vv55) rfl (by kernel_rfl) (by kernel_rfl) (by kernel_rfl) (fun _ _ _ h => h) ?hy55 (by assumption) ?rest55
                case hy55 => (refine Or.inl ⟨by rfl, ?_⟩; intro W hSw; (try dsimp only at hSw); go_simp; (try with_reducible rfl))
                try simp only [Act.put, List.setIfInBounds_toArray, List.set_cons_zero, List.set_cons_succ]
                refine wpAnyH_take (i := 47) (oi := { dst := some 114, op := Op.load 3 (Operand.tmp 113), type := 3, pos := "law.go:122", after := #[{ on := 46, ground := Ground.data }, { on := 39, ground := Ground.guard }], guard := some (39, true) }) (v := ?vv56) rfl (by kernel_rfl) (by kernel_rfl) (by kernel_rfl) (fun _ _ _ h => h) ?hy56 (by assumption) ?rest56
                case hy56 => (refine Or.inl ⟨by rfl, ?_⟩; intro W hSw; (try dsimp only at hSw); go_simp; (try with_reducible rfl))
                try simp only [Act.put, List.setIfInBounds_toArray, List.set_cons_zero, List.set_cons_succ]
                refine wpAnyH_take (i := 48) (oi := { dst := some 115, op := Op.binOp BinOp.eql 3 (Operand.tmp 110) (Operand.tmp 114) 3, type := 4, pos := "law.go:122", after := #[{ on := 43, ground := Ground.data }, { on := 47, ground := Ground.data }, { on := 39, ground := Ground.guard }], guard := some (39, true) }) (v := (.bool false)) rfl (by kernel_rfl) (by kernel_rfl) (by kernel_rfl) (fun _ _ _ h => h) ?hy57 (by assumption) ?rest57
                case hy57 => ((refine Or.inl ⟨by rfl, ?_⟩; intro W hSw; (try dsimp only at hSw); go_simp; (first | done | with_reducible rfl | omega | (refine congrArg Value.bool ?_; first | exact decide_eq_false (by omega) | exact decide_eq_true (by omega) | simp_all))))
                try simp only [Act.put, List.setIfInBounds_toArray, List.set_cons_zero, List.set_cons_succ]
                refine wpAnyH_take (i := 49) (oi := { dst := some 116, op := Op.pick (Operand.tmp 106) (Operand.tmp 115) (Operand.const (Value.bool false)), type := 4, pos := "law.go:122", after := #[{ on := 39, ground := Ground.data }, { on := 48, ground := Ground.data }, { on := 28, ground := Ground.guard }], guard := some (28, false) }) (v := (.bool false)) rfl (by kernel_rfl) (by kernel_rfl) (by kernel_rfl) (fun _ _ _ h => h) ?hy58 (by assumption) ?rest58
                case hy58 => ((refine Or.inl ⟨by rfl, ?_⟩; intro W hSw; (try dsimp only at hSw); go_simp; (first | done | with_reducible rfl | omega | (refine congrArg Value.bool ?_; first | exact decide_eq_false (by omega) | exact decide_eq_true (by omega) | simp_all))))
                try simp only [Act.put, List.setIfInBounds_toArray, List.set_cons_zero, List.set_cons_succ]
                refine wpAnyH_take (i := 50) (oi := { dst := some 117, op := Op.pick (Operand.tmp 95) (Operand.const (Value.bool true)) (Operand.tmp 116), type := 4, pos := "law.go:122", after := #[{ on := 28, ground := Ground.data }, { on := 49, ground := Ground.data }], guard := none }) (v := (.bool false)) rfl (by kernel_rfl) (by kernel_rfl) (by kernel_rfl) (fun _ _ _ h => h) ?hy59 (by assumption) ?rest59
                case hy59 => ((refine Or.inl ⟨by rfl, ?_⟩; intro W hSw; (try dsimp only at hSw); go_simp; (first | done | with_reducible rfl | omega | (refine congrArg Value.bool ?_; first | exact decide_eq_false (by omega) | exact decide_eq_true (by omega) | simp_all))))
                try simp only [Act.put, List.setIfInBounds_toArray, List.set_cons_zero, List.set_cons_succ]
                refine wpAnyH_done (by kernel_rfl) ?_ _
                clear hHeld HS hb10 hb11 HPR HBG HALL z1 z2 z3 z4 z5 hxy hlk
                have HH11 := Lib.hid (HH7.out.on HC11.out)
                have HS11 := Lib.hid (HSP7.out.below HC11.out)
                go_wp2_with fail
                go_roundw
                case rel => exact ⟨k + 1, HLK.out, by go_num, HH11.out, HS11.out⟩
                case measure => have := HLK.out; simp [intOf]; omega
              · have hlk : ¬ (i : Int) < (k : Int) := by omega
                have hdk : decide (i < k) = false := decide_eq_false hikl
                rw [hdk] at HPR
                obtain ⟨z1, z2, z3, z4, z5⟩ := HZ.out
                have hxy := HXY.out
                have HS := Lib.hid (HALL.out _ (below_drew HC9.out))
                clear hikl hdk
                refine wp_region_held_drew (S := fun W => W.cell? ⟨bx, 0, none⟩ = some (.slice (some ⟨g, 0, none⟩) nt cap) ∧ W.cell? (pa.add z) = some (.int .i64 x) ∧ W.cell? (qa.add z) = some (.int .i64 y)) (by kernel_rfl) HS.out (fun hHeld => ?_)
                refine wpAnyH_take (i := 0) (oi := { dst := some 67, op := Op.move (Operand.tmp 12), type := 3, pos := "law.go:122", after := #[], guard := none }) (v := ?vv60) rfl (by kernel_rfl) (by kernel_rfl) (by kernel_rfl) (fun _ _ _ h => h) ?hy60 (by assumption) ?rest60
                case hy60 => (refine Or.inl ⟨by rfl, ?_⟩; intro W hSw; (try dsimp only at hSw); go_simp; (try with_reducible rfl))
                try simp only [Act.put, List.setIfInBounds_toArray, List.set_cons_zero, List.set_cons_succ]
                refine wpAnyH_take (i := 1) (oi := { dst := some 68, op := Op.move (Operand.tmp 8), type := 24, pos := "law.go:122", after := #[], guard := none }) (v := ?vv61) rfl (by kernel_rfl) (by kernel_rfl) (by kernel_rfl) (fun _ _ _ h => h) ?hy61 (by assumption) ?rest61
                case hy61 => (refine Or.inl ⟨by rfl, ?_⟩; intro W hSw; (try dsimp only at hSw); go_simp; (try with_reducible rfl))
                try simp only [Act.put, List.setIfInBounds_toArray, List.set_cons_zero, List.set_cons_succ]
                refine wpAnyH_take (i := 2) (oi := { dst := some 69, op := Op.call { callee := Callee.builtin Builtin.len, args := #[Operand.tmp 68], argTypes := #[24] }, type := 3, pos := "law.go:122", after := #[{ on := 1, ground := Ground.data }], guard := none }) (v := ?vv62) rfl (by kernel_rfl) (by kernel_rfl) (by kernel_rfl) (fun _ _ _ h => h) ?hy62 (by assumption) ?rest62
                case hy62 => (refine Or.inl ⟨by rfl, ?_⟩; intro W hSw; (try dsimp only at hSw); go_simp; (try with_reducible rfl))
                try simp only [Act.put, List.setIfInBounds_toArray, List.set_cons_zero, List.set_cons_succ]
                refine wpAnyH_take (i := 3) (oi := { dst := some 70, op := Op.binOp BinOp.gtr 3 (Operand.tmp 67) (Operand.tmp 69) 3, type := 4, pos := "law.go:122", after := #[{ on := 0, ground := Ground.data }, { on := 2, ground := Ground.data }], guard := none }) (v := (.bool false)) rfl (by kernel_rfl) (by kernel_rfl) (by kernel_rfl) (fun _ _ _ h => h) ?hy63 (by assumption) ?rest63
                case hy63 => ((refine Or.inl ⟨by rfl, ?_⟩; intro W hSw; (try dsimp only at hSw); go_simp; (first | done | with_reducible rfl | omega | (refine congrArg Value.bool ?_; first | exact decide_eq_false (by omega) | exact decide_eq_true (by omega) | simp_all))))
                try simp only [Act.put, List.setIfInBounds_toArray, List.set_cons_zero, List.set_cons_succ]
                refine wpAnyH_take (i := 4) (oi := { dst := some 71, op := Op.move (Operand.tmp 70), type := 4, pos := "law.go:122", after := #[{ on := 3, ground := Ground.data }], guard := none }) (v := ?vv64) rfl (by kernel_rfl) (by kernel_rfl) (by kernel_rfl) (fun _ _ _ h => h) ?hy64 (by assumption) ?rest64
                case hy64 => (refine Or.inl ⟨by rfl, ?_⟩; intro W hSw; (try dsimp only at hSw); go_simp; (try with_reducible rfl))
                try simp only [Act.put, List.setIfInBounds_toArray, List.set_cons_zero, List.set_cons_succ]
                refine wpAnyH_take (i := 5) (oi := { dst := some 72, op := Op.move (Operand.tmp 12), type := 3, pos := "law.go:122", after := #[{ on := 4, ground := Ground.guard }], guard := some (4, false) }) (v := ?vv65) rfl (by kernel_rfl) (by kernel_rfl) (by kernel_rfl) (fun _ _ _ h => h) ?hy65 (by assumption) ?rest65
                case hy65 => (refine Or.inl ⟨by rfl, ?_⟩; intro W hSw; (try dsimp only at hSw); go_simp; (try with_reducible rfl))
                try simp only [Act.put, List.setIfInBounds_toArray, List.set_cons_zero, List.set_cons_succ]
                refine wpAnyH_take (i := 6) (oi := { dst := some 73, op := Op.move (Operand.tmp 11), type := 24, pos := "law.go:122", after := #[{ on := 4, ground := Ground.guard }], guard := some (4, false) }) (v := ?vv66) rfl (by kernel_rfl) (by kernel_rfl) (by kernel_rfl) (fun _ _ _ h => h) ?hy66 (by assumption) ?rest66
                case hy66 => (refine Or.inl ⟨by rfl, ?_⟩; intro W hSw; (try dsimp only at hSw); go_simp; (try with_reducible rfl))
                try simp only [Act.put, List.setIfInBounds_toArray, List.set_cons_zero, List.set_cons_succ]
                refine wpAnyH_take (i := 7) (oi := { dst := some 74, op := Op.call { callee := Callee.builtin Builtin.len, args := #[Operand.tmp 73], argTypes := #[24] }, type := 3, pos := "law.go:122", after := #[{ on := 6, ground := Ground.data }, { on := 4, ground := Ground.guard }], guard := some (4, false) }) (v := ?vv67) rfl (by kernel_rfl) (by kernel_rfl) (by kernel_rfl) (fun _ _ _ h => h) ?hy67 (by assumption) ?rest67
                case hy67 => (refine Or.inl ⟨by rfl, ?_⟩; intro W hSw; (try dsimp only at hSw); go_simp; (try with_reducible rfl))
                try simp only [Act.put, List.setIfInBounds_toArray, List.set_cons_zero, List.set_cons_succ]
                refine wpAnyH_take (i := 8) (oi := { dst := some 75, op := Op.binOp BinOp.gtr 3 (Operand.tmp 72) (Operand.tmp 74) 3, type := 4, pos := "law.go:122", after := #[{ on := 5, ground := Ground.data }, { on := 7, ground := Ground.data }, { on := 4, ground := Ground.guard }], guard := some (4, false) }) (v := (.bool false)) rfl (by kernel_rfl) (by kernel_rfl) (by kernel_rfl) (fun _ _ _ h => h) ?hy68 (by assumption) ?rest68
                case hy68 => ((refine Or.inl ⟨by rfl, ?_⟩; intro W hSw; (try dsimp only at hSw); go_simp; (first | done | with_reducible rfl | omega | (refine congrArg Value.bool ?_; first | exact decide_eq_false (by omega) | exact decide_eq_true (by omega) | simp_all))))
                try simp only [Act.put, List.setIfInBounds_toArray, List.set_cons_zero, List.set_cons_succ]
                refine wpAnyH_take (i := 9) (oi := { dst := some 76, op := Op.pick (Operand.tmp 71) (Operand.const (Value.bool true)) (Operand.tmp 75), type := 4, pos := "law.go:122", after := #[{ on := 4, ground := Ground.data }, { on := 8, ground := Ground.data }], guard := none }) (v := (.bool false)) rfl (by kernel_rfl) (by kernel_rfl) (by kernel_rfl) (fun _ _ _ h => h) ?hy69 (by assumption) ?rest69
                case hy69 => ((refine Or.inl ⟨by rfl, ?_⟩; intro W hSw; (try dsimp only at hSw); go_simp; (first | done | with_reducible rfl | omega | (refine congrArg Value.bool ?_; first | exact decide_eq_false (by omega) | exact decide_eq_true (by omega) | simp_all))))
                try simp only [Act.put, List.setIfInBounds_toArray, List.set_cons_zero, List.set_cons_succ]
                refine wpAnyH_take (i := 10) (oi := { dst := some 77, op := Op.move (Operand.tmp 76), type := 4, pos := "law.go:122", after := #[{ on := 9, ground := Ground.data }, { on := 4, ground := Ground.chain }], guard := none }) (v := ?vv70) rfl (by kernel_rfl) (by kernel_rfl) (by kernel_rfl) (fun _ _ _ h => h) ?hy70 (by assumption) ?rest70
                case hy70 => (refine Or.inl ⟨by rfl, ?_⟩; intro W hSw; (try dsimp only at hSw); go_simp; (try with_reducible rfl))
                try simp only [Act.put, List.setIfInBounds_toArray, List.set_cons_zero, List.set_cons_succ]
                refine wpAnyH_take (i := 11) (oi := { dst := some 78, op := Op.load 27 (Operand.tmp 3), type := 27, pos := "law.go:122", after := #[{ on := 10, ground := Ground.guard }], guard := some (10, false) }) (v := ?vv71) rfl (by kernel_rfl) (by kernel_rfl) (by kernel_rfl) (fun _ _ _ h => h) ?hy71 (by assumption) ?rest71
                case hy71 => (refine Or.inl ⟨by rfl, ?_⟩; intro W hSw; (try dsimp only at hSw); go_simp; (try with_reducible rfl))
                try simp only [Act.put, List.setIfInBounds_toArray, List.set_cons_zero, List.set_cons_succ]
                refine wpAnyH_take (i := 12) (oi := { dst := some 79, op := Op.move (Operand.tmp 7), type := 3, pos := "law.go:122", after := #[{ on := 10, ground := Ground.guard }], guard := some (10, false) }) (v := ?vv72) rfl (by kernel_rfl) (by kernel_rfl) (by kernel_rfl) (fun _ _ _ h => h) ?hy72 (by assumption) ?rest72
                case hy72 => (refine Or.inl ⟨by rfl, ?_⟩; intro W hSw; (try dsimp only at hSw); go_simp; (try with_reducible rfl))
                try simp only [Act.put, List.setIfInBounds_toArray, List.set_cons_zero, List.set_cons_succ]
                refine wpAnyH_take (i := 13) (oi := { dst := some 80, op := Op.move (Operand.tmp 10), type := 3, pos := "law.go:122", after := #[{ on := 10, ground := Ground.guard }], guard := some (10, false) }) (v := ?vv73) rfl (by kernel_rfl) (by kernel_rfl) (by kernel_rfl) (fun _ _ _ h => h) ?hy73 (by assumption) ?rest73
                case hy73 => (refine Or.inl ⟨by rfl, ?_⟩; intro W hSw; (try dsimp only at hSw); go_simp; (try with_reducible rfl))
                try simp only [Act.put, List.setIfInBounds_toArray, List.set_cons_zero, List.set_cons_succ]
                refine wpAnyH_take (i := 15) (oi := { dst := some 82, op := Op.move (Operand.tmp 6), type := 3, pos := "law.go:122", after := #[{ on := 10, ground := Ground.guard }], guard := some (10, false) }) (v := ?vv74) rfl (by kernel_rfl) (by kernel_rfl) (by kernel_rfl) (fun _ _ _ h => h) ?hy74 (by assumption) ?rest74
                case hy74 => (refine Or.inl ⟨by rfl, ?_⟩; intro W hSw; (try dsimp only at hSw); go_simp; (try with_reducible rfl))
                try simp only [Act.put, List.setIfInBounds_toArray, List.set_cons_zero, List.set_cons_succ]
                refine wpAnyH_take (i := 16) (oi := { dst := some 83, op := Op.move (Operand.tmp 9), type := 3, pos := "law.go:122", after := #[{ on := 10, ground := Ground.guard }], guard := some (10, false) }) (v := ?vv75) rfl (by kernel_rfl) (by kernel_rfl) (by kernel_rfl) (fun _ _ _ h => h) ?hy75 (by assumption) ?rest75
                case hy75 => (refine Or.inl ⟨by rfl, ?_⟩; intro W hSw; (try dsimp only at hSw); go_simp; (try with_reducible rfl))
                try simp only [Act.put, List.setIfInBounds_toArray, List.set_cons_zero, List.set_cons_succ]
                refine wpAnyH_take (i := 17) (oi := { dst := some 84, op := Op.binOp BinOp.lss 3 (Operand.tmp 82) (Operand.tmp 83) 3, type := 4, pos := "law.go:122", after := #[{ on := 15, ground := Ground.data }, { on := 16, ground := Ground.data }, { on := 10, ground := Ground.guard }], guard := some (10, false) }) (v := (.bool false)) rfl (by kernel_rfl) (by kernel_rfl) (by kernel_rfl) (fun _ _ _ h => h) ?hy76 (by assumption) ?rest76
                case hy76 => ((refine Or.inl ⟨by rfl, ?_⟩; intro W hSw; (try dsimp only at hSw); go_simp; (first | done | with_reducible rfl | omega | (refine congrArg Value.bool ?_; first | exact decide_eq_false (by omega) | exact decide_eq_true (by omega) | simp_all))))
                try simp only [Act.put, List.setIfInBounds_toArray, List.set_cons_zero, List.set_cons_succ]
                refine wpAnyH_ready (rs := [14]) (by kernel_rfl) (by simp) ?_
                refine AllReadyH.cons (o := { dst := some 81, op := Op.call { callee := Callee.value (Operand.func 22), args := #[Operand.tmp 78, Operand.tmp 79, Operand.tmp 80], argTypes := #[27, 3, 3] }, type := 4, pos := "law.go:122", after := #[{ on := 11, ground := Ground.data }, { on := 12, ground := Ground.data }, { on := 13, ground := Ground.data }, { on := 10, ground := Ground.chain }, { on := 10, ground := Ground.guard }], guard := some (10, false) }) rfl (fun K hK => ?step77) ?more77
                case more77 => exact AllReadyH.nil
                ((go_simp; go_at_call 22; refine (HPR.out _ (below_drew HC9.out)).mono ?_; rintro e w10 ⟨rfl, hb10⟩; go_wp2_with fail))
                refine hK.out _ _ ?hS77 (fun hHeld => ?rr77)
                case hS77 => (exact HALL.out _ (HC9.out.trans ((below_of_drew hb10).mono HC9.out.size)))
                clear hK K
                try simp only [Act.put, List.setIfInBounds_toArray, List.set_cons_zero, List.set_cons_succ]
                have HC10 := Lib.hid (HC9.out.trans ((below_of_drew hb10).mono HC9.out.size))
                refine wpAnyH_take (i := 18) (oi := { dst := some 85, op := Op.binOp BinOp.neq 4 (Operand.tmp 81) (Operand.tmp 84) 4, type := 4, pos := "law.go:122", after := #[{ on := 14, ground := Ground.data }, { on := 17, ground := Ground.data }, { on := 10, ground := Ground.guard }], guard := some (10, false) }) (v := (.bool false)) rfl (by kernel_rfl) (by kernel_rfl) (by kernel_rfl) (fun _ _ _ h => h) ?hy78 (by assumption) ?rest78
                case hy78 => ((refine Or.inl ⟨by rfl, ?_⟩; intro W hSw; (try dsimp only at hSw); go_simp; (first | done | with_reducible rfl | omega | (refine congrArg Value.bool ?_; first | exact decide_eq_false (by omega) | exact decide_eq_true (by omega) | simp_all))))
                try simp only [Act.put, List.setIfInBounds_toArray, List.set_cons_zero, List.set_cons_succ]
                refine wpAnyH_take (i := 19) (oi := { dst := some 86, op := Op.pick (Operand.tmp 77) (Operand.const (Value.bool true)) (Operand.tmp 85), type := 4, pos := "law.go:122", after := #[{ on := 10, ground := Ground.data }, { on := 18, ground := Ground.data }], guard := none }) (v := (.bool false)) rfl (by kernel_rfl) (by kernel_rfl) (by kernel_rfl) (fun _ _ _ h => h) ?hy79 (by assumption) ?rest79
                case hy79 => ((refine Or.inl ⟨by rfl, ?_⟩; intro W hSw; (try dsimp only at hSw); go_simp; (first | done | with_reducible rfl | omega | (refine congrArg Value.bool ?_; first | exact decide_eq_false (by omega) | exact decide_eq_true (by omega) | simp_all))))
                try simp only [Act.put, List.setIfInBounds_toArray, List.set_cons_zero, List.set_cons_succ]
                refine wpAnyH_take (i := 20) (oi := { dst := some 87, op := Op.move (Operand.tmp 86), type := 4, pos := "law.go:122", after := #[{ on := 19, ground := Ground.data }, { on := 14, ground := Ground.chain }], guard := none }) (v := ?vv80) rfl (by kernel_rfl) (by kernel_rfl) (by kernel_rfl) (fun _ _ _ h => h) ?hy80 (by assumption) ?rest80
                case hy80 => (refine Or.inl ⟨by rfl, ?_⟩; intro W hSw; (try dsimp only at hSw); go_simp; (try with_reducible rfl))
                try simp only [Act.put, List.setIfInBounds_toArray, List.set_cons_zero, List.set_cons_succ]
                refine wpAnyH_take (i := 21) (oi := { dst := some 88, op := Op.move (Operand.tmp 8), type := 24, pos := "law.go:122", after := #[{ on := 20, ground := Ground.guard }], guard := some (20, false) }) (v := ?vv81) rfl (by kernel_rfl) (by kernel_rfl) (by kernel_rfl) (fun _ _ _ h => h) ?hy81 (by assumption) ?rest81
                case hy81 => (refine Or.inl ⟨by rfl, ?_⟩; intro W hSw; (try dsimp only at hSw); go_simp; (try with_reducible rfl))
                try simp only [Act.put, List.setIfInBounds_toArray, List.set_cons_zero, List.set_cons_succ]
                refine wpAnyH_take (i := 22) (oi := { dst := some 89, op := Op.move (Operand.tmp 12), type := 3, pos := "law.go:122", after := #[{ on := 20, ground := Ground.guard }], guard := some (20, false) }) (v := ?vv82) rfl (by kernel_rfl) (by kernel_rfl) (by kernel_rfl) (fun _ _ _ h => h) ?hy82 (by assumption) ?rest82
                case hy82 => (refine Or.inl ⟨by rfl, ?_⟩; intro W hSw; (try dsimp only at hSw); go_simp; (try with_reducible rfl))
                try simp only [Act.put, List.setIfInBounds_toArray, List.set_cons_zero, List.set_cons_succ]
                refine wpAnyH_take (i := 23) (oi := { dst := some 90, op := Op.slice 24 (Operand.tmp 88) none (some (Operand.tmp 89)) none, type := 24, pos := "law.go:122", after := #[{ on := 21, ground := Ground.data }, { on := 22, ground := Ground.data }, { on := 20, ground := Ground.guard }], guard := some (20, false) }) (v := ?vv83) rfl (by kernel_rfl) (by kernel_rfl) (by kernel_rfl) (fun _ _ _ h => h) ?hy83 (by assumption) ?rest83
                case hy83 => (refine Or.inl ⟨by rfl, ?_⟩; intro W hSw; (try dsimp only at hSw); go_simp; (try with_reducible rfl))
                try simp only [Act.put, List.setIfInBounds_toArray, List.set_cons_zero, List.set_cons_succ]
                refine wpAnyH_take (i := 24) (oi := { dst := some 91, op := Op.move (Operand.tmp 11), type := 24, pos := "law.go:122", after := #[{ on := 20, ground := Ground.guard }], guard := some (20, false) }) (v := ?vv84) rfl (by kernel_rfl) (by kernel_rfl) (by kernel_rfl) (fun _ _ _ h => h) ?hy84 (by assumption) ?rest84
                case hy84 => (refine Or.inl ⟨by rfl, ?_⟩; intro W hSw; (try dsimp only at hSw); go_simp; (try with_reducible rfl))
                try simp only [Act.put, List.setIfInBounds_toArray, List.set_cons_zero, List.set_cons_succ]
                refine wpAnyH_ready (rs := [25]) (by kernel_rfl) (by simp) ?_
                refine AllReadyH.cons (o := { dst := some 92, op := Op.call { callee := Callee.value (Operand.func 26), args := #[Operand.tmp 90, Operand.tmp 91], argTypes := #[24, 24] }, type := 4, pos := "law.go:122", after := #[{ on := 23, ground := Ground.data }, { on := 24, ground := Ground.data }, { on := 20, ground := Ground.chain }, { on := 20, ground := Ground.guard }], guard := some (20, false) }) rfl (fun K hK => ?step85) ?more85
                case more85 => exact AllReadyH.nil
                ((go_simp; go_at_call 26; refine (HBG.out _ HC10.out).mono ?_; rintro e w11 ⟨rfl, hb11⟩; go_wp2_with fail))
                refine hK.out _ _ ?hS85 (fun hHeld => ?rr85)
                case hS85 => (exact HALL.out _ (HC10.out.trans (hb11.mono HC10.out.size)))
                clear hK K
                try simp only [Act.put, List.setIfInBounds_toArray, List.set_cons_zero, List.set_cons_succ]
                have HC11 := Lib.hid (HC10.out.trans (hb11.mono HC10.out.size))
                refine wpAnyH_take (i := 26) (oi := { dst := some 93, op := Op.unOp UnOp.not 4 (Operand.tmp 92), type := 4, pos := "law.go:122", after := #[{ on := 25, ground := Ground.data }, { on := 20, ground := Ground.guard }], guard := some (20, false) }) (v := (.bool false)) rfl (by kernel_rfl) (by kernel_rfl) (by kernel_rfl) (fun _ _ _ h => h) ?hy86 (by assumption) ?rest86
                case hy86 => ((refine Or.inl ⟨by rfl, ?_⟩; intro W hSw; (try dsimp only at hSw); go_simp; (first | done | with_reducible rfl | omega | (refine congrArg Value.bool ?_; first | exact decide_eq_false (by omega) | exact decide_eq_true (by omega) | simp_all))))
                try simp only [Act.put, List.setIfInBounds_toArray, List.set_cons_zero, List.set_cons_succ]
                refine wpAnyH_take (i := 27) (oi := { dst := some 94, op := Op.pick (Operand.tmp 87) (Operand.const (Value.bool true)) (Operand.tmp 93), type := 4, pos := "law.go:122", after := #[{ on := 20, ground := Ground.data }, { on := 26, ground := Ground.data }], guard := none }) (v := (.bool false)) rfl (by kernel_rfl) (by kernel_rfl) (by kernel_rfl) (fun _ _ _ h => h) ?hy87 (by assumption) ?rest87
                case hy87 => ((refine Or.inl ⟨by rfl, ?_⟩; intro W hSw; (try dsimp only at hSw); go_simp; (first | done | with_reducible rfl | omega | (refine congrArg Value.bool ?_; first | exact decide_eq_false (by omega) | exact decide_eq_true (by omega) | simp_all))))
                try simp only [Act.put, List.setIfInBounds_toArray, List.set_cons_zero, List.set_cons_succ]
                refine wpAnyH_take (i := 28) (oi := { dst := some 95, op := Op.move (Operand.tmp 94), type := 4, pos := "law.go:122", after := #[{ on := 27, ground := Ground.data }, { on := 25, ground := Ground.chain }], guard := none }) (v := ?vv88) rfl (by kernel_rfl) (by kernel_rfl) (by kernel_rfl) (fun _ _ _ h => h) ?hy88 (by assumption) ?rest88
                case hy88 => (refine Or.inl ⟨by rfl, ?_⟩; intro W hSw; (try dsimp only at hSw); go_simp; (try with_reducible rfl))
                try simp only [Act.put, List.setIfInBounds_toArray, List.set_cons_zero, List.set_cons_succ]
                refine wpAnyH_take (i := 29) (oi := { dst := some 96, op := Op.move (Operand.tmp 12), type := 3, pos := "law.go:122", after := #[{ on := 28, ground := Ground.guard }], guard := some (28, false) }) (v := ?vv89) rfl (by kernel_rfl) (by kernel_rfl) (by kernel_rfl) (fun _ _ _ h => h) ?hy89 (by assumption) ?rest89
                case hy89 => (refine Or.inl ⟨by rfl, ?_⟩; intro W hSw; (try dsimp only at hSw); go_simp; (try with_reducible rfl))
                try simp only [Act.put, List.setIfInBounds_toArray, List.set_cons_zero, List.set_cons_succ]
                refine wpAnyH_take (i := 30) (oi := { dst := some 97, op := Op.move (Operand.tmp 8), type := 24, pos := "law.go:122", after := #[{ on := 28, ground := Ground.guard }], guard := some (28, false) }) (v := ?vv90) rfl (by kernel_rfl) (by kernel_rfl) (by kernel_rfl) (fun _ _ _ h => h) ?hy90 (by assumption) ?rest90
                case hy90 => (refine Or.inl ⟨by rfl, ?_⟩; intro W hSw; (try dsimp only at hSw); go_simp; (try with_reducible rfl))
                try simp only [Act.put, List.setIfInBounds_toArray, List.set_cons_zero, List.set_cons_succ]
                refine wpAnyH_take (i := 31) (oi := { dst := some 98, op := Op.call { callee := Callee.builtin Builtin.len, args := #[Operand.tmp 97], argTypes := #[24] }, type := 3, pos := "law.go:122", after := #[{ on := 30, ground := Ground.data }, { on := 28, ground := Ground.guard }], guard := some (28, false) }) (v := ?vv91) rfl (by kernel_rfl) (by kernel_rfl) (by kernel_rfl) (fun _ _ _ h => h) ?hy91 (by assumption) ?rest91
                case hy91 => (refine Or.inl ⟨by rfl, ?_⟩; intro W hSw; (try dsimp only at hSw); go_simp; (try with_reducible rfl))
                try simp only [Act.put, List.setIfInBounds_toArray, List.set_cons_zero, List.set_cons_succ]
                refine wpAnyH_take (i := 32) (oi := { dst := some 99, op := Op.binOp BinOp.lss 3 (Operand.tmp 96) (Operand.tmp 98) 3, type := 4, pos := "law.go:122", after := #[{ on := 29, ground := Ground.data }, { on := 31, ground := Ground.data }, { on := 28, ground := Ground.guard }], guard := some (28, false) }) (v := (.bool true)) rfl (by kernel_rfl) (by kernel_rfl) (by kernel_rfl) (fun _ _ _ h => h) ?hy92 (by assumption) ?rest92
                case hy92 => ((refine Or.inl ⟨by rfl, ?_⟩; intro W hSw; (try dsimp only at hSw); go_simp; (first | done | with_reducible rfl | omega | (refine congrArg Value.bool ?_; first | exact decide_eq_false (by omega) | exact decide_eq_true (by omega) | simp_all))))
                try simp only [Act.put, List.setIfInBounds_toArray, List.set_cons_zero, List.set_cons_succ]
                refine wpAnyH_take (i := 33) (oi := { dst := some 100, op := Op.move (Operand.tmp 99), type := 4, pos := "law.go:122", after := #[{ on := 32, ground := Ground.data }, { on := 28, ground := Ground.chain }, { on := 28, ground := Ground.guard }], guard := some (28, false) }) (v := ?vv93) rfl (by kernel_rfl) (by kernel_rfl) (by kernel_rfl) (fun _ _ _ h => h) ?hy93 (by assumption) ?rest93
                case hy93 => (refine Or.inl ⟨by rfl, ?_⟩; intro W hSw; (try dsimp only at hSw); go_simp; (try with_reducible rfl))
                try simp only [Act.put, List.setIfInBounds_toArray, List.set_cons_zero, List.set_cons_succ]
                refine wpAnyH_take (i := 34) (oi := { dst := some 101, op := Op.move (Operand.tmp 12), type := 3, pos := "law.go:122", after := #[{ on := 33, ground := Ground.guard }], guard := some (33, true) }) (v := ?vv94) rfl (by kernel_rfl) (by kernel_rfl) (by kernel_rfl) (fun _ _ _ h => h) ?hy94 (by assumption) ?rest94
                case hy94 => (refine Or.inl ⟨by rfl, ?_⟩; intro W hSw; (try dsimp only at hSw); go_simp; (try with_reducible rfl))
                try simp only [Act.put, List.setIfInBounds_toArray, List.set_cons_zero, List.set_cons_succ]
                refine wpAnyH_take (i := 35) (oi := { dst := some 102, op := Op.move (Operand.tmp 11), type := 24, pos := "law.go:122", after := #[{ on := 33, ground := Ground.guard }], guard := some (33, true) }) (v := ?vv95) rfl (by kernel_rfl) (by kernel_rfl) (by kernel_rfl) (fun _ _ _ h => h) ?hy95 (by assumption) ?rest95
                case hy95 => (refine Or.inl ⟨by rfl, ?_⟩; intro W hSw; (try dsimp only at hSw); go_simp; (try with_reducible rfl))
                try simp only [Act.put, List.setIfInBounds_toArray, List.set_cons_zero, List.set_cons_succ]
                refine wpAnyH_take (i := 36) (oi := { dst := some 103, op := Op.call { callee := Callee.builtin Builtin.len, args := #[Operand.tmp 102], argTypes := #[24] }, type := 3, pos := "law.go:122", after := #[{ on := 35, ground := Ground.data }, { on := 33, ground := Ground.guard }], guard := some (33, true) }) (v := ?vv96) rfl (by kernel_rfl) (by kernel_rfl) (by kernel_rfl) (fun _ _ _ h => h) ?hy96 (by assumption) ?rest96
                case hy96 => (refine Or.inl ⟨by rfl, ?_⟩; intro W hSw; (try dsimp only at hSw); go_simp; (try with_reducible rfl))
                try simp only [Act.put, List.setIfInBounds_toArray, List.set_cons_zero, List.set_cons_succ]
                refine wpAnyH_take (i := 37) (oi := { dst := some 104, op := Op.binOp BinOp.lss 3 (Operand.tmp 101) (Operand.tmp 103) 3, type := 4, pos := "law.go:122", after := #[{ on := 34, ground := Ground.data }, { on := 36, ground := Ground.data }, { on := 33, ground := Ground.guard }], guard := some (33, true) }) (v := (.bool true)) rfl (by kernel_rfl) (by kernel_rfl) (by kernel_rfl) (fun _ _ _ h => h) ?hy97 (by assumption) ?rest97
                case hy97 => ((refine Or.inl ⟨by rfl, ?_⟩; intro W hSw; (try dsimp only at hSw); go_simp; (first | done | with_reducible rfl | omega | (refine congrArg Value.bool ?_; first | exact decide_eq_false (by omega) | exact decide_eq_true (by omega) | simp_all))))
                try simp only [Act.put, List.setIfInBounds_toArray, List.set_cons_zero, List.set_cons_succ]
                refine wpAnyH_take (i := 38) (oi := { dst := some 105, op := Op.pick (Operand.tmp 100) (Operand.tmp 104) (Operand.const (Value.bool false)), type := 4, pos := "law.go:122", after := #[{ on := 33, ground := Ground.data }, { on := 37, ground := Ground.data }, { on := 28, ground := Ground.guard }], guard := some (28, false) }) (v := (.bool true)) rfl (by kernel_rfl) (by kernel_rfl) (by kernel_rfl) (fun _ _ _ h => h) ?hy98 (by assumption) ?rest98
                case hy98 => ((refine Or.inl ⟨by rfl, ?_⟩; intro W hSw; (try dsimp only at hSw); go_simp; (first | done | with_reducible rfl | omega | (refine congrArg Value.bool ?_; first | exact decide_eq_false (by omega) | exact decide_eq_true (by omega) | simp_all))))
                try simp only [Act.put, List.setIfInBounds_toArray, List.set_cons_zero, List.set_cons_succ]
                refine wpAnyH_take (i := 39) (oi := { dst := some 106, op := Op.move (Operand.tmp 105), type := 4, pos := "law.go:122", after := #[{ on := 38, ground := Ground.data }, { on := 33, ground := Ground.chain }, { on := 28, ground := Ground.guard }], guard := some (28, false) }) (v := ?vv99) rfl (by kernel_rfl) (by kernel_rfl) (by kernel_rfl) (fun _ _ _ h => h) ?hy99 (by assumption) ?rest99
                case hy99 => (refine Or.inl ⟨by rfl, ?_⟩; intro W hSw; (try dsimp only at hSw); go_simp; (try with_reducible rfl))
                try simp only [Act.put, List.setIfInBounds_toArray, List.set_cons_zero, List.set_cons_succ]
                refine wpAnyH_take (i := 40) (oi := { dst := some 107, op := Op.move (Operand.tmp 8), type := 24, pos := "law.go:122", after := #[{ on := 39, ground := Ground.guard }], guard := some (39, true) }) (v := ?vv100) rfl (by kernel_rfl) (by kernel_rfl) (by kernel_rfl) (fun _ _ _ h => h) ?hy100 (by assumption) ?rest100
                case hy100 => (refine Or.inl ⟨by rfl, ?_⟩; intro W hSw; (try dsimp only at hSw); go_simp; (try with_reducible rfl))
                try simp only [Act.put, List.setIfInBounds_toArray, List.set_cons_zero, List.set_cons_succ]
                refine wpAnyH_take (i := 41) (oi := { dst := some 108, op := Op.move (Operand.tmp 12), type := 3, pos := "law.go:122", after := #[{ on := 39, ground := Ground.guard }], guard := some (39, true) }) (v := ?vv101) rfl (by kernel_rfl) (by kernel_rfl) (by kernel_rfl) (fun _ _ _ h => h) ?hy101 (by assumption) ?rest101
                case hy101 => (refine Or.inl ⟨by rfl, ?_⟩; intro W hSw; (try dsimp only at hSw); go_simp; (try with_reducible rfl))
                try simp only [Act.put, List.setIfInBounds_toArray, List.set_cons_zero, List.set_cons_succ]
                refine wpAnyH_take (i := 42) (oi := { dst := some 109, op := Op.indexAddr 24 (Operand.tmp 107) (Operand.tmp 108), type := 0, pos := "law.go:122", after := #[{ on := 40, ground := Ground.data }, { on := 41, ground := Ground.data }, { on := 39, ground := Ground.guard }], guard := some (39, true) }) (v := ?vv102) rfl (by kernel_rfl) (by kernel_rfl) (by kernel_rfl) (fun _ _ _ h => h) ?hy102 (by assumption) ?rest102
                case hy102 => (refine Or.inl ⟨by rfl, ?_⟩; intro W hSw; (try dsimp only at hSw); go_simp; (try with_reducible rfl))
                try simp only [Act.put, List.setIfInBounds_toArray, List.set_cons_zero, List.set_cons_succ]
                refine wpAnyH_take (i := 43) (oi := { dst := some 110, op := Op.load 3 (Operand.tmp 109), type := 3, pos := "law.go:122", after := #[{ on := 42, ground := Ground.data }, { on := 39, ground := Ground.guard }], guard := some (39, true) }) (v := ?vv103) rfl (by kernel_rfl) (by kernel_rfl) (by kernel_rfl) (fun _ _ _ h => h) ?hy103 (by assumption) ?rest103
                case hy103 => (refine Or.inl ⟨by rfl, ?_⟩; intro W hSw; (try dsimp only at hSw); go_simp; (try with_reducible rfl))
                try simp only [Act.put, List.setIfInBounds_toArray, List.set_cons_zero, List.set_cons_succ]
                refine wpAnyH_take (i := 44) (oi := { dst := some 111, op := Op.move (Operand.tmp 11), type := 24, pos := "law.go:122", after := #[{ on := 39, ground := Ground.guard }], guard := some (39, true) }) (v := ?vv104) rfl (by kernel_rfl) (by kernel_rfl) (by kernel_rfl) (fun _ _ _ h => h) ?hy104 (by assumption) ?rest104
                case hy104 => (refine Or.inl ⟨by rfl, ?_⟩; intro W hSw; (try dsimp only at hSw); go_simp; (try with_reducible rfl))
                try simp only [Act.put, List.setIfInBounds_toArray, List.set_cons_zero, List.set_cons_succ]
                refine wpAnyH_take (i := 45) (oi := { dst := some 112, op := Op.move (Operand.tmp 12), type := 3, pos := "law.go:122", after := #[{ on := 39, ground := Ground.guard }], guard := some (39, true) }) (v := ?vv105) rfl (by kernel_rfl) (by kernel_rfl) (by kernel_rfl) (fun _ _ _ h => h) ?hy105 (by assumption) ?rest105
                case hy105 => (refine Or.inl ⟨by rfl, ?_⟩; intro W hSw; (try dsimp only at hSw); go_simp; (try with_reducible rfl))
                try simp only [Act.put, List.setIfInBounds_toArray, List.set_cons_zero, List.set_cons_succ]
                refine wpAnyH_take (i := 46) (oi := { dst := some 113, op := Op.indexAddr 24 (Operand.tmp 111) (Operand.tmp 112), type := 0, pos := "law.go:122", after := #[{ on := 44, ground := Ground.data }, { on := 45, ground := Ground.data }, { on := 39, ground := Ground.guard }], guard := some (39, true) }) (v := ?vv106) rfl (by kernel_rfl) (by kernel_rfl) (by kernel_rfl) (fun _ _ _ h => h) ?hy106 (by assumption) ?rest106
                case hy106 => (refine Or.inl ⟨by rfl, ?_⟩; intro W hSw; (try dsimp only at hSw); go_simp; (try with_reducible rfl))
                try simp only [Act.put, List.setIfInBounds_toArray, List.set_cons_zero, List.set_cons_succ]
                refine wpAnyH_take (i := 47) (oi := { dst := some 114, op := Op.load 3 (Operand.tmp 113), type := 3, pos := "law.go:122", after := #[{ on := 46, ground := Ground.data }, { on := 39, ground := Ground.guard }], guard := some (39, true) }) (v := ?vv107) rfl (by kernel_rfl) (by kernel_rfl) (by kernel_rfl) (fun _ _ _ h => h) ?hy107 (by assumption) ?rest107
                case hy107 => (refine Or.inl ⟨by rfl, ?_⟩; intro W hSw; (try dsimp only at hSw); go_simp; (try with_reducible rfl))
                try simp only [Act.put, List.setIfInBounds_toArray, List.set_cons_zero, List.set_cons_succ]
                refine wpAnyH_take (i := 48) (oi := { dst := some 115, op := Op.binOp BinOp.eql 3 (Operand.tmp 110) (Operand.tmp 114) 3, type := 4, pos := "law.go:122", after := #[{ on := 43, ground := Ground.data }, { on := 47, ground := Ground.data }, { on := 39, ground := Ground.guard }], guard := some (39, true) }) (v := (.bool false)) rfl (by kernel_rfl) (by kernel_rfl) (by kernel_rfl) (fun _ _ _ h => h) ?hy108 (by assumption) ?rest108
                case hy108 => ((refine Or.inl ⟨by rfl, ?_⟩; intro W hSw; (try dsimp only at hSw); go_simp; (first | done | with_reducible rfl | omega | (refine congrArg Value.bool ?_; first | exact decide_eq_false (by omega) | exact decide_eq_true (by omega) | simp_all))))
                try simp only [Act.put, List.setIfInBounds_toArray, List.set_cons_zero, List.set_cons_succ]
                refine wpAnyH_take (i := 49) (oi := { dst := some 116, op := Op.pick (Operand.tmp 106) (Operand.tmp 115) (Operand.const (Value.bool false)), type := 4, pos := "law.go:122", after := #[{ on := 39, ground := Ground.data }, { on := 48, ground := Ground.data }, { on := 28, ground := Ground.guard }], guard := some (28, false) }) (v := (.bool false)) rfl (by kernel_rfl) (by kernel_rfl) (by kernel_rfl) (fun _ _ _ h => h) ?hy109 (by assumption) ?rest109
                case hy109 => ((refine Or.inl ⟨by rfl, ?_⟩; intro W hSw; (try dsimp only at hSw); go_simp; (first | done | with_reducible rfl | omega | (refine congrArg Value.bool ?_; first | exact decide_eq_false (by omega) | exact decide_eq_true (by omega) | simp_all))))
                try simp only [Act.put, List.setIfInBounds_toArray, List.set_cons_zero, List.set_cons_succ]
                refine wpAnyH_take (i := 50) (oi := { dst := some 117, op := Op.pick (Operand.tmp 95) (Operand.const (Value.bool true)) (Operand.tmp 116), type := 4, pos := "law.go:122", after := #[{ on := 28, ground := Ground.data }, { on := 49, ground := Ground.data }], guard := none }) (v := (.bool false)) rfl (by kernel_rfl) (by kernel_rfl) (by kernel_rfl) (fun _ _ _ h => h) ?hy110 (by assumption) ?rest110
                case hy110 => ((refine Or.inl ⟨by rfl, ?_⟩; intro W hSw; (try dsimp only at hSw); go_simp; (first | done | with_reducible rfl | omega | (refine congrArg Value.bool ?_; first | exact decide_eq_false (by omega) | exact decide_eq_true (by omega) | simp_all))))
                try simp only [Act.put, List.setIfInBounds_toArray, List.set_cons_zero, List.set_cons_succ]
                refine wpAnyH_done (by kernel_rfl) ?_ _
                clear hHeld HS hb10 hb11 HPR HBG HALL z1 z2 z3 z4 z5 hxy hlk
                have HH11 := Lib.hid (HH7.out.on HC11.out)
                have HS11 := Lib.hid (HSP7.out.below HC11.out)
                go_wp2_with fail
                go_roundw
                case rel => exact ⟨k + 1, HLK.out, by go_num, HH11.out, HS11.out⟩
                case measure => have := HLK.out; simp [intOf]; omega
          · obtain rfl : k = V.length := by omega
            have hn : ¬ (V.length : Int) < (V.length : Int) := by omega
            clear hk hlt hh hsp
            go_wp2_with fail
            go_roundw
            case rel => exact ⟨i + 1, HLT.out, by go_num, HK.out⟩
            case measure => have := HLT.out; simp [intOf]; omega
      · obtain rfl : i = V.length := by omega
        have hn : ¬ (V.length : Int) < (V.length : Int) := by omega
        have HAW := Lib.hid (awake_any hh.glob)
        clear hi hlt hh
        go_wp2_with fail
        refine (HAW.out).mono ?_
        rintro e w5 ⟨rfl, hb5⟩
        have HB5 := Lib.hid (HH.out.on hb5).below
        clear hb5
        go_wp2_with fail
        refine bodyPost_ret (v := .bool true) (by simp [results, Tryd.results5, go_sem]) rfl ⟨rfl, HB5.out⟩
end Go.Proofs.YtpploljennbpdaaDoor
