/- trie: the law TrieBuilds. -/
import Derived.Test.YtpploljennbpdaaDoorZTrlA
import Derived.Test.YtpploljennbpdaaDoorZTrkE
set_option linter.unusedSimpArgs false
set_option linter.unusedVariables false
set_option linter.unnecessarySimpa false
namespace Go.Proofs.YtpploljennbpdaaDoor
open Go.RowKit Go.Shelf

theorem row_empty (W : World) (t : TypeId) : RowIs (W.alloc (.cells #[] t)) 1 (.slice (some ⟨W.heap.size, 0, none⟩) 0 0) 0 [] :=
  .inr ⟨W.heap.size, 0, rfl, rfl, Nat.le_refl _, by rw [asz]; omega, by simp, by unfold maxLen; omega, (fun j b hj => by simp at hj), (fun j hj => by omega)⟩
/-- The law's own copies of the paths. -/
structure Mine (w1 : World) (v : Value) (vs : List Value) (M : List Pth) (W : World) : Prop where
  pr : PRow W w1.heap.size v vs M
  below : Below w1.heap.size w1 W
  apart : ∀ (i j : Nat) (u x : Value) (g : Nat), vs[i]? = some u → vs[j]? = some x → u.ownBlock = some g → x.ownBlock = some g → i = j
theorem Mine.push {w1 W W2 W3 : World} {v v' u : Value} {vs : List Value} {M : List Pth} {p : Pth} (h : Mine w1 v vs M W) (hb : Below W.heap.size W W2) (hu : RowIs W2 1 u p.length (ints p)) (hn : ∀ g, u.ownBlock = some g → W.heap.size ≤ g)
    (hr : RowIs W3 1 v' (vs ++ [u]).length (vs ++ [u])) (ht : Touch (fun k => v.ownBlock = some k) W2 W3) (ho : ∀ k, v'.ownBlock = some k → v.ownBlock = some k ∨ W2.heap.size ≤ k) : Mine w1 v' (vs ++ [u]) (M ++ [p]) W3 := by
  have hs := h.below.size
  have hs2 := hb.size
  refine ⟨(h.pr.below hb).push (by omega) hu (fun g hg => ⟨by have := hn g hg; omega, fun e => by have := hn g hg; have := h.pr.row.lt g e; omega⟩) hr ht ho, (h.below.trans (hb.mono hs)).trans (ht.below (fun i hi => h.pr.own i hi) (by omega)), fun i j x y g hx hy h1 h2 => ?_⟩
  have old : ∀ (i : Nat) (x : Value), i < vs.length → vs[i]? = some x → x.ownBlock = some g → g < W.heap.size := fun i x hi hx e => by
    have hl : i < M.length := by rw [← h.pr.len]; exact hi
    exact (h.pr.each i x _ hx (List.getElem?_eq_getElem hl)).lt g e
  rcases snoc_split hx with ⟨a1, a2⟩ | ⟨rfl, rfl⟩
  · rcases snoc_split hy with ⟨b1, b2⟩ | ⟨rfl, rfl⟩
    · exact h.apart i j x y g a2 b2 h1 h2
    · have := old i x a1 a2 h1; have := hn g h2; omega
  · rcases snoc_split hy with ⟨b1, b2⟩ | ⟨b1, b2⟩
    · have := old j y b1 b2 h2; have := hn g h1; omega
    · exact b1.symm
/-- While the copies are spoilt. -/
structure Spl (w1 w2 w4 : World) (v : Value) (vs : List Value) (L : List Pth) (W : World) : Prop where
  row : RowIs W 1 v vs.length vs
  each : ∀ (i : Nat) (u : Value) (p : Pth), vs[i]? = some u → L[i]? = some p → ∃ l : List Int, l.length = p.length ∧ RowIs W 1 u l.length (ints l)
  touch : Touch (fun k => w1.heap.size ≤ k ∧ k < w2.heap.size) w4 W
theorem Mine.spl {w1 w2 w4 : World} {v : Value} {vs : List Value} {L : List Pth} (h : Mine w1 v vs L w2) (hb : Below w2.heap.size w2 w4) : Spl w1 w2 w4 v vs L w4 :=
  ⟨h.pr.row.below hb, fun i u p hu hp => ⟨p, rfl, (h.pr.each i u p hu hp).below hb⟩, Touch.refl _ _⟩
theorem Spl.write {w1 w2 w4 W : World} {v : Value} {vs : List Value} {L : List Pth} (hm : Mine w1 v vs L w2) (h24 : w2.heap.size ≤ w4.heap.size) (h : Spl w1 w2 w4 v vs L W) {i g n c j : Nat} {p : Pth} (hu : vs[i]? = some (.slice (some ⟨g, 0, none⟩) n c)) (hp : L[i]? = some p) (hj : j < p.length) : Spl w1 w2 w4 v vs L (W.setCell ⟨g, j, none⟩ (.int .i64 7)) := by
  have hown : (Value.slice (some ⟨g, 0, none⟩) n c).ownBlock = some g := rfl
  have ht : Touch (fun k => k = g) W (W.setCell ⟨g, j, none⟩ (.int .i64 7)) := (Touch.refl (fun k => k = g) W).setCell ⟨g, j, none⟩ (fun _ => rfl) _
  obtain ⟨m1, m2⟩ := hm.pr.made i _ g hu hown
  have hlt := (hm.pr.each i _ p hu hp).lt g hown
  refine ⟨h.row.touch ht (fun k hk e => m2 (by rw [← e]; exact hk)), fun i' u' p' hu' hp' => ?_, h.touch.trans ht (fun k _ e => by rw [e]; exact ⟨m1, hlt⟩)⟩
  by_cases hii : i' = i
  · subst hii
    rw [hu] at hu'
    cases hu'
    rw [hp] at hp'
    cases hp'
    obtain ⟨l, hl, hr⟩ := h.each i' _ p hu hp
    refine ⟨l.set j 7, by rw [List.length_set]; exact hl, ?_⟩
    rcases hr with ⟨e, _⟩ | ⟨g', c', e, h1, h2, hc⟩
    · cases e
    · injection e with e1 e2 e3
      injection e1 with e1
      injection e1 with e1
      subst e1 e2 e3
      refine .inr ⟨g, c, by rw [List.length_set], by rw [ints_len, Nat.mul_one], by rw [List.length_set]; exact h2, ?_⟩
      have := hc.setU (p := j) (by rw [ints_len, hl]; exact hj) (.int .i64 7)
      have e : (ints l).set j (.int .i64 7) = ints (l.set j 7) := by unfold ints; rw [List.map_set]
      rwa [e] at this
  · obtain ⟨l, hl, hr⟩ := h.each i' u' p' hu' hp'
    exact ⟨l, hl, hr.touch ht (fun k hk e => hii (hm.apart i' i u' _ g hu' hu (by rw [← e]; exact hk) hown))⟩
theorem bld_one {L : List Pth} {w w1 : World} {e : Ending} (h : BldP L w e w1) : ∃ A n c, e = .returned (.tuple #[.agg #[.slice A n c], .int .i64 (bcode L)]) ∧ ((bcode L ≠ 0 ∧ A = none ∧ n = 0 ∧ c = 0) ∨ (bcode L = 0 ∧ ∃ N, TrAt w1 (.slice A n c) N (treeP L) ∧ ∀ g, TrOwn (.slice A n c) N g → w.heap.size ≤ g)) := by
  rcases h.2 with ⟨h0, rfl⟩ | ⟨h0, v, N, rfl, ht, ho⟩
  · exact ⟨none, 0, 0, rfl, .inl ⟨h0, rfl, rfl, rfl⟩⟩
  · obtain ⟨g, cap, rfl, _⟩ := ht.form
    exact ⟨_, _, _, by rw [h0], .inr ⟨h0, N, ht, ho⟩⟩
theorem rbld_one {L : List Pth} {w w1 : World} {e : Ending} (h : RBldP L w e w1) : ∃ A n c, e = .returned (.tuple #[.agg #[.slice A n c], .int .i64 (bcode L)]) ∧ ((bcode L ≠ 0 ∧ A = none ∧ n = 0 ∧ c = 0) ∨ (bcode L = 0 ∧ RTr w1 (.slice A n c) (treeP L))) := by
  rcases h.2 with ⟨h0, rfl⟩ | ⟨h0, v, rfl, ht⟩
  · exact ⟨none, 0, 0, rfl, .inl ⟨h0, rfl, rfl, rfl⟩⟩
  · obtain ⟨A, cap, rfl, _⟩ := ht.row.form
    exact ⟨_, _, _, by rw [h0], .inr ⟨h0, ht⟩⟩
set_option maxRecDepth 100000 in
set_option maxHeartbeats 8000000 in
theorem law_builds {w : World} {v : Value} {L1 : List Pth} (hG : Glob w) (h : PsIs w v L1) : Calls Tryd.prog 3 #[v] w fun e w' => e = .returned (.bool true) ∧ Below w.heap.size w w' := by
  have HCU := Lib.hid (Cut_any h)
  have HG := Lib.hid hG
  obtain ⟨A0, cap0, rfl, hc01, hc02⟩ := h.form
  unfold maxLen at hc02
  obtain ⟨L, hL⟩ : ∃ L, cutP L1 = L := ⟨_, rfl⟩
  have hl10 : L.length ≤ 10 := by rw [← hL]; exact cut_len L1
  have hp10 : ∀ p ∈ L, p.length ≤ 10 := by rw [← hL]; exact fun p hp => cut_short hp
  unfold CutP at HCU
  rw [hL] at HCU
  have HL10 := Lib.hid hl10
  have HP10 := Lib.hid hp10
  have hLI : (L.length : Int) ≤ 10 := by omega
  clear h hL hG hl10 hp10
  go_enter Tryd.func3, Tryd.ntmps3
  go_wp2_with fail
  refine (HCU.out).mono ?_
  rintro e w1 ⟨ov, vs0, rfl, hpr, hb1⟩
  have hps := hpr.is
  obtain ⟨oA, ocap, rfl, ho1, ho2⟩ := hps.form
  unfold maxLen at ho2
  have HB1 := Lib.hid hb1
  have HPS := Lib.hid hps
  have HG1 := Lib.hid (HG.out.below hb1)
  clear hpr hb1 hps HCU
  go_wp2_with fail
  go_loopw [3, 17] (fun mv iv wr => ∃ (k : Nat) (vs : List Value), k ≤ L.length ∧ iv = .int .i64 k ∧ Mine w1 mv vs (L.take k) wr) (fun _ iv _ => L.length - (intOf iv).toNat)
  case atStart => exact ⟨0, [], Nat.zero_le _, rfl, by rw [List.take_zero]; exact ⟨PRow.nil _ _, Below.refl _ _, fun i j u x g h => by simp at h⟩⟩
  case round =>
    obtain ⟨k, vs, hk, rfl, hm⟩ := hrel
    have HM := Lib.hid hm
    by_cases hlt : k < L.length
    · have hx : L[k]? = some L[k] := List.getElem?_eq_getElem hlt
      generalize L[k] = p at hx
      obtain ⟨a, pv, rfl, hab, kc0, hps0⟩ := HPS.out.at hx
      have kc := (hm.below.cell (p := a.add k) (by rw [add_block]; exact hab)).trans kc0
      have hkI : (k : Int) < (L.length : Int) := by omega
      have HLT := Lib.hid hlt
      have hsp := hps0.below hm.below
      have hbe := below_new (w := wr) (.cells #[] 3)
      have hp10 := HP10.out p (List.mem_of_getElem? hx)
      obtain ⟨u1, w2, hrun1, hr1, ht1, ho1⟩ := app_sis (l := []) 24 (row_empty wr 3) (hsp.below hbe) (by simp; omega)
      rw [List.nil_append] at hr1
      obtain ⟨uA, un, uc, rfl⟩ : ∃ A n c, u1 = .slice A n c := by
        obtain ⟨A, c, e, _⟩ := hr1.form
        exact ⟨A, _, c, e⟩
      have hb2 : Below wr.heap.size wr w2 := hbe.trans (ht1.below (fun i hi => by have : wr.heap.size = i := Option.some.inj hi; omega) (by rw [asz]; omega))
      have hn : ∀ g, (Value.slice uA un uc).ownBlock = some g → wr.heap.size ≤ g := fun g hg => by
        rcases ho1 g hg with e | e
        · have : wr.heap.size = g := Option.some.inj e
          omega
        · rw [asz] at e; omega
      obtain ⟨mv', w3, hrun2, hr2, ht2, ho2⟩ := app_sl (u := .slice uA un uc) rfl 22 (hm.pr.row.below hb2) (by rw [hm.pr.len, List.length_take]; have := HL10.out; omega)
      have hpush := hm.push hb2 hr1 hn hr2 ht2 ho2
      have htk : L.take (k + 1) = L.take k ++ [p] := by rw [List.take_add_one, hx]; rfl
      rw [← htk] at hpush
      have HPU := Lib.hid hpush
      have HR1 := Lib.hid hrun1
      have HR2 := Lib.hid hrun2
      clear hk hm hlt hx hab kc0 hps0 hsp hbe hp10 hrun1 hr1 ht1 ho1 hb2 hn hrun2 hr2 ht2 ho2 hpush htk
      go_wp2_with (at_builtin; first | refine wpList_app_run rfl _ _ _ _ rfl rfl rfl HR1.out ?_ | refine wpList_app_run rfl _ _ _ _ rfl rfl rfl HR2.out ?_)
      go_roundw
      case rel => exact ⟨k + 1, _, HLT.out, by go_num, HPU.out⟩
      case measure => have := HLT.out; simp [intOf]; omega
    · obtain rfl : k = L.length := by omega
      rw [List.take_length] at hm
      have hn : ¬ (L.length : Int) < (L.length : Int) := by omega
      obtain ⟨w2, rfl⟩ : ∃ w2, w2 = wr := ⟨_, rfl⟩
      have hmp := hm.pr.is
      obtain ⟨mA, mc, rfl, hm1, hm2⟩ := hmp.form
      unfold maxLen at hm2
      have HM := Lib.hid hm
      have HBD := Lib.hid (Build_any (HG1.out.below hm.below) hmp (by have := HL10.out; omega) (fun p hp => by have := HP10.out p hp; omega))
      clear hk hlt hm hmp
      go_wp2_with fail
      refine (HBD.out).mono ?_
      rintro e w3 hb
      obtain ⟨tA, tn, tc, rfl, htree⟩ := bld_one hb
      have hb3 := hb.1
      have hb4 := below_new (w := w3) (.cells #[.slice tA tn tc] 27)
      have hx4 := alloc_at w3 (.cells #[.slice tA tn tc] 27)
      obtain ⟨w4, hw4⟩ : ∃ w4, w4 = w3.alloc (.cells #[.slice tA tn tc] 27) := ⟨_, rfl⟩
      rw [← hw4] at hb4 hx4
      obtain ⟨bx, hbx⟩ : ∃ bx, w3.heap.size = bx := ⟨_, rfl⟩
      have hbx2 : w2.heap.size ≤ bx := by rw [← hbx]; exact hb3.size
      rw [hbx] at hx4
      have HW4 := Lib.hid hw4
      have HX4 := Lib.hid hx4
      have HBX := Lib.hid hbx
      have HBX2 := Lib.hid hbx2
      have HB24 := Lib.hid (hb3.trans (hb4.mono hb3.size))
      have HTREE : Hid ((bcode L ≠ 0 ∧ tA = none ∧ tn = 0 ∧ tc = 0) ∨ (bcode L = 0 ∧ ∃ N, TrAt w4 (.slice tA tn tc) N (treeP L) ∧ ∀ g, TrOwn (.slice tA tn tc) N g → w2.heap.size ≤ g)) := Lib.hid (by
        rcases htree with h | ⟨h0, N, ht, ho⟩
        · exact .inl h
        · exact .inr ⟨h0, N, ht.below hb4, ho⟩)
      obtain ⟨c, hc⟩ : ∃ c, bcode L = c := ⟨_, rfl⟩
      rw [hc]
      have HC := Lib.hid hc
      have hsp := HM.out.spl HB24.out
      have HSP := Lib.hid hsp
      clear hb htree hb3 hb4 hx4 hw4 hbx hbx2 hc hsp HBD
      go_wp2_with fail
      rw [← HW4.out, HBX.out]
      go_loopw [35] (fun iv wr => ∃ k : Nat, k ≤ L.length ∧ iv = .int .i64 k ∧ Spl w1 w2 w4 (.slice mA L.length mc) vs L wr) (fun iv _ => L.length - (intOf iv).toNat)
      case atStart => exact ⟨0, Nat.zero_le _, rfl, HSP.out⟩
      case round =>
        obtain ⟨k, hk, rfl, hs⟩ := hrel
        have HS := Lib.hid hs
        by_cases hlt : k < L.length
        · have hx : L[k]? = some L[k] := List.getElem?_eq_getElem hlt
          generalize L[k] = p at hx
          have hkv : k < vs.length := by rw [HM.out.pr.len]; exact hlt
          have hu : vs[k]? = some vs[k] := List.getElem?_eq_getElem hkv
          generalize vs[k] = u at hu
          obtain ⟨_, _, e', _, _, _, _, hcc⟩ := hs.row.form
          injection e' with e1 e2 e3
          subst e1 e3
          obtain ⟨gm, rfl, km⟩ := hcc k u hu
          obtain ⟨l, hl, hru⟩ := hs.each k u p hu hx
          obtain ⟨uA, uc, rfl, hu1, hu2, hu3, hu4, _⟩ := hru.form
          unfold maxLen at hu2
          rw [hl] at km hu1 hru
          have hkI : (k : Int) < (L.length : Int) := by omega
          have HLT := Lib.hid hlt
          have HU : Hid (vs[k]? = some (.slice uA p.length uc)) := Lib.hid (by rw [← hl]; exact hu)
          have HX := Lib.hid hx
          have hp10 := HP10.out p (List.mem_of_getElem? hx)
          have hpI : (p.length : Int) ≤ 10 := by omega
          clear hk hs hlt hx hkv hcc e2 hl hru hu hu3 hu4 hp10
          go_wp2_with fail
          go_loopw [41] (fun jv wr => ∃ j : Nat, j ≤ p.length ∧ jv = .int .i64 j ∧ Spl w1 w2 w4 (.slice (some ⟨gm, 0, none⟩) L.length mc) vs L wr) (fun jv _ => p.length - (intOf jv).toNat)
          case atStart => exact ⟨0, Nat.zero_le _, rfl, HS.out⟩
          case round =>
            obtain ⟨j, hj, rfl, hs⟩ := hrel
            have HS := Lib.hid hs
            by_cases hjl : j < p.length
            · have hjI : (j : Int) < (p.length : Int) := by omega
              obtain ⟨l, hl, hru⟩ := hs.each k _ p HU.out HX.out
              rcases hru with ⟨e, _⟩ | ⟨gu, c', e, h1, h2, hcc⟩
              · injection e with _ e2
                omega
              injection e with e1 e2 e3
              subst e1 e3
              have hth := hcc.there j (by omega)
              obtain ⟨q1, q2⟩ := hth
              obtain ⟨y, q1⟩ := Option.isSome_iff_exists.1 q1
              have HJL := Lib.hid hjl
              have HW := Lib.hid (hs.write HM.out HB24.out.size HU.out HX.out hjl)
              clear hj hs hjl hl h1 h2 hcc e2
              go_wp2_with fail
              go_roundw
              case rel => exact ⟨j + 1, HJL.out, by go_num, HW.out⟩
              case measure => have := HJL.out; simp [intOf]; omega
            · obtain rfl : j = p.length := by omega
              have hn2 : ¬ (p.length : Int) < (p.length : Int) := by omega
              clear hj hs hjl
              go_wp2_with fail
              go_roundw
              case rel => exact ⟨k + 1, HLT.out, by go_num, HS.out⟩
              case measure => have := HLT.out; simp [intOf]; omega
        · obtain rfl : k = L.length := by omega
          have hn3 : ¬ (L.length : Int) < (L.length : Int) := by omega
          have hb1w : Below w1.heap.size w1 wr := (HM.out.below.trans (HB24.out.mono HM.out.below.size)).trans (hs.touch.below (fun i hi => hi.1) (Nat.le_trans HM.out.below.size HB24.out.size))
          have HB1W := Lib.hid hb1w
          have HPW := Lib.hid (HPS.out.below hb1w)
          have HXW := Lib.hid ((hs.touch.block _ (heap_lt HX4.out) (fun e => by have := HBX2.out; omega)).trans HX4.out)
          have HTW : Hid ((bcode L ≠ 0 ∧ tA = none ∧ tn = 0 ∧ tc = 0) ∨ (bcode L = 0 ∧ ∃ N, TrAt wr (.slice tA tn tc) N (treeP L))) := Lib.hid (by
            rcases HTREE.out with h | ⟨h0, N, ht, ho⟩
            · exact .inl h
            · exact .inr ⟨h0, N, ht.touch hs.touch (fun g hg e => by have := ho g hg; omega)⟩)
          have HRB := Lib.hid (RBuild_any HPW.out (by have := HL10.out; omega) (fun p hp => by have := HP10.out p hp; omega))
          clear hk hlt hs hb1w HTREE HSP
          go_wp2_with fail
          refine (HRB.out).mono ?_
          rintro e w6 hb
          obtain ⟨rA, rn, rc, rfl, hrt⟩ := rbld_one hb
          have hb6 := hb.1
          rw [HC.out]
          have hb7 := below_new (w := w6) (.cells #[.slice rA rn rc] 32)
          have hx7 := alloc_at w6 (.cells #[.slice rA rn rc] 32)
          obtain ⟨w7, hw7⟩ : ∃ w7, w7 = w6.alloc (.cells #[.slice rA rn rc] 32) := ⟨_, rfl⟩
          rw [← hw7] at hb7 hx7
          have HW7 := Lib.hid hw7
          have hbw7 := hb6.trans (hb7.mono hb6.size)
          have qt := cell_of ((hbw7.block _ (heap_lt HXW.out)).trans HXW.out) 0
          have qt6 := qt
          rw [hw7] at qt6
          obtain ⟨br, hbr⟩ : ∃ br, w6.heap.size = br := ⟨_, rfl⟩
          rw [hbr] at hx7
          have HBR := Lib.hid hbr
          have qr := cell_of hx7 0
          have HB7 := Lib.hid (HB1W.out.trans (hbw7.mono HB1W.out.size))
          have HSA : Hid (Calls Tryd.prog 9 #[.agg #[.slice tA tn tc], .agg #[.slice rA rn rc]] w7 fun e w' => e = .returned (.bool true) ∧ Below w7.heap.size w7 w') := Lib.hid (by
            rcases HTW.out with ⟨h0, rfl, rfl, rfl⟩ | ⟨h0, N, ht⟩
            · rcases hrt with ⟨_, rfl, rfl, rfl⟩ | ⟨h1, _⟩
              · exact lsame_none w7
              · exact absurd h1 h0
            · rcases hrt with ⟨h1, _⟩ | ⟨_, hr⟩
              · exact absurd h0 h1
              · exact lsame_any (ht.below hbw7) (hr.below hb7))
          have hcc : (c == c) = true := beq_self_eq_true c
          have HAW : Hid (∀ W, Below w7.heap.size w7 W → Calls Tryd.prog 10 #[] W fun e w' => e = .returned (.bool true) ∧ Below W.heap.size W w') := Lib.hid (fun W hW => awake_any ((HG1.out.below (HB7.out.mono (Nat.le_refl _))).below hW))
          clear hb hrt hb6 hb7 hx7 hw7 hbw7 hbr HRB
          go_wp2_with fail
          rw [← HW7.out, HBR.out]
          go_wp2_with fail
          refine (HSA.out).mono ?_
          rintro e w8 ⟨rfl, hb8⟩
          have HB8 := Lib.hid hb8
          clear hb8 qt qr qt6
          go_wp2_with fail
          refine (HAW.out _ HB8.out).mono ?_
          rintro e w9 ⟨rfl, hb9⟩
          have HB9 := Lib.hid (HB1.out.trans ((HB7.out.trans ((HB8.out.trans (hb9.mono HB8.out.size)).mono HB7.out.size)).mono HB1.out.size))
          clear hb9
          go_wp2_with fail
          refine bodyPost_ret (v := .bool true) (by simp [results, Tryd.results3, go_sem]) rfl ⟨rfl, HB9.out⟩
end Go.Proofs.YtpploljennbpdaaDoor
