/- ChainPlays: the law's walk. -/
import Derived.Test.YtmaokoekbjjgfaaDoorZChdM
import Derived.Test.YtmaokoekbjjgfaaDoorZChdJ
set_option linter.unusedSimpArgs false
set_option linter.unusedVariables false
set_option linter.unnecessarySimpa false
namespace Go.Proofs.YtmaokoekbjjgfaaDoor
open Go.RowKit Go.Shelf

theorem RowIs.moved {w w' : World} {z : Nat} {v : Value} {n : Nat} {l : List Value} (h : RowIs w z v n l) (hk : ∀ g, v.ownBlock = some g → ∃ o, w.heap[g]? = some o ∧ w'.heap[g]? = some o) : RowIs w' z v n l := by
  rcases h with h | ⟨g, cap, rfl, h1, h2, h⟩
  · exact .inl h
  · obtain ⟨o, e1, e2⟩ := hk g rfl
    have e : w'.heap[g]? = w.heap[g]? := e2.trans e1.symm
    exact .inr ⟨g, cap, rfl, h1, h2, heap_lt e2, h.le, h.max, fun j b hj => by rw [World.cell?_of_block (a := ⟨g, j, none⟩) e]; exact h.holds j b hj, fun j hj => by rw [World.cell?_of_block (a := ⟨g, j, none⟩) e, World.frozen?_of_block (a := ⟨g, j, none⟩) e]; exact h.there j hj⟩
theorem Both.bare {w0 w : World} {c r : Nat} {Lc Lr : List Ver} {k : Nat} {bx : List (Nat × Obj)} (h : Both w0 w c r Lc Lr k bx) : Both w0 w c r Lc Lr k [] := by
  obtain ⟨v, v', hc, hr, a1, a2, a3⟩ := h.both
  exact ⟨h.g0, ⟨v, v', hc, hr, a1, a2, fun p hp => by cases hp⟩, h.cr, h.cb, h.rb, h.below, h.lenC, h.lenR, fun p hp => by cases hp⟩
/-- A chain and one of the reference that nobody turns: their blocks are boxes. -/
structure Cop (w1 : World) (vd vs : Value) (L0 : List Ver) (bx : List (Nat × Obj)) (d s : Nat) : Prop where
  ch : Ch w1 d vd L0
  rf : RAt w1 s vs L0
  pos : 0 < L0.length
  few : L0.length ≤ 1000
  tie : ∀ b, (b = d ∨ b = s ∨ vd.ownBlock = some b ∨ vs.ownBlock = some b) → ∃ p ∈ bx, p.1 = b ∧ w1.heap[b]? = some p.2
theorem Cop.at_now {w w1 wx : World} {vd vs : Value} {L0 Lc Lr : List Ver} {bx : List (Nat × Obj)} {d s c r k : Nat} (h : Cop w1 vd vs L0 bx d s) (hb : Both w wx c r Lc Lr k bx) : Ch wx d vd L0 ∧ RAt wx s vs L0 := by
  have key : ∀ b, (b = d ∨ b = s ∨ vd.ownBlock = some b ∨ vs.ownBlock = some b) → ∃ o, w1.heap[b]? = some o ∧ wx.heap[b]? = some o := fun b e => by
    obtain ⟨p, hp, e1, e2⟩ := h.tie b e
    exact ⟨p.2, e2, by rw [← e1]; exact (hb.box p hp).1⟩
  obtain ⟨od, d1, d2⟩ := key d (.inl rfl)
  obtain ⟨os, s1, s2⟩ := key s (.inr (.inl rfl))
  exact ⟨⟨⟨(d2.trans d1.symm).trans h.ch.head, RowIs.moved h.ch.row fun g e => key g (.inr (.inr (.inl e))), h.ch.off⟩, h.ch.ris, h.ch.few, h.ch.ok, hb.g0.below hb.below, h.ch.free⟩, ⟨(s2.trans s1.symm).trans h.rf.head, RowIs.moved h.rf.row fun g e => key g (.inr (.inr (.inr e))), h.rf.off⟩⟩
theorem Both.withNew {w w0 w4 : World} {c r k : Nat} {Lc Lr : List Ver} (h : Both w w0 c r Lc Lr k []) (hb : Below w0.heap.size w0 w4) (bx : List (Nat × Obj)) (hbx : ∀ p ∈ bx, w4.heap[p.1]? = some p.2 ∧ w0.heap.size ≤ p.1) : Both w w4 c r Lc Lr k bx := by
  have h2 := h.keep hb
  obtain ⟨v, v', hc, hr, a1, a2, _⟩ := h.both
  have hcl := heap_lt hc.head
  have hrl := heap_lt hr.head
  have hs := h.below.size
  exact ⟨h.g0, ⟨v, v', hc.below hb, hr.below hb, a1, a2, fun p hp => ⟨fun e => by have := RowIs.lt hc.row _ e; have := (hbx p hp).2; omega, fun e => by have := RowIs.lt hr.row _ e; have := (hbx p hp).2; omega⟩⟩, h.cr, h.cb, h.rb, h2.below, h.lenC, h.lenR, fun p hp => ⟨(hbx p hp).1, by have := (hbx p hp).2; omega, by have := (hbx p hp).2; omega, by have := (hbx p hp).2; omega⟩⟩
theorem cop_of {w w0 w4 : World} {c r k d s : Nat} {L : List Ver} {vd vs : Value} (h : Both w w0 c r L L k []) (hb : Below w0.heap.size w0 w4) (hd : Ch w4 d vd L) (hs : RAt w4 s vs L) (h0 : 0 < L.length) (hl : L.length ≤ 1000)
    (hd3 : w0.heap.size ≤ d) (hs3 : w0.heap.size ≤ s) (hvd : ∀ g, vd.ownBlock = some g → w0.heap.size ≤ g) (hvs : ∀ g, vs.ownBlock = some g → w0.heap.size ≤ g) : ∃ bx, Both w w4 c r L L k bx ∧ Cop w4 vd vs L bx d s := by
  obtain ⟨u0, hu0⟩ : ∃ u0, L[0]? = some u0 := ⟨_, List.getElem?_eq_getElem h0⟩
  obtain ⟨gd, _, _, _, _, hgd, _⟩ := hd.row.ver hu0
  obtain ⟨gs, _, _, _, _, hgs, _⟩ := hs.row.ver hu0
  have hgdl := RowIs.lt hd.row gd hgd
  have hgsl := RowIs.lt hs.row gs hgs
  obtain ⟨od, hod⟩ : ∃ o, w4.heap[gd]? = some o := ⟨_, Array.getElem?_eq_getElem hgdl⟩
  obtain ⟨os, hos⟩ : ∃ o, w4.heap[gs]? = some o := ⟨_, Array.getElem?_eq_getElem hgsl⟩
  refine ⟨[(d, .cells #[vd] 58 (0, 0)), (s, .cells #[vs] 62 (0, 0)), (gd, od), (gs, os)], h.withNew hb _ (fun p hp => ?_), ⟨hd, hs, h0, hl, fun b e => ?_⟩⟩
  · simp only [List.mem_cons, List.not_mem_nil, or_false] at hp
    rcases hp with rfl | rfl | rfl | rfl
    · exact ⟨hd.head, hd3⟩
    · exact ⟨hs.head, hs3⟩
    · exact ⟨hod, hvd _ hgd⟩
    · exact ⟨hos, hvs _ hgs⟩
  · rcases e with rfl | rfl | e | e
    · exact ⟨_, List.mem_cons_self .., rfl, hd.head⟩
    · exact ⟨_, List.mem_cons_of_mem _ (List.mem_cons_self ..), rfl, hs.head⟩
    · rw [hgd] at e
      obtain rfl := Option.some.inj e
      exact ⟨_, List.mem_cons_of_mem _ (List.mem_cons_of_mem _ (List.mem_cons_self ..)), rfl, hod⟩
    · rw [hgs] at e
      obtain rfl := Option.some.inj e
      exact ⟨_, List.mem_cons_of_mem _ (List.mem_cons_of_mem _ (List.mem_cons_of_mem _ (List.mem_cons_self ..))), rfl, hos⟩
/-- What a round keeps. -/
def PlR (w : World) (m c r : Nat) (kv dv sv iv : Value) (wx : World) : Prop := kv = .bool true ∧ ∃ (k : Nat) (L : List Ver), k ≤ m ∧ k ≤ 50 ∧ iv = .int .i64 k ∧ Fine L ∧
  ((dv = .pointer none ∧ Both w wx c r L L k []) ∨ ∃ (d s : Nat) (w1 : World) (vd vs : Value) (L0 : List Ver) (bx : List (Nat × Obj)), dv = .pointer (some ⟨d, 0, none⟩) ∧ sv = .pointer (some ⟨s, 0, none⟩) ∧ Both w wx c r L L k bx ∧ Cop w1 vd vs L0 bx d s)
set_option maxRecDepth 100000 in
set_option maxHeartbeats 40000000 in
theorem law_plays {w : World} (hG : Glob w) {ov : Value} {m : Nat} {n cut : Int} {th : Bool} (hn : InR64 n) (ho : OpsIs w ov m) :
    Calls Tryd.prog 3 #[.int .i64 n, .bool th, ov, .int .i64 cut] w fun e w' => e = .returned (.bool true) ∧ Below w.heap.size w w' := by
  have HN := Lib.hid (New_any (n := n) (th := th) hG hn)
  have HRN := Lib.hid (fun W => rnew_any (w := W) (n := n) (th := th))
  obtain ⟨A, cap, rfl, ho1, ho2, ho3⟩ := ho
  have HO3 := Lib.hid ho3
  have HG := Lib.hid hG
  unfold maxLen at ho2
  clear ho3 hG hn
  go_enter Tryd.func3, Tryd.ntmps3
  go_wp2_with fail
  refine (HN.out).mono ?_
  rintro e w1 ⟨c, v, rfl, hc, hb1, hc1, hv1⟩
  have HC := Lib.hid hc
  have HB1 := Lib.hid hb1
  have HC1 := Lib.hid hc1
  have HV1 := Lib.hid hv1
  clear hc hb1 hc1 hv1 HN
  go_wp2_with fail
  refine (HRN.out _).mono ?_
  rintro e w2 ⟨r, v', rfl, hr, hb2, hr1, hv2⟩
  have HS := Lib.hid (both_new HG.out HC.out HB1.out HC1.out HV1.out hr hb2 hr1 hv2 (Nat.le_refl 1))
  have HF0 := Lib.hid (fine_new (numT n th) th)
  have HSA := Lib.hid (same_any (HC.out.below hb2) hr HF0.out.ne (by show 1 ≤ 1000; omega))
  clear hr hb2 hr1 hv2 HRN HC HB1 HC1 HV1
  go_wp2_with fail
  refine (HSA.out).mono ?_
  rintro e w3 ⟨rfl, hb3⟩
  have HS3 := Lib.hid (HS.out.keep hb3)
  clear hb3 HSA HS
  go_upto_block 0 with fail
  go_cut [11, 12, 13, 14, 15] from 28 to 64 (fun u11 u12 u13 u14 u15 wx => u11 = .bool true ∧ ∃ k L, Both w wx c r L L k [])
  case first =>
    go_wp2_with fail
    go_loopw [11, 12, 13, 28] (fun kv dv sv iv wx => PlR w m c r kv dv sv iv wx) (fun _ _ _ iv _ => m - (intOf iv).toNat)
    case atStart => exact ⟨rfl, 0, _, Nat.zero_le _, Nat.zero_le _, rfl, HF0.out, .inl ⟨rfl, HS3.out⟩⟩
    case round =>
      obtain ⟨rfl, k, L, hkm, hk50, rfl, hF, hcase⟩ := hrel
      have hBA : Both w wr c r L L k [] := by
        rcases hcase with ⟨_, h5⟩ | ⟨_, _, _, _, _, _, _, _, _, h5, _⟩
        · exact h5
        · exact h5.bare
      clear HS3 HF0
      have HF := Lib.hid hF
      clear hF
      by_cases hkm2 : k < m
      · obtain ⟨a, kd, t, x, b, rfl, hab, k0, k1, k2, k3, ht, hx⟩ := HO3.out k hkm2
        have l1 : (k : Int) < (m : Int) := by omega
        have HB := Lib.hid hBA.below
        have HB0 := Lib.hid hBA
        replace k0 := (HB.out.cell (p := a.add (k * 4)) (by rw [add_block]; exact hab)).trans k0
        replace k1 : wr.cell? ⟨(a.add (k * 4)).block, (a.add (k * 4)).off + 1, none⟩ = some (.int .i64 t) := (HB.out.cell (p := (a.add (k * 4)).add 1) (by rw [add_block, add_block]; exact hab)).trans k1
        replace k2 : wr.cell? ⟨(a.add (k * 4)).block, (a.add (k * 4)).off + 2, none⟩ = some (.int .i64 x) := (HB.out.cell (p := (a.add (k * 4)).add 2) (by rw [add_block, add_block]; exact hab)).trans k2
        replace k3 : wr.cell? ⟨(a.add (k * 4)).block, (a.add (k * 4)).off + 3, none⟩ = some (.bool b) := (HB.out.cell (p := (a.add (k * 4)).add 3) (by rw [add_block, add_block]; exact hab)).trans k3
        by_cases hk2 : k < 50
        · have l2 : (k : Int) < 50 := by omega
          have l3 : ¬ (50 : Int) ≤ (k : Int) := by omega
          have HLT : Hid (k + 1 ≤ m ∧ k + 1 ≤ 50) := Lib.hid ⟨hkm2, hk2⟩
          have HFN := Lib.hid (HF.out.step kd t x b)
          have HCASE := Lib.hid hcase
          clear hcase hkm2 hkm hk2 hBA
          by_cases hcut : (k : Int) = cut
          · have HBA := HB0
            have q6 : ((k : Int) == cut) = true := by rw [beq_iff_eq]; exact hcut
            have HBN : Hid (Both w (wr.alloc (.cells #[.int .i64 kd, .int .i64 t, .int .i64 x, .bool b] 29)) c r L L k []) := Lib.hid (HBA.out.keep (below_new _))
            obtain ⟨v0, v0', hc0, hr0, _⟩ := HBN.out.both
            have hll := HBN.out.lenC
            have HCO := Lib.hid (Copy_any hc0 HF.out.ne)
            have HRO := Lib.hid (fun W (hW : Below (wr.alloc (.cells #[.int .i64 kd, .int .i64 t, .int .i64 x, .bool b] 29)).heap.size (wr.alloc (.cells #[.int .i64 kd, .int .i64 t, .int .i64 x, .bool b] 29)) W) => rcopy_any (hr0.below hW) HF.out.ne (by omega))
            have HOX := Lib.hid (alloc_at wr (.cells #[.int .i64 kd, .int .i64 t, .int .i64 x, .bool b] 29))
            have HLL : Hid (L.length ≤ 1000) := Lib.hid (by omega)
            clear hc0 hr0 hcut
            go_wp2_with fail
            refine (HCO.out).mono ?_
            rintro e w3 ⟨d, vd, rfl, hd, hb3, hd3, hvd⟩
            have HD := Lib.hid hd
            have HB3 := Lib.hid hb3
            have HD3 := Lib.hid hd3
            have HVD := Lib.hid hvd
            clear hd hb3 hd3 hvd HCO k0 k1 k2 k3
            go_wp2_with fail
            refine (HRO.out _ HB3.out).mono ?_
            rintro e w4 ⟨s, vs, rfl, hs4, hb4, hd4, hvs⟩
            have HB34 := Lib.hid (HB3.out.trans (hb4.mono HB3.out.size))
            obtain ⟨bx2, hbt2, hcp2⟩ := cop_of HBN.out HB34.out (HD.out.below hb4) hs4 HF.out.ne HLL.out HD3.out (Nat.le_trans HB3.out.size hd4) HVD.out (fun g e => Nat.le_trans HB3.out.size (hvs g e))
            have HBT := Lib.hid hbt2
            have HCP := Lib.hid hcp2
            have hox := (HB34.out.block _ (heap_lt HOX.out)).trans HOX.out
            have b0 := cell_of hox 0
            have b1 := cell_of hox 1
            have b2 := cell_of hox 2
            have b3 := cell_of hox 3
            simp at b0 b1 b2 b3
            clear hs4 hb4 hd4 hvs hbt2 hcp2 HRO HD HB3 HD3 HVD HB34 HBN HOX hox
            clear HCASE HB0 HBA HB HLL
            have HST := Lib.hid (step_any (kd := kd) (th := b) HBT.out HF.out (by omega) ht hx)
            go_wp2_with fail
            refine (HST.out).mono ?_
            rintro e w5 ⟨rfl, hs5⟩
            obtain ⟨v5, v5', hc5, hr5, _⟩ := hs5.both
            have HSA := Lib.hid (same_any hc5 hr5 HFN.out.ne (by have := hs5.lenC; omega))
            have HS5 := Lib.hid hs5
            clear hs5 hc5 hr5 HST
            go_wp2_with fail
            refine (HSA.out).mono ?_
            rintro e w6 ⟨rfl, hb6⟩
            have HS6 := Lib.hid (HS5.out.keep hb6)
            clear hb6 HSA
            have HCOP := Lib.hid (HCP.out.at_now HS6.out)
            have HSD := Lib.hid (same_any HCOP.out.1 HCOP.out.2 HCP.out.pos HCP.out.few)
            go_wp2_with fail
            refine (HSD.out).mono ?_
            rintro e w7 ⟨rfl, hb7⟩
            have HS7 := Lib.hid (HS6.out.keep hb7)
            clear hb7 HSD HCOP
            go_wp2_with fail
            go_roundw
            case rel => exact ⟨rfl, k + 1, _, HLT.out.1, HLT.out.2, by go_num, HFN.out, .inr ⟨_, _, _, _, _, _, _, rfl, rfl, HS7.out, HCP.out⟩⟩
            case measure => have := HLT.out; simp [intOf]; omega
          · have q6 : ((k : Int) == cut) = false := by rw [beq_eq_false_iff_ne]; exact hcut
            rcases HCASE.out with ⟨rfl, hbt⟩ | ⟨d, s, w1, vd, vs, L0, bx, rfl, rfl, hbt, hcp⟩
            · have HBT := Lib.hid (hbt.keep (below_new (w := wr) (.cells #[.int .i64 kd, .int .i64 t, .int .i64 x, .bool b] 29)))
              clear hbt hcut HCASE HB0
              have HST := Lib.hid (step_any (kd := kd) (th := b) HBT.out HF.out (by omega) ht hx)
              go_wp2_with fail
              refine (HST.out).mono ?_
              rintro e w5 ⟨rfl, hs5⟩
              obtain ⟨v5, v5', hc5, hr5, _⟩ := hs5.both
              have HSA := Lib.hid (same_any hc5 hr5 HFN.out.ne (by have := hs5.lenC; omega))
              have HS5 := Lib.hid hs5
              clear hs5 hc5 hr5 HST
              go_wp2_with fail
              refine (HSA.out).mono ?_
              rintro e w6 ⟨rfl, hb6⟩
              have HS6 := Lib.hid (HS5.out.keep hb6)
              clear hb6 HSA
              go_wp2_with fail
              go_roundw
              case rel => exact ⟨rfl, k + 1, _, HLT.out.1, HLT.out.2, by go_num, HFN.out, .inl ⟨rfl, HS6.out⟩⟩
              case measure => have := HLT.out; simp [intOf]; omega
            · have HBT := Lib.hid (hbt.keep (below_new (w := wr) (.cells #[.int .i64 kd, .int .i64 t, .int .i64 x, .bool b] 29)))
              have HCP := Lib.hid hcp
              clear hbt hcp hcut HCASE HB0
              have HST := Lib.hid (step_any (kd := kd) (th := b) HBT.out HF.out (by omega) ht hx)
              go_wp2_with fail
              refine (HST.out).mono ?_
              rintro e w5 ⟨rfl, hs5⟩
              obtain ⟨v5, v5', hc5, hr5, _⟩ := hs5.both
              have HSA := Lib.hid (same_any hc5 hr5 HFN.out.ne (by have := hs5.lenC; omega))
              have HS5 := Lib.hid hs5
              clear hs5 hc5 hr5 HST
              go_wp2_with fail
              refine (HSA.out).mono ?_
              rintro e w6 ⟨rfl, hb6⟩
              have HS6 := Lib.hid (HS5.out.keep hb6)
              clear hb6 HSA
              have HCOP := Lib.hid (HCP.out.at_now HS6.out)
              have HSD := Lib.hid (same_any HCOP.out.1 HCOP.out.2 HCP.out.pos HCP.out.few)
              go_wp2_with fail
              refine (HSD.out).mono ?_
              rintro e w7 ⟨rfl, hb7⟩
              have HS7 := Lib.hid (HS6.out.keep hb7)
              clear hb7 HSD HCOP
              go_wp2_with fail
              go_roundw
              case rel => exact ⟨rfl, k + 1, _, HLT.out.1, HLT.out.2, by go_num, HFN.out, .inr ⟨_, _, _, _, _, _, _, rfl, rfl, HS7.out, HCP.out⟩⟩
              case measure => have := HLT.out; simp [intOf]; omega
        · have l2 : ¬ (k : Int) < 50 := by omega
          have l3 : (50 : Int) ≤ (k : Int) := by omega
          have HBX := Lib.hid (HB0.out.keep (below_new (w := wr) (.cells #[.int .i64 kd, .int .i64 t, .int .i64 x, .bool b] 29)))
          clear hcase hkm2 hBA
          go_wp2_with fail
          go_meet
          exact ⟨rfl, k, _, HBX.out⟩
      · have l1 : ¬ (k : Int) < (m : Int) := by omega
        have HBX := Lib.hid hBA
        clear hcase hBA
        go_wp2_with fail
        go_meet
        exact ⟨rfl, k, _, HBX.out⟩
  case rest =>
    obtain ⟨rfl, k, L, hs⟩ := hcut
    have HB := Lib.hid hs.below
    have HA := Lib.hid (awake_any (HG.out.below HB.out))
    clear hs HS3 HF0 HO3
    go_wp2_with fail
    refine (HA.out).mono ?_
    rintro e w9 ⟨rfl, hb9⟩
    have HF9 := Lib.hid (HB.out.trans (hb9.mono HB.out.size))
    clear hb9 HA
    go_wp2_with fail
    go_ret
    exact ⟨rfl, HF9.out⟩
end Go.Proofs.YtmaokoekbjjgfaaDoor
