/- ChainPrunes: the law's walk. -/
import Derived.Test.YtmaokoekbjjgfaaDoorZChdH
import Derived.Test.YtmaokoekbjjgfaaDoorZChdG
import Derived.Test.YtmaokoekbjjgfaaDoorZChaS
set_option linter.unusedSimpArgs false
set_option linter.unusedVariables false
set_option linter.unnecessarySimpa false
namespace Go.Proofs.YtmaokoekbjjgfaaDoor
open Go.RowKit Go.Shelf

theorem both_new {w w1 w2 : World} {c r : Nat} {v v' : Value} {L : List Ver} (hG : Glob w) (hc : Ch w1 c v L) (hb1 : Below w.heap.size w w1) (hc1 : w.heap.size ≤ c) (hv1 : ∀ b, v.ownBlock = some b → w.heap.size ≤ b)
    (hr : RAt w2 r v' L) (hb2 : Below w1.heap.size w1 w2) (hr1 : w1.heap.size ≤ r) (hv2 : ∀ b, v'.ownBlock = some b → w1.heap.size ≤ b) (hl : L.length ≤ 1) : Both w w2 c r L L 0 [] := by
  have hs := hb1.size
  have hcl := heap_lt hc.head
  exact ⟨hG, ⟨v, v', hc.below hb2, hr, fun b e => ⟨hv1 b e, by have := RowIs.lt hc.row b e; omega, fun e2 => by have := hv2 b e2; have := RowIs.lt hc.row b e; omega⟩, fun b e => ⟨by have := hv2 b e; omega, by have := hv2 b e; omega⟩, fun p hp => by cases hp⟩, by omega, hc1, by omega, hb1.trans (hb2.mono hs), hl, hl, fun p hp => by cases hp⟩
set_option maxRecDepth 100000 in
set_option maxHeartbeats 16000000 in
theorem law_prunes {w : World} (hG : Glob w) {ov : Value} {m : Nat} {n lo at_ : Int} {th : Bool} (hn : InR64 n) (hlo : InR64 lo) (hat : InR64 at_) (ho : OpsIs w ov m) :
    Calls Tryd.prog 5 #[.int .i64 n, .bool th, ov, .int .i64 lo, .int .i64 at_] w fun e w' => e = .returned (.bool true) ∧ Below w.heap.size w w' := by
  have HN := Lib.hid (New_any (n := n) (th := th) hG hn)
  have HRN := Lib.hid (fun W => rnew_any (w := W) (n := n) (th := th))
  obtain ⟨A, cap, rfl, ho1, ho2, ho3⟩ := ho
  have HO3 := Lib.hid ho3
  have HG := Lib.hid hG
  unfold maxLen at ho2
  clear ho3 hG hn
  go_enter Tryd.func5, Tryd.ntmps5
  go_wp2_with fail
  refine (HN.out).mono ?_
  rintro e w1 ⟨c, v, rfl, hc, hb1, hc1, hv1⟩
  have HC := Lib.hid hc
  have HB1 := Lib.hid hb1
  have HC1 := Lib.hid hc1
  have HV1 := Lib.hid hv1
  clear hc hb1 hc1 hv1 HN
  go_wp2_with fail
  refine (HRN.out _).mono ?_
  rintro e w2 ⟨r, v', rfl, hr, hb2, hr1, hv2⟩
  have HS := Lib.hid (both_new HG.out HC.out HB1.out HC1.out HV1.out hr hb2 hr1 hv2 (Nat.le_refl 1))
  have HF0 := Lib.hid (fine_new (numT n th) th)
  clear hr hb2 hr1 hv2 HRN HC HB1 HC1 HV1
  go_upto_block 0 with fail
  go_cut [10, 13, 14] from 31 to 48 (fun u10 u13 u14 wx => ∃ k L, k ≤ 40 ∧ Both w wx c r L L k [] ∧ Fine L)
  case first =>
    go_wp2_with fail
    go_loopw [31] (fun iv wx => ∃ (k : Nat) (L : List Ver), k ≤ m ∧ k ≤ 40 ∧ iv = .int .i64 k ∧ Both w wx c r L L k [] ∧ Fine L) (fun iv _ => m - (intOf iv).toNat)
    case atStart => exact ⟨0, _, Nat.zero_le _, Nat.zero_le _, rfl, HS.out, HF0.out⟩
    case round =>
      obtain ⟨k, L, hkm, hk40, rfl, hs, hF⟩ := hrel
      have HS1 := Lib.hid hs
      have HF := Lib.hid hF
      clear HS HF0
      by_cases hkm2 : k < m
      · obtain ⟨a, kd, t, x, b, rfl, hab, k0, k1, k2, k3, ht, hx⟩ := HO3.out k hkm2
        have l1 : (k : Int) < (m : Int) := by omega
        have HB := Lib.hid hs.below
        replace k0 := (HB.out.cell (p := a.add (k * 4)) (by rw [add_block]; exact hab)).trans k0
        replace k1 : wr.cell? ⟨(a.add (k * 4)).block, (a.add (k * 4)).off + 1, none⟩ = some (.int .i64 t) := (HB.out.cell (p := (a.add (k * 4)).add 1) (by rw [add_block, add_block]; exact hab)).trans k1
        replace k2 : wr.cell? ⟨(a.add (k * 4)).block, (a.add (k * 4)).off + 2, none⟩ = some (.int .i64 x) := (HB.out.cell (p := (a.add (k * 4)).add 2) (by rw [add_block, add_block]; exact hab)).trans k2
        replace k3 : wr.cell? ⟨(a.add (k * 4)).block, (a.add (k * 4)).off + 3, none⟩ = some (.bool b) := (HB.out.cell (p := (a.add (k * 4)).add 3) (by rw [add_block, add_block]; exact hab)).trans k3
        have HBX := Lib.hid (hs.boxed (.cells #[.int .i64 kd, .int .i64 t, .int .i64 x, .bool b] 29))
        by_cases hk2 : k < 40
        · have l2 : (k : Int) < 40 := by omega
          have HLT : Hid (k + 1 ≤ m ∧ k + 1 ≤ 40) := Lib.hid ⟨hkm2, hk2⟩
          have HST := Lib.hid (step_any (kd := kd) (th := b) HBX.out HF.out (by omega) ht hx)
          have HFN := Lib.hid (HF.out.step kd t x b)
          clear hs hF hkm2 hk2 hkm hk40
          by_cases h6 : kd = 6
          · have q6 : (kd == 6) = true := by rw [h6]; rfl
            subst h6
            go_wp2_with fail
            go_roundw
            case rel => exact ⟨k + 1, L, HLT.out.1, HLT.out.2, by go_num, HBX.out.drop.upto (Nat.le_succ k), HF.out⟩
            case measure => have := HLT.out; simp [intOf]; omega
          · have q6 : (kd == 6) = false := by rw [beq_eq_false_iff_ne]; exact h6
            have hne : ¬ kd = 6 := h6
            clear h6
            go_wp2_with fail
            refine (HST.out).mono ?_
            rintro e w3 ⟨rfl, hs3⟩
            have HS3 := Lib.hid hs3.drop
            clear hs3 HST k0 k1 k2 k3
            go_wp2_with fail
            go_roundw
            case rel => exact ⟨k + 1, _, HLT.out.1, HLT.out.2, by go_num, HS3.out, HFN.out⟩
            case measure => have := HLT.out; simp [intOf]; omega
        · have l2 : ¬ (k : Int) < 40 := by omega
          have l3 : (40 : Int) ≤ (k : Int) := by omega
          clear hs hF hkm2
          go_wp2_with fail
          go_meet
          exact ⟨k, L, hk40, HBX.out.drop, HF.out⟩
      · have l1 : ¬ (k : Int) < (m : Int) := by omega
        clear hs hF
        go_wp2_with fail
        go_meet
        exact ⟨k, L, hk40, HS1.out, HF.out⟩
  case rest =>
    obtain ⟨k, L, hk40, hs, hF⟩ := hcut
    clear HS HF0 HO3
    have HB := Lib.hid hs.below
    obtain ⟨v, v', hc, _, hva, _, _⟩ := hs.both
    have hcb := hs.cb
    have hL := hs.lenC
    have HF := Lib.hid hF
    have hLp := hF.ne
    have HCO := Lib.hid (Copy_any hc hLp)
    have HC := Lib.hid hc
    have HVA := Lib.hid (fun b e => (hva b e).1)
    have HCB := Lib.hid hcb
    have hLi : (L.length : Int) ≤ 41 := by omega
    clear hs hF hc hva hcb
    go_wp2_with fail
    refine (HCO.out).mono ?_
    rintro e w3 ⟨d, u, rfl, hd, hb3, hd3, hu3⟩
    have HC3 := Lib.hid (HC.out.below hb3)
    have HB3 := Lib.hid (HB.out.trans (hb3.mono HB.out.size))
    have hcl := heap_lt HC.out.head
    have HPR := Lib.hid (Prune_any (t := lo) hd hLp)
    have HD3 : Hid (d ≠ c ∧ w.heap.size ≤ d ∧ (∀ g, v.ownBlock = some g → g ≠ d) ∧ ∀ b, u.ownBlock = some b → w.heap.size ≤ b ∧ b ≠ c ∧ v.ownBlock ≠ some b) := Lib.hid ⟨by omega, by have := HB.out.size; omega, fun g e => by have := RowIs.lt HC.out.row g e; omega, fun b e => ⟨by have := hu3 b e; have := HB.out.size; omega, by have := hu3 b e; omega, fun e2 => by have := RowIs.lt HC.out.row b e2; have := hu3 b e; omega⟩⟩
    clear hd hb3 hd3 hu3 HCO HC hcl
    go_wp2_with fail
    refine (HPR.out).mono ?_
    rintro e w4 ⟨u4, rfl, hd4, ht4, ho4⟩
    have hgl := HG.out.lt
    have HC4 := Lib.hid (HC3.out.touch ht4 (fun e => by
      rcases e with e | e
      · exact HD3.out.1 e.symm
      · exact (HD3.out.2.2.2 c e).2.1 rfl) (fun g hg e => by
      rcases e with e | e
      · exact HD3.out.2.2.1 g hg e
      · exact (HD3.out.2.2.2 g e).2.2 hg) (fun e => by
      rcases e with e | e
      · have := HD3.out.2.1; omega
      · have := (HD3.out.2.2.2 _ e).1; omega))
    have HB4 := Lib.hid (HB3.out.trans (ht4.below (fun i e => by
      rcases e with e | e
      · rw [e]; exact HD3.out.2.1
      · exact (HD3.out.2.2.2 i e).1) HB3.out.size))
    have HD4 := Lib.hid hd4
    have HVD := Lib.hid (Versions_any hd4 (HF.out.prune lo).ne)
    have hpl : (pruneP L lo).length ≤ L.length := keepV_len _ _
    have hu4 : ∀ b, u4.ownBlock = some b → w.heap.size ≤ b := fun b e => (HD3.out.2.2.2 b (ho4 ▸ e)).1
    have HU4 := Lib.hid hu4
    have HV4 : Hid (∀ b, v.ownBlock = some b → u4.ownBlock ≠ some b) := Lib.hid (fun b e e2 => (HD3.out.2.2.2 b (ho4 ▸ e2)).2.2 e)
    have HU4c : Hid (u4.ownBlock ≠ some c) := Lib.hid (fun e => (HD3.out.2.2.2 c (ho4 ▸ e)).2.1 rfl)
    obtain ⟨np, hnp⟩ : ∃ np, np = (pruneP L lo).length := ⟨_, rfl⟩
    rw [← hnp] at HVD hpl
    rw [← hnp]
    have hk1 : ¬ (L.length : Int) - (np : Int) < 0 := by omega
    clear hd4 ht4 ho4 hu4 HPR HC3 HB3 hnp
    go_wp2_with fail
    refine (HVD.out).mono ?_
    rintro e w5 ⟨rfl, hw5⟩
    have hb5 : Below w4.heap.size w4 w5 := hw5 ▸ below_new _
    have HC5 := Lib.hid (HC4.out.below hb5)
    have HD5 := Lib.hid (HD4.out.below hb5)
    have HB5 := Lib.hid (HB4.out.trans (hb5.mono HB4.out.size))
    have HVC := Lib.hid (Versions_any HC5.out hLp)
    clear hw5 hb5 HVD HC4 HD4 HB4
    go_wp2_with fail
    refine (HVC.out).mono ?_
    rintro e w6 ⟨rfl, hw6⟩
    have hb6 : Below w5.heap.size w5 w6 := hw6 ▸ below_new _
    have HC6 := Lib.hid (HC5.out.below hb6)
    have HD6 := Lib.hid (HD5.out.below hb6)
    have HB6 := Lib.hid (HB5.out.trans (hb6.mono HB5.out.size))
    have hq : ((np : Int) == ((L.length : Int) - ((L.length : Int) - (np : Int)))) = true := by rw [beq_iff_eq]; omega
    have hq2 : ((L.length : Int) - ((L.length : Int) - (np : Int))) = (np : Int) := by omega
    clear hw6 hb6 HVC HC5 HD5 HB5
    by_cases hal : at_ < lo
    · have HA := Lib.hid (awake_any (HG.out.below HB6.out))
      go_wp2_with fail
      refine (HA.out).mono ?_
      rintro e w7 ⟨rfl, hb7⟩
      have HF7 := Lib.hid (HB6.out.trans (hb7.mono HB6.out.size))
      clear hb7 HA
      go_wp2_with fail
      go_ret
      exact ⟨rfl, HF7.out⟩
    · have hrd := Read_any HC6.out hat
      obtain ⟨P, hP⟩ : ∃ P, P = (readP L at_).2 := ⟨_, rfl⟩
      have HP := Lib.hid hP
      rw [← hP] at hrd
      have HRC := Lib.hid hrd
      clear hrd hP
      go_wp2_with fail
      refine (HRC.out).mono ?_
      rintro e w7 ⟨rfl, hc7, ht7⟩
      have hd7 := HD6.out.touch ht7 (fun e => HD3.out.2.2.1 d e rfl) (fun g hg e => HV4.out g e hg) (fun e => by have := HVA.out _ e; have := HG.out.lt; omega)
      have hrd := Read_any hd7 hat
      rw [prune_read HF.out (by omega), ← HP.out] at hrd
      have HRD := Lib.hid hrd
      have HB7 := Lib.hid (HB6.out.trans (ht7.below (fun i e => HVA.out i e) HB6.out.size))
      clear hrd hc7 ht7 hd7 HRC HP
      obtain ⟨P1, P2, P3⟩ := P
      go_wp2_with fail
      refine (HRD.out).mono ?_
      rintro e w8 ⟨rfl, _, ht8⟩
      have HB8 := Lib.hid (HB7.out.trans (ht8.below (fun i e => HU4.out i e) HB7.out.size))
      have HA := Lib.hid (awake_any (HG.out.below HB8.out))
      clear ht8 HRD
      go_wp2_with fail
      refine (HA.out).mono ?_
      rintro e w9 ⟨rfl, hb9⟩
      have HF9 := Lib.hid (HB8.out.trans (hb9.mono HB8.out.size))
      clear hb9 HA
      go_wp2_with fail
      go_ret
      exact ⟨rfl, HF9.out⟩
end Go.Proofs.YtmaokoekbjjgfaaDoor
