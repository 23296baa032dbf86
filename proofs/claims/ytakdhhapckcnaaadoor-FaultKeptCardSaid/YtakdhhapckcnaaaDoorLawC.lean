/- The law FaultKept, walked: it answers true at all links. -/
import Derived.Test.YtakdhhapckcnaaaDoorLawA
import Derived.Deep.RegionWith
import Derived.Deep.Cut
import Derived.Deep.CutRange
import Derived.Deep.DeepCutAuto
set_option linter.unusedSimpArgs false
set_option linter.unusedVariables false
namespace Go.Proofs.YtakdhhapckcnaaaDoor
open Go.RowKit

def aroundL : List L6 → List Lk → List Lk
  | [], c => c
  | x :: r, c => if x.kind = 0 then aroundL r c else onto (toLk x) (aroundL r c)
theorem onto_nil {k : Lk} {c : List Lk} : onto k c = [] ↔ c = [] := by cases c <;> simp [onto]
theorem aroundL_nil (l : List L6) (c : List Lk) : aroundL l c = [] ↔ c = [] := by
  induction l with
  | nil => exact Iff.rfl
  | cons x r ih =>
    rw [aroundL]
    split
    · exact ih
    · rw [onto_nil]; exact ih
theorem onto_num {k : Lk} {c : List Lk} (hk : k.isNum = false) : hit Lk.isNum (onto k c) = hit Lk.isNum c := by
  cases c with
  | nil => rfl
  | cons k' r => rw [onto, hit, hk]
theorem aroundL_num (l : List L6) (c : List Lk) : hit Lk.isNum (aroundL l c) = hit Lk.isNum c := by
  induction l with
  | nil => rfl
  | cons x r ih =>
    rw [aroundL]
    split
    · exact ih
    · rename_i h; rw [onto_num (by rw [isNum_toLk]; simpa using h)]; exact ih
theorem aroundL_code (l : List L6) (c : List Lk) : codeOf (aroundL l c) = codeOf c := by
  cases hc : c with
  | nil => rw [(aroundL_nil l []).2 rfl]
  | cons k r =>
    have hne : aroundL l (k :: r) ≠ [] := fun h => by simp [(aroundL_nil l _).1 h] at hc; exact absurd ((aroundL_nil l _).1 h) (by simp)
    cases ha : aroundL l (k :: r) with
    | nil => exact absurd ha hne
    | cons k' r' =>
      have := aroundL_num l (k :: r)
      rw [ha] at this
      simp only [codeOf, this]
theorem onto_len (k : Lk) (c : List Lk) : (onto k c).length ≤ c.length + 1 := by cases c <;> simp [onto]
theorem aroundL_len (l : List L6) (c : List Lk) : (aroundL l c).length ≤ l.length + c.length := by
  induction l with
  | nil => simp [aroundL]
  | cons x r ih =>
    rw [aroundL]
    split
    · simp; omega
    · have := onto_len (toLk x) (aroundL r c); simp; omega
theorem onto_ok {k : Lk} {c : List Lk} (hk : k.isNum = false) (h : NumOk c) : NumOk (onto k c) := by
  cases c with
  | nil => exact h
  | cons k' r =>
    intro e he
    rcases List.mem_cons.1 he with rfl | he
    · cases hk
    · exact h e he
theorem aroundL_ok (l : List L6) (c : List Lk) (h : NumOk c) : NumOk (aroundL l c) := by
  induction l with
  | nil => exact h
  | cons x r ih =>
    rw [aroundL]
    split
    · exact ih
    · rename_i hk; exact onto_ok (by rw [isNum_toLk]; simpa using hk) ih

set_option maxRecDepth 100000 in
set_option maxHeartbeats 8000000 in
theorem law_kept {w : World} {va vb : Value} {la0 lb0 : List L6} (hG : Glob w) (ha : SlIn w va la0) (hb : SlIn w vb lb0) : Calls Tryd.prog 4 #[va, vb] w fun e w' => e = .returned (.bool true) ∧ Below w.heap.size w w' := by
  have ha30 := cutL_le la0
  have hb30 := cutL_le lb0
  have HG := Lib.hid hG
  have HA := Lib.hid ha
  have HB := Lib.hid hb
  generalize hlsa : cutL la0 = la at ha30
  generalize hlsb : cutL lb0 = lb at hb30
  have HLA := Lib.hid hlsa
  have HLB := Lib.hid hlsb
  clear hG ha hb hlsa hlsb
  go_enter Tryd.func4, Tryd.ntmps4
  go_wp2_with fail
  refine (cut_in HA.out).mono ?_
  rintro e w1 ⟨v1, rfl, hs, hb1⟩
  rw [HLA.out] at hs
  have HSA := Lib.hid hs
  have HB1 := Lib.hid hb1
  clear hs hb1
  go_wp2_with fail
  refine (cut_in (HB.out.below HB1.out (Nat.le_refl _))).mono ?_
  rintro e w2 ⟨v2, rfl, hs, hb2⟩
  rw [HLB.out] at hs
  have HSB := Lib.hid hs
  have HB2 := Lib.hid (HB1.out.trans (hb2.mono HB1.out.size))
  have HSA2 := Lib.hid (HSA.out.below hb2 (Nat.le_refl _))
  clear hs hb2
  go_wp2_with fail
  refine (made_any HSA2.out).mono ?_
  rintro e w3 ⟨ea, rfl, he, hb3⟩
  have HEA := Lib.hid he
  have HB3 := Lib.hid (HB2.out.trans (hb3.mono HB2.out.size))
  have HSA3 := Lib.hid (HSA2.out.below hb3 (Nat.le_refl _))
  have HSB3 := Lib.hid (HSB.out.below hb3 (Nat.le_refl _))
  clear he hb3
  go_wp2_with fail
  refine (chain_any HSA3.out).mono ?_
  rintro e w4 ⟨vc, rfl, hc, hb4⟩
  have HC4 := Lib.hid hc
  have HEA4 := Lib.hid (HEA.out.below hb4)
  have HB4 := Lib.hid (HB3.out.trans (hb4.mono HB3.out.size))
  have HSB4 := Lib.hid (HSB3.out.below hb4 (Nat.le_refl _))
  obtain ⟨A, cap, rfl⟩ := hc.len
  clear hc hb4
  obtain ⟨a2, cap2, hv2⟩ := HSB4.out.len
  subst hv2
  have h6 : ∀ i x, lb[i]? = some x → ∃ a, a2 = some a ∧ a.block < w4.heap.size ∧ At6 w4 (a.add (i * 6)) x := by
    intro i x hx
    rcases HSB4.out with ⟨_, h⟩ | ⟨a, cap, hv, _, _, h3, h4⟩
    · rw [h] at hx; simp at hx
    · injection hv with hv; exact ⟨a, hv, h3, h4 i x hx⟩
  have hcap2 : lb.length ≤ cap2 := by
    rcases HSB4.out with ⟨hv, h⟩ | ⟨a, cap, hv, h1, _⟩
    · rw [h]; simp
    · injection hv with _ _ hv; omega
  have H6 := Lib.hid h6
  clear h6
  go_wp2_with fail
  go_loopw [7, 8] (fun f i wr => ∃ k : Nat, k ≤ lb.length ∧ i = .int .i64 ((k : Int) - 1) ∧ ErrIs wr (aroundL (lb.drop k) (chainOf la)) f ∧ Below w4.heap.size w4 wr) (fun _ i _ => (intOf i + 1).toNat)
  case atStart => exact ⟨lb.length, Nat.le_refl _, rfl, by rw [List.drop_length]; exact HEA4.out, Below.refl _ _⟩
  case round =>
    obtain ⟨k, hk, rfl, hE, hb⟩ := hrel
    cases k with
    | zero =>
      have HBw := Lib.hid (HB4.out.trans (hb.mono HB4.out.size))
      have HG3 := Lib.hid (HG.out.below HBw.out)
      rw [List.drop_zero] at hE
      have HE := Lib.hid hE
      have HEr := Lib.hid (HEA4.out.below hb)
      have HCr := Lib.hid (HC4.out.below hb (Nat.le_refl _))
      have HLt := Lib.hid (chain_lt ha30)
      have Hcode := Lib.hid (chain_code la)
      have HcodeA := Lib.hid ((aroundL_code lb (chainOf la)).trans (chain_code la))
      have Hplace := Lib.hid (chain_place la)
      have Hlen := Lib.hid (chain_length la)
      have Hok := Lib.hid (chain_ok la)
      have HokA := Lib.hid (aroundL_ok lb _ (chain_ok la))
      have HLtA : Hid ((aroundL lb (chainOf la)).length < 1000) := by
        have h1 := aroundL_len lb (chainOf la)
        have h2 := chain_length la
        have h3 := rchain_le la
        show (aroundL lb (chainOf la)).length < 1000
        omega
      clear hb hE
      obtain ⟨bn, HU, HV, HU2, HV2⟩ : ∃ bn : Bool, (∀ w : World, (binOp .eql 25 u7 .nilIface).run Tryd.prog w = .ok (.bool bn) w) ∧ (∀ w : World, (binOp .eql 25 ea .nilIface).run Tryd.prog w = .ok (.bool bn) w) ∧
          (∀ w : World, (eqGuard .eql 25 (.tmp 43) (.const .nilIface) u7 .nilIface).run Tryd.prog w = .ok () w) ∧ (∀ w : World, (eqGuard .eql 25 (.tmp 45) (.const .nilIface) ea .nilIface).run Tryd.prog w = .ok () w) := by
        rcases err_nil HEr.out with ⟨hch, rfl⟩ | ⟨hch, t, u, rfl⟩
        · obtain rfl : u7 = .nilIface := by
            rcases err_nil HE.out with ⟨_, h⟩ | ⟨h, _⟩
            · exact h
            · exact absurd ((aroundL_nil lb _).2 hch) h
          exact ⟨true, fun w => by go_simp, fun w => by go_simp, fun w => by go_simp, fun w => by go_simp⟩
        · obtain ⟨tf, uf, rfl⟩ : ∃ t u, u7 = .iface t u := by
            rcases err_nil HE.out with ⟨h, _⟩ | ⟨_, h⟩
            · exact absurd ((aroundL_nil lb _).1 h) hch
            · exact h
          exact ⟨false, fun w => by go_simp, fun w => by go_simp, fun w => by go_simp, fun w => by go_simp⟩
      go_upto_region 9 with fail
      go_cut [48] from 37 to 48 (fun s48 wx => s48 = .bool false ∧ Below wr.heap.size wr wx)
      case first =>
        clear H6 HSB HSB3 HSB4 HC4 HEA HEA4 HEr HLt Hcode Hplace Hlen Hok HBw HLA HLB HSA HSA2 HSA3 HB1 HB2 HB3 HB4 HA HB HG hcap2 ha30 hb30
        go_region_with (first | (go_at_call 18; refine (code_any HG3.out HE.out HokA.out HLtA.out ?_).mono ?_; exact (Below.refl _ _).drew; rintro e w6 ⟨rfl, hb6⟩; rw [HcodeA.out]) | (go_at_call 19; refine (rcode_any (c := rchain la) ?_).mono ?_; exact HCr.out.below ((Below.refl _ _).drew.trans hb6) (Nat.le_refl _); rintro e w' ⟨rfl, rfl⟩))
        all_goals (go_wp2_with fail; go_meet; exact ⟨rfl, (Below.refl wr.heap.size wr).drew.trans hb6⟩)
      case rest =>
        obtain ⟨rfl, hb6⟩ := hcut
        have HB6 := Lib.hid hb6
        have HC6 := Lib.hid (HCr.out.below HB6.out (Nat.le_refl _))
        have HE6 := Lib.hid (HEr.out.below HB6.out)
        clear hb6 HU HV HU2 HV2
        go_wp2_with fail
        refine (code_any (HG3.out.below HB6.out) HE6.out Hok.out HLt.out (Below.refl _ _)).mono ?_
        rintro e w7 ⟨rfl, hb7⟩
        rw [Hcode.out]
        have HB7 := Lib.hid hb7
        have HC7 := Lib.hid (HC6.out.below hb7 (Nat.le_refl _))
        clear hb7
        go_wp2_with fail
        refine (rcode_any HC7.out).mono ?_
        rintro e w' ⟨rfl, rfl⟩
        go_wp2_with fail
        refine (place_any (HG3.out.below HB6.out) HE6.out HLt.out HB7.out).mono ?_
        rintro e w8 ⟨rfl, hb8⟩
        rw [Hplace.out]
        have HB8 := Lib.hid (HB7.out.trans (hb8.mono HB7.out.size))
        have HC8 := Lib.hid (HC7.out.below hb8 (Nat.le_refl _))
        clear hb8
        go_wp2_with fail
        refine (rplace_any HC8.out).mono ?_
        rintro e w9 ⟨rfl, hb9⟩
        have HB9 := Lib.hid (HB8.out.trans (hb9.mono HB8.out.size))
        clear hb9
        go_wp2_with fail
        refine (depth_any HE6.out HB9.out HLt.out).mono ?_
        rintro e w10 ⟨rfl, hb10⟩
        rw [Hlen.out]
        have HB10 := Lib.hid (HB9.out.trans (hb10.mono HB9.out.size))
        clear hb10
        go_wp2_with fail
        refine (awake1 ((HG3.out.below HB6.out).below HB10.out)).mono ?_
        rintro e w11 ⟨rfl, hb11⟩
        have HB11 := Lib.hid (HB10.out.trans (hb11.mono HB10.out.size))
        clear hb11
        go_wp2
        go_ret
        exact ⟨rfl, HBw.out.trans ((HB6.out.trans (HB11.out.mono HB6.out.size)).mono HBw.out.size)⟩
    | succ k =>
      have hlt : k < lb.length := by omega
      have hx : lb[k]? = some lb[k] := List.getElem?_eq_getElem hlt
      generalize lb[k] = x at hx
      obtain ⟨a, ha2, hal, h6k⟩ := H6.out k x hx
      subst ha2
      have hpb : (a.add (k * 6)).block < w4.heap.size := by rw [add_block]; exact hal
      obtain ⟨c0, c1, c2, c3, c4, c5⟩ := h6k.below hb hpb
      have HX := Lib.hid hx
      have HB := Lib.hid hb
      have HE := Lib.hid hE
      rw [show (((k + 1 : Nat) : Int) - 1) = (k : Int) from by omega]
      clear hx hb hpb hE h6k
      by_cases h0 : x.kind = 0
      · have hb0 : (x.kind == 0) = true := beq_iff_eq.2 h0
        have hb0' : (x.kind != 0) = false := by rw [bne, hb0]; rfl
        have H0 := Lib.hid h0
        clear h0
        go_wp2
        go_roundw
        case rel => exact ⟨k, by omega, rfl, by rw [drop_at HX.out, aroundL, if_pos H0.out]; exact HE.out, HB.out⟩
        case measure => simp [intOf] <;> omega
      · have hb0 : (x.kind == 0) = false := beq_eq_false_iff_ne.2 h0
        have hb0' : (x.kind != 0) = true := by rw [bne, hb0]; rfl
        have H0 := Lib.hid h0
        clear h0
        have H := Lib.hid (wrapped_any x HE.out)
        go_wp2_with fail
        refine (H.out).mono ?_
        rintro e w5 ⟨v5, rfl, hv5, hb5⟩
        have HV := Lib.hid hv5
        have HB5 := Lib.hid hb5
        clear hv5 hb5
        go_wp2
        go_roundw
        case rel =>
          refine ⟨k, by omega, rfl, ?_, HB.out.trans (HB5.out.mono HB.out.size)⟩
          rw [drop_at HX.out, aroundL, if_neg H0.out]
          have := HV.out
          unfold wrapL at this
          rw [if_neg H0.out] at this
          exact this
        case measure => simp [intOf] <;> omega
end Go.Proofs.YtakdhhapckcnaaaDoor
