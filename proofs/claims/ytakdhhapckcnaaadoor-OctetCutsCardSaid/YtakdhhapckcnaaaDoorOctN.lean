/- The law OctetCuts: no beginning of a number's or a text's bytes is read as one. -/
import Derived.Test.YtakdhhapckcnaaaDoorOctM
import Derived.Deep.RegionHeld
import Derived.Deep.RegionWith
import Derived.Deep.Cut
import Derived.Deep.DeepCutAuto
import Derived.Deep.CutRange
set_option linter.unusedSimpArgs false
set_option linter.unusedVariables false
set_option linter.unnecessarySimpa false
namespace Go.Proofs.YtakdhhapckcnaaaDoor
open Go.RowKit

theorem Rd.other {w w' : World} {g g2 : Nat} {A A2 : Option Addr} {cap cap2 : Nat} {bs bs2 : List UInt8} {pos pos2 : Nat} {ev ev2 : Value} {c c2 : List Lk} (h : Rd w g A cap bs pos ev c) (h2 : Rd w g2 A2 cap2 bs2 pos2 ev2 c2) (hne : g ≠ g2) (ho : Only g2 w w') : Rd w' g A cap bs pos ev c := by
  refine ⟨(ho.block g (ErrIs.lt h.blk) hne).trans h.blk, ErrIs.only h2.blk ho.block _ _ h.err, h.le, h.max, h.pos_le, fun i b hi => ?_⟩
  obtain ⟨gb, e1, e2, e3, e4⟩ := h.byt i b hi
  have hgb : gb ≠ g2 := by
    intro e
    subst e
    have h0 : 0 < bs.length := Nat.lt_of_le_of_lt (Nat.zero_le _) (List.getElem?_eq_some_iff.1 hi).1
    obtain ⟨gb', f1, _, _, f4⟩ := h.byt 0 bs[0] (List.getElem?_eq_getElem h0)
    rw [e1] at f1
    injection f1 with f1
    injection f1 with f1
    subst f1
    have := cell_of_row w gb 0 _ _ _ h2.blk
    rw [f4] at this
    simp at this
  exact ⟨gb, e1, e2, Nat.lt_of_lt_of_le e3 ho.size, (World.cell?_of_block (a := ⟨gb, i, none⟩) (ho.block gb e3 hgb)).trans e4⟩
/-- A value that is a reader at the beginning of bytes, made behind a point. -/
def OfIs (base : Nat) (l : List UInt8) (w : World) (v : Value) : Prop := ∃ g A c, v = .pointer (some ⟨g, 0, none⟩) ∧ base ≤ g ∧ Rd w g A c l 0 .nilIface []
theorem Below.of_only {B g : Nat} {w w' : World} (h : Only g w w') (hB : B ≤ g) (hs : B ≤ w.heap.size) : Below B w w' :=
  ⟨h.os, h.tape, h.output, h.size, fun k hk => h.block k (Nat.lt_of_lt_of_le hk hs) (by omega)⟩

theorem tmod_cases (c : Int) (N : Nat) (hN : 0 < N) : ∃ m : Nat, m < N ∧ (c.tmod N = (m : Int) ∨ (0 < m ∧ c.tmod N = -(m : Int))) := by
  have h2 : (c.tmod N).natAbs < N := by
    rw [Int.natAbs_tmod]
    exact Nat.mod_lt _ (by simpa using hN)
  rcases Int.lt_or_le (c.tmod N) 0 with h | h
  · exact ⟨(c.tmod N).natAbs, h2, .inr ⟨by omega, by omega⟩⟩
  · exact ⟨(c.tmod N).natAbs, h2, .inl (by omega)⟩

set_option maxRecDepth 100000 in
set_option maxHeartbeats 2000000 in
theorem law_ocuts {w : World} {n : Nat} {s : ByteArray} {cut : Int} (hn : n ≤ 18446744073709551615) (hs : s.size ≤ 9223372036854775807) (hc0 : -9223372036854775808 ≤ cut) (hc1 : cut ≤ 9223372036854775807) (hG : Glob w) :
    Calls Tryd.prog 11 #[.int .u64 (n : Int), .string s, .int .i64 cut] w fun e w' => e = .returned (.bool true) ∧ Below w.heap.size w w' := by
  have HG := Lib.hid hG
  have HSH := Lib.hid (fun W => short_any s hs W)
  have HNT := Lib.hid (onat_any n hn)
  have hsl : (shortB s).size ≤ 300 := shortB_le s
  have HST := Lib.hid (ostr_any (shortB s) (by omega))
  clear hG
  generalize shortB s = s' at *
  have hn0 : (0 : Int) ≤ n := by omega
  have hn1 : (n : Int) ≤ 18446744073709551615 := by omega
  go_enter Tryd.func11, Tryd.ntmps11
  go_wp2_with fail
  refine (HSH.out _).mono ?_
  rintro e w' ⟨rfl, rfl⟩
  go_wp2_with fail
  refine (HNT.out _).mono ?_
  rintro e w1 ⟨v1, rfl, hO1, hB1⟩
  have HO1 := Lib.hid hO1
  have HB1 := Lib.hid hB1
  clear hO1 hB1
  go_wp2_with fail
  refine (HST.out _).mono ?_
  rintro e w2 ⟨v2, rfl, hO2, hB2⟩
  have HO2 := Lib.hid (hO2.mono HB1.out.size)
  have HO1' := Lib.hid (HO1.out.below hB2)
  have HB2 := Lib.hid (HB1.out.trans (hB2.mono HB1.out.size))
  clear hO2 hB2 HO1 HB1
  have HX1 : Hid ((natB n) ≠ [] ∧ (natB n).length ≤ 400 ∧ (∀ k, k < (natB n).length → strP 300 ((natB n).take k) = none) ∧ (∀ k, k < (natB n).length → natP ((natB n).take k) ≠ none → natB n ≠ natB n)) :=
    ⟨natB_ne n, by have := sizeB_le n hn; rw [natB_len]; omega, fun k hk => strP_none (natP_cut hn hk), fun k hk h => absurd (natP_cut hn hk) h⟩
  have HX2 : Hid ((strB s') ≠ [] ∧ (strB s').length ≤ 400 ∧ (∀ k, k < (strB s').length → strP 300 ((strB s').take k) = none) ∧ (∀ k, k < (strB s').length → natP ((strB s').take k) ≠ none → strB s' ≠ natB n)) :=
    ⟨strB_ne s', by have := strB_len hsl; omega, fun k hk => strP_cut hsl hk, fun k hk h e => by rw [e] at h hk; exact h (natP_cut hn hk)⟩
  obtain ⟨A1, c1, rfl⟩ := HO1'.out.len
  obtain ⟨A2, c2, rfl⟩ := HO2.out.len
  have hA : Below w2.heap.size w2 (w2.alloc (.cells #[.slice A1 (natB n).length c1, .slice A2 (strB s').length c2] 54)) := (Below.refl _ _).alloc (Nat.le_refl _) _
  have HK : Hid (∀ k : Nat, k < 2 → ∃ (A : Option Addr) (c : Nat) (l : List UInt8), (w2.alloc (.cells #[.slice A1 (natB n).length c1, .slice A2 (strB s').length c2] 54)).cell? ⟨w2.heap.size, k, none⟩ = some (.slice A l.length c) ∧ OwnBy w2 w.heap.size (.slice A l.length c) l ∧ l ≠ [] ∧ l.length ≤ 400 ∧ (∀ k, k < l.length → strP 300 (l.take k) = none) ∧ (∀ k, k < l.length → natP (l.take k) ≠ none → l ≠ natB n)) := by
    intro k hk
    match k, hk with
    | 0, _ => exact ⟨A1, c1, natB n, by rw [cell_of_row _ _ _ _ _ _ (heap_alloc_new w2 _)]; rfl, HO1'.out, HX1.out⟩
    | 1, _ => exact ⟨A2, c2, strB s', by rw [cell_of_row _ _ _ _ _ _ (heap_alloc_new w2 _)]; rfl, HO2.out, HX2.out⟩
  have HA := Lib.hid hA
  clear hA HX1 HX2
  go_wp2_with fail
  go_loopw [20] (fun i wr => ∃ k : Nat, k ≤ 2 ∧ i = .int .i64 k ∧ Below (w2.heap.size + 1) (w2.alloc (.cells #[.slice A1 (natB n).length c1, .slice A2 (strB s').length c2] 54)) wr) (fun i _ => 2 - (intOf i).toNat)
  case atStart => exact ⟨0, by omega, rfl, Below.refl _ _⟩
  case round =>
    obtain ⟨k, hk, rfl, hb⟩ := hrel
    by_cases hlt : k < 2
    · obtain ⟨A, c, l, hcell, hown, hne, hl4, hsp, hnp⟩ := HK.out k hlt
      have HBW : Hid (Below w.heap.size w wr) := HB2.out.trans ((HA.out.mono HB2.out.size).trans (hb.mono (by have := HB2.out.size; simp; omega)))
      have c0 := (hb.cell (p := ⟨w2.heap.size, k, none⟩) (by simp)).trans hcell
      have HB := Lib.hid hb
      have HOW := Lib.hid ((hown.below HA.out).below (hb.mono (by simp)))
      have HSP := Lib.hid hsp
      have HNP := Lib.hid hnp
      have HNE := Lib.hid hne
      clear hb hown hsp hnp hne hcell
      have hk2 : (k : Int) < 2 := by omega
      have hk0 : (0 : Int) ≤ (k : Int) := by omega
      have hlpos : 0 < l.length := List.length_pos_iff.2 HNE.out
      obtain ⟨m, hm, hcs⟩ := tmod_cases cut l.length hlpos
      obtain ⟨gl, rfl, hC⟩ : ∃ g, A = some ⟨g, 0, none⟩ ∧ OwnC wr w.heap.size g c l := by
        rcases HOW.out with ⟨_, h⟩ | ⟨g, c', h, hc⟩
        · exact absurd h HNE.out
        · injection h with h1 _ h2
          subst h2
          exact ⟨g, h1, hc⟩
      have hml : (m : Int) ≤ (c : Int) := by have := hC.le; omega
      have hm0 : (0 : Int) ≤ (m : Int) := by omega
      have hlz : ((l.length : Int) == 0) = false := beq_eq_false_iff_ne.2 (by omega)
      have hlen : (l.take m).length = m := by rw [List.length_take]; omega
      have HOF : Hid (∀ W, Below wr.heap.size wr W → Calls Tryd.prog 46 #[.slice (some ⟨gl, 0, none⟩) m c] W fun e w' => ∃ v, e = .returned v ∧ OfIs W.heap.size (l.take m) w' v ∧ Below W.heap.size W w' ∧ Below wr.heap.size wr w') := by
        intro W hW
        have := of_some (w := W) (gb := gl) (o := 0) (cap := c) (l := l.take m) (by omega) (fun i b hi => by
          rw [Nat.zero_add]
          rw [List.getElem?_take] at hi
          split at hi
          · exact (hW.cell (p := ⟨gl, i, none⟩) hC.lt).trans (hC.holds i b hi)
          · cases hi) (Nat.lt_of_lt_of_le hC.lt hW.size)
        rw [hlen] at this
        exact this.mono fun e w' ⟨g, A, c', h1, h2, h3, h4⟩ => ⟨_, h1, ⟨g, A, c', rfl, h2, h3⟩, h4, hW.trans (h4.mono hW.size)⟩
      have HSP' := Lib.hid (HSP.out m hm)
      have HNP' := Lib.hid (HNP.out m hm)
      clear hC hlen hlpos
      rcases hcs with hcs | ⟨hm1, hcs⟩
      · go_wp2_with fail
        go_cut [10, 11] (fun r s wx => ∃ wy, OfIs wr.heap.size (l.take m) wy r ∧ Below wr.heap.size wr wy ∧ OfIs wy.heap.size (l.take m) wx s ∧ Below wy.heap.size wy wx)
        case first =>
          go_region_held (fun w' => True) (trivial) (first | (go_at_call 46; refine (HOF.out _ (by first | assumption | exact (Below.refl _ _).drew)).mono ?_; rintro e wy ⟨v, rfl, hv, hb, hbw⟩))
          go_wp2_with fail
          go_meet
          exact ⟨_, by assumption, by assumption, by assumption, by assumption⟩
        case rest =>
          obtain ⟨wy, ⟨g1, B1, d1, rfl, hg1, hR1⟩, hby, ⟨g2, B2, d2, rfl, hg2, hR2⟩, hbc⟩ := hcut
          have hlt1 : g1 < wy.heap.size := ErrIs.lt hR1.blk
          have hne12 : g1 ≠ g2 := by omega
          have HR1 := Lib.hid (hR1.below hbc)
          have HR2 := Lib.hid hR2
          have HBc := Lib.hid (hby.trans (hbc.mono hby.size))
          have HNE12 := Lib.hid (And.intro hne12 (And.intro hg1 (Nat.le_trans hby.size hg2)))
          clear hg1 hR1 hby hg2 hR2 hbc hlt1 hne12
          by_cases hnp : natP (l.take m) = none
          · have HN := Lib.hid (rnat_bad HR1.out (by rw [List.drop_zero]; exact hnp))
            go_wp2_with fail
            refine (HN.out).mono ?_
            rintro e w3 ⟨rfl, ⟨t1, u1, hR1⟩, hO1⟩
            have HR1' := Lib.hid hR1
            have HR2' := Lib.hid (HR2.out.other HR1.out (Ne.symm HNE12.out.1) hO1)
            have HB3 := Lib.hid (HBc.out.trans (Below.of_only hO1 HNE12.out.2.1 HBc.out.size))
            clear hR1 hO1
            have HS := Lib.hid (rstr_bad (most := 300) HR2'.out (by rw [List.drop_zero]; exact HSP'.out) (by decide))
            go_wp2_with fail
            refine (HS.out).mono ?_
            rintro e w4 ⟨rfl, ⟨p2, e2, t2, u2, he2, he2', he20, hR2⟩, hO2⟩
            have HR2'' := Lib.hid hR2
            have HR1'' := Lib.hid (HR1'.out.other HR2'.out HNE12.out.1 hO2)
            have HB4 := Lib.hid (HB3.out.trans (Below.of_only hO2 HNE12.out.2.2 HB3.out.size))
            clear hR2 hO2
            have hOW4 := HOW.out.below HB4.out
            have hCV : ∀ W, Below w4.heap.size w4 W → (convert 54 9 (.slice (some ⟨gl, 0, none⟩) l.length c)).run Tryd.prog W = .ok (.string ⟨l.toArray⟩) W := fun W hW => own_string (hOW4.below hW) HNE.out
            have hG4 : Glob w4 := HG.out.below (HBW.out.trans (HB4.out.mono HBW.out.size))
            have HE2 : Hid (∀ W, Below w4.heap.size w4 W → Calls Tryd.prog 54 #[.pointer (some ⟨g2, 0, none⟩)] W fun e w' => e = .returned (.int .i64 e2) ∧ (convert 54 9 (.slice (some ⟨gl, 0, none⟩) l.length c)).run Tryd.prog w' = .ok (.string ⟨l.toArray⟩) w' ∧ Below w4.heap.size w4 w') := fun W hW =>
              (rerr_any (hG4.below hW) (HR2''.out.below hW) (Bad.numOk he20 he2') (by show 2 < 1000; omega)).mono fun e w' ⟨h1, h2⟩ => ⟨h1, hCV w' (hW.trans (h2.mono hW.size)), hW.trans (h2.mono hW.size)⟩
            have HFN : Hid (∀ W, Below w4.heap.size w4 W → Calls Tryd.prog 40 #[.int .u64 (n : Int)] W fun e w' => ∃ v, e = .returned v ∧ (convert 54 9 v).run Tryd.prog w' = .ok (.string ⟨(natB n).toArray⟩) w' ∧ (convert 54 9 (.slice (some ⟨gl, 0, none⟩) l.length c)).run Tryd.prog w' = .ok (.string ⟨l.toArray⟩) w' ∧ Below w4.heap.size w4 w') := fun W hW =>
              (fnat_any n hn W).mono fun e w' ⟨v, h1, h2, h3⟩ => ⟨v, h1, own_string h2 (natB_ne n), hCV w' (hW.trans (h3.mono hW.size)), hW.trans (h3.mono hW.size)⟩
            have c40 := hCV w4 (Below.refl _ _)
            have c41 := hCV w4.drew (Below.refl _ _).drew
            have he2b : (e2 == 0) = false := beq_eq_false_iff_ne.2 he2
            have HE1 : Hid (∀ W, Below w4.heap.size w4 W → Calls Tryd.prog 54 #[.pointer (some ⟨g1, 0, none⟩)] W fun e w' => e = .returned (.int .i64 6) ∧ (convert 54 9 (.slice (some ⟨gl, 0, none⟩) l.length c)).run Tryd.prog w' = .ok (.string ⟨l.toArray⟩) w' ∧ Below w4.heap.size w4 w') := fun W hW =>
              (rerr_any (hG4.below hW) (HR1''.out.below hW) (Bad.numOk (by decide) (by decide)) (by show 2 < 1000; omega)).mono fun e w' ⟨h1, h2⟩ => ⟨h1, hCV w' (hW.trans (h2.mono hW.size)), hW.trans (h2.mono hW.size)⟩
            by_cases hE : l = natB n
            · have hEb : (l == natB n) = true := beq_iff_eq.2 hE
              clear hE
              clear hCV hOW4 hG4
              go_wp2_with fail
              go_region_held (fun w' => (convert 54 9 (.slice (some ⟨gl, 0, none⟩) l.length c)).run Tryd.prog w' = .ok (.string ⟨l.toArray⟩) w') (first | exact c40 | exact c41 | assumption | trivial)
                (first | (go_at_call 40; refine (HFN.out _ (by first | assumption | exact (Below.refl _ _).drew)).mono ?_; rintro e w5 ⟨v5, rfl, hcv5, hcl5, hb5⟩) | ((with_reducible (show Calls _ _ _ _ _)); go_at_call_of 54 (Value.pointer (some ⟨g1, 0, none⟩)); refine (HE1.out _ (by assumption)).mono ?_; rintro e w6 ⟨rfl, hcl6, hb6⟩) | ((with_reducible (show Calls _ _ _ _ _)); go_at_call_of 54 (Value.pointer (some ⟨g2, 0, none⟩)); refine (HE2.out _ (by assumption)).mono ?_; rintro e w7 ⟨rfl, hcl7, hb7⟩))
              go_wp2_with fail
              go_roundw
              case rel => exact ⟨k + 1, by omega, by go_num, HB.out.trans (Below.mono (HB4.out.trans (hb7.mono HB4.out.size)) (by simpa using HB.out.size))⟩
              case measure => simp [intOf]; omega
            · have hEb : (l == natB n) = false := beq_eq_false_iff_ne.2 hE
              clear hE
              clear hCV hOW4 hG4
              go_wp2_with fail
              first | (go_region_held (fun w' => (convert 54 9 (.slice (some ⟨gl, 0, none⟩) l.length c)).run Tryd.prog w' = .ok (.string ⟨l.toArray⟩) w') (first | exact c40 | exact c41 | assumption | trivial)
                (first | ((with_reducible (show Calls _ _ _ _ _)); go_at_call 40; refine (HFN.out _ (by first | assumption | exact Below.refl _ _ | exact (Below.refl _ _).drew)).mono ?_; rintro e w5 ⟨v5, rfl, hcv5, hcl5, hb5⟩) | ((with_reducible (show Calls _ _ _ _ _)); go_at_call 54; refine (HE2.out _ (by assumption)).mono ?_; rintro e w7 ⟨rfl, hcl7, hb7⟩))) | fail
              go_wp2_with fail
              go_roundw
              case rel => exact ⟨k + 1, by omega, by go_num, HB.out.trans (Below.mono (HB4.out.trans (hb7.mono HB4.out.size)) (by simpa using HB.out.size))⟩
              case measure => simp [intOf]; omega
          · obtain ⟨⟨nv, sz⟩, hns⟩ : ∃ x, natP (l.take m) = some x := by
              cases h : natP (l.take m) with
              | none => exact absurd h hnp
              | some x => exact ⟨x, rfl⟩
            have hEne : l ≠ natB n := HNP'.out hnp
            have HN := Lib.hid (rnat_ok HR1.out (by rw [List.drop_zero]; exact hns))
            clear hnp
            go_wp2_with fail
            refine (HN.out).mono ?_
            rintro e w3 ⟨rfl, hR1, hO1⟩
            have HR2' := Lib.hid (HR2.out.other HR1.out (Ne.symm HNE12.out.1) hO1)
            have HB3 := Lib.hid (HBc.out.trans (Below.of_only hO1 HNE12.out.2.1 HBc.out.size))
            clear hR1 hO1 hns
            have HS := Lib.hid (rstr_bad (most := 300) HR2'.out (by rw [List.drop_zero]; exact HSP'.out) (by decide))
            go_wp2_with fail
            refine (HS.out).mono ?_
            rintro e w4 ⟨rfl, ⟨p2, e2, t2, u2, he2, he2', he20, hR2⟩, hO2⟩
            have HR2'' := Lib.hid hR2
            have HB4 := Lib.hid (HB3.out.trans (Below.of_only hO2 HNE12.out.2.2 HB3.out.size))
            clear hR2 hO2
            have hOW4 := HOW.out.below HB4.out
            have hCV : ∀ W, Below w4.heap.size w4 W → (convert 54 9 (.slice (some ⟨gl, 0, none⟩) l.length c)).run Tryd.prog W = .ok (.string ⟨l.toArray⟩) W := fun W hW => own_string (hOW4.below hW) HNE.out
            have hG4 : Glob w4 := HG.out.below (HBW.out.trans (HB4.out.mono HBW.out.size))
            have HE2 : Hid (∀ W, Below w4.heap.size w4 W → Calls Tryd.prog 54 #[.pointer (some ⟨g2, 0, none⟩)] W fun e w' => e = .returned (.int .i64 e2) ∧ (convert 54 9 (.slice (some ⟨gl, 0, none⟩) l.length c)).run Tryd.prog w' = .ok (.string ⟨l.toArray⟩) w' ∧ Below w4.heap.size w4 w') := fun W hW =>
              (rerr_any (hG4.below hW) (HR2''.out.below hW) (Bad.numOk he20 he2') (by show 2 < 1000; omega)).mono fun e w' ⟨h1, h2⟩ => ⟨h1, hCV w' (hW.trans (h2.mono hW.size)), hW.trans (h2.mono hW.size)⟩
            have HFN : Hid (∀ W, Below w4.heap.size w4 W → Calls Tryd.prog 40 #[.int .u64 (n : Int)] W fun e w' => ∃ v, e = .returned v ∧ (convert 54 9 v).run Tryd.prog w' = .ok (.string ⟨(natB n).toArray⟩) w' ∧ (convert 54 9 (.slice (some ⟨gl, 0, none⟩) l.length c)).run Tryd.prog w' = .ok (.string ⟨l.toArray⟩) w' ∧ Below w4.heap.size w4 w') := fun W hW =>
              (fnat_any n hn W).mono fun e w' ⟨v, h1, h2, h3⟩ => ⟨v, h1, own_string h2 (natB_ne n), hCV w' (hW.trans (h3.mono hW.size)), hW.trans (h3.mono hW.size)⟩
            have c40 := hCV w4 (Below.refl _ _)
            have c41 := hCV w4.drew (Below.refl _ _).drew
            have he2b : (e2 == 0) = false := beq_eq_false_iff_ne.2 he2
            have hEb : (l == natB n) = false := beq_eq_false_iff_ne.2 hEne
            clear hEne
            clear hCV hOW4 hG4
            go_wp2_with fail
            first | (go_region_held (fun w' => (convert 54 9 (.slice (some ⟨gl, 0, none⟩) l.length c)).run Tryd.prog w' = .ok (.string ⟨l.toArray⟩) w') (first | exact c40 | exact c41 | assumption | trivial)
              (first | ((with_reducible (show Calls _ _ _ _ _)); go_at_call 40; refine (HFN.out _ (by first | assumption | exact Below.refl _ _ | exact (Below.refl _ _).drew)).mono ?_; rintro e w5 ⟨v5, rfl, hcv5, hcl5, hb5⟩) | ((with_reducible (show Calls _ _ _ _ _)); go_at_call 54; refine (HE2.out _ (by assumption)).mono ?_; rintro e w7 ⟨rfl, hcl7, hb7⟩))) | fail
            go_wp2_with fail
            go_roundw
            case rel => exact ⟨k + 1, by omega, by go_num, HB.out.trans (Below.mono (HB4.out.trans (hb7.mono HB4.out.size)) (by simpa using HB.out.size))⟩
            case measure => simp [intOf]; omega
      · go_wp2_with fail
        go_cut [10, 11] (fun r s wx => ∃ wy, OfIs wr.heap.size (l.take m) wy r ∧ Below wr.heap.size wr wy ∧ OfIs wy.heap.size (l.take m) wx s ∧ Below wy.heap.size wy wx)
        case first =>
          go_region_held (fun w' => True) (trivial) (first | (go_at_call 46; refine (HOF.out _ (by first | assumption | exact (Below.refl _ _).drew)).mono ?_; rintro e wy ⟨v, rfl, hv, hb, hbw⟩))
          go_wp2_with fail
          go_meet
          exact ⟨_, by assumption, by assumption, by assumption, by assumption⟩
        case rest =>
          obtain ⟨wy, ⟨g1, B1, d1, rfl, hg1, hR1⟩, hby, ⟨g2, B2, d2, rfl, hg2, hR2⟩, hbc⟩ := hcut
          have hlt1 : g1 < wy.heap.size := ErrIs.lt hR1.blk
          have hne12 : g1 ≠ g2 := by omega
          have HR1 := Lib.hid (hR1.below hbc)
          have HR2 := Lib.hid hR2
          have HBc := Lib.hid (hby.trans (hbc.mono hby.size))
          have HNE12 := Lib.hid (And.intro hne12 (And.intro hg1 (Nat.le_trans hby.size hg2)))
          clear hg1 hR1 hby hg2 hR2 hbc hlt1 hne12
          by_cases hnp : natP (l.take m) = none
          · have HN := Lib.hid (rnat_bad HR1.out (by rw [List.drop_zero]; exact hnp))
            go_wp2_with fail
            refine (HN.out).mono ?_
            rintro e w3 ⟨rfl, ⟨t1, u1, hR1⟩, hO1⟩
            have HR1' := Lib.hid hR1
            have HR2' := Lib.hid (HR2.out.other HR1.out (Ne.symm HNE12.out.1) hO1)
            have HB3 := Lib.hid (HBc.out.trans (Below.of_only hO1 HNE12.out.2.1 HBc.out.size))
            clear hR1 hO1
            have HS := Lib.hid (rstr_bad (most := 300) HR2'.out (by rw [List.drop_zero]; exact HSP'.out) (by decide))
            go_wp2_with fail
            refine (HS.out).mono ?_
            rintro e w4 ⟨rfl, ⟨p2, e2, t2, u2, he2, he2', he20, hR2⟩, hO2⟩
            have HR2'' := Lib.hid hR2
            have HR1'' := Lib.hid (HR1'.out.other HR2'.out HNE12.out.1 hO2)
            have HB4 := Lib.hid (HB3.out.trans (Below.of_only hO2 HNE12.out.2.2 HB3.out.size))
            clear hR2 hO2
            have hOW4 := HOW.out.below HB4.out
            have hCV : ∀ W, Below w4.heap.size w4 W → (convert 54 9 (.slice (some ⟨gl, 0, none⟩) l.length c)).run Tryd.prog W = .ok (.string ⟨l.toArray⟩) W := fun W hW => own_string (hOW4.below hW) HNE.out
            have hG4 : Glob w4 := HG.out.below (HBW.out.trans (HB4.out.mono HBW.out.size))
            have HE2 : Hid (∀ W, Below w4.heap.size w4 W → Calls Tryd.prog 54 #[.pointer (some ⟨g2, 0, none⟩)] W fun e w' => e = .returned (.int .i64 e2) ∧ (convert 54 9 (.slice (some ⟨gl, 0, none⟩) l.length c)).run Tryd.prog w' = .ok (.string ⟨l.toArray⟩) w' ∧ Below w4.heap.size w4 w') := fun W hW =>
              (rerr_any (hG4.below hW) (HR2''.out.below hW) (Bad.numOk he20 he2') (by show 2 < 1000; omega)).mono fun e w' ⟨h1, h2⟩ => ⟨h1, hCV w' (hW.trans (h2.mono hW.size)), hW.trans (h2.mono hW.size)⟩
            have HFN : Hid (∀ W, Below w4.heap.size w4 W → Calls Tryd.prog 40 #[.int .u64 (n : Int)] W fun e w' => ∃ v, e = .returned v ∧ (convert 54 9 v).run Tryd.prog w' = .ok (.string ⟨(natB n).toArray⟩) w' ∧ (convert 54 9 (.slice (some ⟨gl, 0, none⟩) l.length c)).run Tryd.prog w' = .ok (.string ⟨l.toArray⟩) w' ∧ Below w4.heap.size w4 w') := fun W hW =>
              (fnat_any n hn W).mono fun e w' ⟨v, h1, h2, h3⟩ => ⟨v, h1, own_string h2 (natB_ne n), hCV w' (hW.trans (h3.mono hW.size)), hW.trans (h3.mono hW.size)⟩
            have c40 := hCV w4 (Below.refl _ _)
            have c41 := hCV w4.drew (Below.refl _ _).drew
            have he2b : (e2 == 0) = false := beq_eq_false_iff_ne.2 he2
            have HE1 : Hid (∀ W, Below w4.heap.size w4 W → Calls Tryd.prog 54 #[.pointer (some ⟨g1, 0, none⟩)] W fun e w' => e = .returned (.int .i64 6) ∧ (convert 54 9 (.slice (some ⟨gl, 0, none⟩) l.length c)).run Tryd.prog w' = .ok (.string ⟨l.toArray⟩) w' ∧ Below w4.heap.size w4 w') := fun W hW =>
              (rerr_any (hG4.below hW) (HR1''.out.below hW) (Bad.numOk (by decide) (by decide)) (by show 2 < 1000; omega)).mono fun e w' ⟨h1, h2⟩ => ⟨h1, hCV w' (hW.trans (h2.mono hW.size)), hW.trans (h2.mono hW.size)⟩
            by_cases hE : l = natB n
            · have hEb : (l == natB n) = true := beq_iff_eq.2 hE
              clear hE
              clear hCV hOW4 hG4
              go_wp2_with fail
              go_region_held (fun w' => (convert 54 9 (.slice (some ⟨gl, 0, none⟩) l.length c)).run Tryd.prog w' = .ok (.string ⟨l.toArray⟩) w') (first | exact c40 | exact c41 | assumption | trivial)
                (first | (go_at_call 40; refine (HFN.out _ (by first | assumption | exact (Below.refl _ _).drew)).mono ?_; rintro e w5 ⟨v5, rfl, hcv5, hcl5, hb5⟩) | ((with_reducible (show Calls _ _ _ _ _)); go_at_call_of 54 (Value.pointer (some ⟨g1, 0, none⟩)); refine (HE1.out _ (by assumption)).mono ?_; rintro e w6 ⟨rfl, hcl6, hb6⟩) | ((with_reducible (show Calls _ _ _ _ _)); go_at_call_of 54 (Value.pointer (some ⟨g2, 0, none⟩)); refine (HE2.out _ (by assumption)).mono ?_; rintro e w7 ⟨rfl, hcl7, hb7⟩))
              go_wp2_with fail
              go_roundw
              case rel => exact ⟨k + 1, by omega, by go_num, HB.out.trans (Below.mono (HB4.out.trans (hb7.mono HB4.out.size)) (by simpa using HB.out.size))⟩
              case measure => simp [intOf]; omega
            · have hEb : (l == natB n) = false := beq_eq_false_iff_ne.2 hE
              clear hE
              clear hCV hOW4 hG4
              go_wp2_with fail
              first | (go_region_held (fun w' => (convert 54 9 (.slice (some ⟨gl, 0, none⟩) l.length c)).run Tryd.prog w' = .ok (.string ⟨l.toArray⟩) w') (first | exact c40 | exact c41 | assumption | trivial)
                (first | ((with_reducible (show Calls _ _ _ _ _)); go_at_call 40; refine (HFN.out _ (by first | assumption | exact Below.refl _ _ | exact (Below.refl _ _).drew)).mono ?_; rintro e w5 ⟨v5, rfl, hcv5, hcl5, hb5⟩) | ((with_reducible (show Calls _ _ _ _ _)); go_at_call 54; refine (HE2.out _ (by assumption)).mono ?_; rintro e w7 ⟨rfl, hcl7, hb7⟩))) | fail
              go_wp2_with fail
              go_roundw
              case rel => exact ⟨k + 1, by omega, by go_num, HB.out.trans (Below.mono (HB4.out.trans (hb7.mono HB4.out.size)) (by simpa using HB.out.size))⟩
              case measure => simp [intOf]; omega
          · obtain ⟨⟨nv, sz⟩, hns⟩ : ∃ x, natP (l.take m) = some x := by
              cases h : natP (l.take m) with
              | none => exact absurd h hnp
              | some x => exact ⟨x, rfl⟩
            have hEne : l ≠ natB n := HNP'.out hnp
            have HN := Lib.hid (rnat_ok HR1.out (by rw [List.drop_zero]; exact hns))
            clear hnp
            go_wp2_with fail
            refine (HN.out).mono ?_
            rintro e w3 ⟨rfl, hR1, hO1⟩
            have HR2' := Lib.hid (HR2.out.other HR1.out (Ne.symm HNE12.out.1) hO1)
            have HB3 := Lib.hid (HBc.out.trans (Below.of_only hO1 HNE12.out.2.1 HBc.out.size))
            clear hR1 hO1 hns
            have HS := Lib.hid (rstr_bad (most := 300) HR2'.out (by rw [List.drop_zero]; exact HSP'.out) (by decide))
            go_wp2_with fail
            refine (HS.out).mono ?_
            rintro e w4 ⟨rfl, ⟨p2, e2, t2, u2, he2, he2', he20, hR2⟩, hO2⟩
            have HR2'' := Lib.hid hR2
            have HB4 := Lib.hid (HB3.out.trans (Below.of_only hO2 HNE12.out.2.2 HB3.out.size))
            clear hR2 hO2
            have hOW4 := HOW.out.below HB4.out
            have hCV : ∀ W, Below w4.heap.size w4 W → (convert 54 9 (.slice (some ⟨gl, 0, none⟩) l.length c)).run Tryd.prog W = .ok (.string ⟨l.toArray⟩) W := fun W hW => own_string (hOW4.below hW) HNE.out
            have hG4 : Glob w4 := HG.out.below (HBW.out.trans (HB4.out.mono HBW.out.size))
            have HE2 : Hid (∀ W, Below w4.heap.size w4 W → Calls Tryd.prog 54 #[.pointer (some ⟨g2, 0, none⟩)] W fun e w' => e = .returned (.int .i64 e2) ∧ (convert 54 9 (.slice (some ⟨gl, 0, none⟩) l.length c)).run Tryd.prog w' = .ok (.string ⟨l.toArray⟩) w' ∧ Below w4.heap.size w4 w') := fun W hW =>
              (rerr_any (hG4.below hW) (HR2''.out.below hW) (Bad.numOk he20 he2') (by show 2 < 1000; omega)).mono fun e w' ⟨h1, h2⟩ => ⟨h1, hCV w' (hW.trans (h2.mono hW.size)), hW.trans (h2.mono hW.size)⟩
            have HFN : Hid (∀ W, Below w4.heap.size w4 W → Calls Tryd.prog 40 #[.int .u64 (n : Int)] W fun e w' => ∃ v, e = .returned v ∧ (convert 54 9 v).run Tryd.prog w' = .ok (.string ⟨(natB n).toArray⟩) w' ∧ (convert 54 9 (.slice (some ⟨gl, 0, none⟩) l.length c)).run Tryd.prog w' = .ok (.string ⟨l.toArray⟩) w' ∧ Below w4.heap.size w4 w') := fun W hW =>
              (fnat_any n hn W).mono fun e w' ⟨v, h1, h2, h3⟩ => ⟨v, h1, own_string h2 (natB_ne n), hCV w' (hW.trans (h3.mono hW.size)), hW.trans (h3.mono hW.size)⟩
            have c40 := hCV w4 (Below.refl _ _)
            have c41 := hCV w4.drew (Below.refl _ _).drew
            have he2b : (e2 == 0) = false := beq_eq_false_iff_ne.2 he2
            have hEb : (l == natB n) = false := beq_eq_false_iff_ne.2 hEne
            clear hEne
            clear hCV hOW4 hG4
            go_wp2_with fail
            first | (go_region_held (fun w' => (convert 54 9 (.slice (some ⟨gl, 0, none⟩) l.length c)).run Tryd.prog w' = .ok (.string ⟨l.toArray⟩) w') (first | exact c40 | exact c41 | assumption | trivial)
              (first | ((with_reducible (show Calls _ _ _ _ _)); go_at_call 40; refine (HFN.out _ (by first | assumption | exact Below.refl _ _ | exact (Below.refl _ _).drew)).mono ?_; rintro e w5 ⟨v5, rfl, hcv5, hcl5, hb5⟩) | ((with_reducible (show Calls _ _ _ _ _)); go_at_call 54; refine (HE2.out _ (by assumption)).mono ?_; rintro e w7 ⟨rfl, hcl7, hb7⟩))) | fail
            go_wp2_with fail
            go_roundw
            case rel => exact ⟨k + 1, by omega, by go_num, HB.out.trans (Below.mono (HB4.out.trans (hb7.mono HB4.out.size)) (by simpa using HB.out.size))⟩
            case measure => simp [intOf]; omega
    · obtain rfl : k = 2 := by omega
      have HB := Lib.hid hb
      have hBW : Below w.heap.size w wr := HB2.out.trans ((HA.out.mono HB2.out.size).trans (hb.mono (by have := HB2.out.size; simp; omega)))
      have HAW := Lib.hid (awake2 (HG.out.below hBW))
      have HBW := Lib.hid hBW
      clear hb hBW
      go_wp2_with fail
      refine (HAW.out).mono ?_
      rintro e w5 ⟨rfl, hb5⟩
      have HB5 := Lib.hid (HBW.out.trans (hb5.mono HBW.out.size))
      clear hb5
      go_wp2
      go_ret
      exact ⟨rfl, HB5.out⟩
end Go.Proofs.YtakdhhapckcnaaaDoor
