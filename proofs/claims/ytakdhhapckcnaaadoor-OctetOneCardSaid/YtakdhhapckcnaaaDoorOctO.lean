/- The law OctetOne: bytes that are read as a number, a text or a list are just the bytes of that. -/
import Derived.Test.YtakdhhapckcnaaaDoorOctP
set_option linter.unusedSimpArgs false
set_option linter.unusedVariables false
set_option linter.unnecessarySimpa false
namespace Go.Proofs.YtakdhhapckcnaaaDoor
open Go.RowKit

/-- What stands behind the first two questions, and is kept by them. -/
def KeepA (w : World) (A : Option Addr) (cap : Nat) (l : List UInt8) (g3 g4 : Nat) (e3 e4 : List UInt8) (vv : Value) (ss : List ByteArray) (W : World) : Prop :=
  Below w.heap.size w W ∧ St W g3 l e3 ∧ St W g4 l e4 ∧ TxtIs W vv ss ∧ (convert 54 9 (.slice A l.length cap)).run Tryd.prog W = .ok (.string ⟨l.toArray⟩) W
theorem KeepA.only {w : World} {A : Option Addr} {cap : Nat} {l : List UInt8} {g3 g4 : Nat} {e3 e4 : List UInt8} {vv : Value} {ss : List ByteArray} {W W' : World} {g : Nat} (hb : BIs w (.slice A l.length cap) l) (h : KeepA w A cap l g3 g4 e3 e4 vv ss W) (hh : Has W g) (h3 : g3 ≠ g) (h4 : g4 ≠ g) (hg : w.heap.size ≤ g) (ho : Only g W W') : KeepA w A cap l g3 g4 e3 e4 vv ss W' := by
  obtain ⟨k1, k2, k3, k4, k5⟩ := h
  have hB := k1.trans (Below.of_onlyq ho hg k1.size)
  exact ⟨hB, k2.other hh h3 ho, k3.other hh h4 ho, k4.other hh ho, bis_string (hb.below hB)⟩
theorem KeepA.below {w : World} {A : Option Addr} {cap : Nat} {l : List UInt8} {g3 g4 : Nat} {e3 e4 : List UInt8} {vv : Value} {ss : List ByteArray} {W W' : World} (hb : BIs w (.slice A l.length cap) l) (h : KeepA w A cap l g3 g4 e3 e4 vv ss W) (ho : Below W.heap.size W W') : KeepA w A cap l g3 g4 e3 e4 vv ss W' := by
  obtain ⟨k1, k2, k3, k4, k5⟩ := h
  have hB := k1.trans (ho.mono k1.size)
  exact ⟨hB, k2.below ho, k3.below ho, k4.below ho (Nat.le_refl _), bis_string (hb.below hB)⟩
/-- What stands behind the last two questions. -/
def KeepB (w : World) (A : Option Addr) (cap : Nat) (l : List UInt8) (vv : Value) (ss : List ByteArray) (W : World) : Prop :=
  Below w.heap.size w W ∧ TxtIs W vv ss ∧ (convert 54 9 (.slice A l.length cap)).run Tryd.prog W = .ok (.string ⟨l.toArray⟩) W
theorem KeepB.only {w : World} {A : Option Addr} {cap : Nat} {l : List UInt8} {vv : Value} {ss : List ByteArray} {W W' : World} {g : Nat} (hb : BIs w (.slice A l.length cap) l) (h : KeepB w A cap l vv ss W) (hh : Has W g) (hg : w.heap.size ≤ g) (ho : Only g W W') : KeepB w A cap l vv ss W' := by
  obtain ⟨k1, k4, k5⟩ := h
  have hB := k1.trans (Below.of_onlyq ho hg k1.size)
  exact ⟨hB, k4.other hh ho, bis_string (hb.below hB)⟩
theorem KeepB.below {w : World} {A : Option Addr} {cap : Nat} {l : List UInt8} {vv : Value} {ss : List ByteArray} {W W' : World} (hb : BIs w (.slice A l.length cap) l) (h : KeepB w A cap l vv ss W) (ho : Below W.heap.size W W') : KeepB w A cap l vv ss W' := by
  obtain ⟨k1, k4, k5⟩ := h
  have hB := k1.trans (ho.mono k1.size)
  exact ⟨hB, k4.below ho (Nat.le_refl _), bis_string (hb.below hB)⟩

theorem strsB_ne (ss : List ByteArray) : strsB ss ≠ [] := by unfold strsB natB; simp

set_option maxRecDepth 100000 in
set_option maxHeartbeats 16000000 in
theorem law_oone {w : World} {v : Value} {l0 : List UInt8} (hG : Glob w) (h : BIs w v l0) :
    Calls Tryd.prog 10 #[v] w fun e w' => e = .returned (.bool true) ∧ Below w.heap.size w w' := by
  have HG := Lib.hid hG
  have hpos := hG.lt
  have hle : (l0.take 300).length ≤ 300 := by rw [List.length_take]; omega
  have HBI := Lib.hid h
  obtain ⟨A0, cap0, rfl, hc0, hm0, h3⟩ := h
  clear h3 hG
  unfold maxLen at hm0
  go_enter Tryd.func10, Tryd.ntmps10
  go_upto_if 13 with fail
  go_cut [0] (fun s0 wx => ∃ A cap, s0 = .slice A (l0.take 300).length cap ∧ BIs w (.slice A (l0.take 300).length cap) (l0.take 300) ∧ w = wx)
  case first =>
    by_cases h3 : (300 : Int) < (l0.length : Int)
    · have hl : (l0.take 300).length = 300 := by rw [List.length_take]; omega
      have hq : (300 : Int) ≤ (cap0 : Int) := by omega
      have hq2 : 300 ≤ cap0 := by omega
      have hB : BIs w (.slice A0 300 cap0) (l0.take 300) := by
        obtain ⟨A, c, e, k1, k2, k3⟩ := HBI.out
        injection e with e1 _ e2
        subst e1 e2
        refine ⟨A0, cap0, by rw [hl], by omega, k2, fun i b hi => ?_⟩
        rw [List.getElem?_take] at hi
        split at hi
        · exact k3 i b hi
        · cases hi
      have HB := Lib.hid hB
      have HL := Lib.hid hl
      clear hB hl hle
      go_wp2_with fail
      go_meet
      refine ⟨A0, cap0, ?_, ?_, rfl⟩
      · rw [HL.out]
      · rw [HL.out]; exact HB.out
    · have hl : l0.take 300 = l0 := List.take_of_length_le (by omega)
      have HL := Lib.hid hl
      clear hl hle
      go_wp2_with fail
      go_meet
      exact ⟨A0, cap0, by rw [HL.out], by rw [HL.out]; exact HBI.out, rfl⟩
  case rest =>
    obtain ⟨A, cap, rfl, hB, rfl⟩ := hcut
    generalize l0.take 300 = l at *
    have HB := Lib.hid hB
    have HOF := Lib.hid (fun W (hW : Below w.heap.size w W) => of_any (hB.below hW) (by omega))
    have HLE := Lib.hid hle
    have HPOS := Lib.hid hpos
    clear hB hle hpos HBI hc0 hm0
    go_wp2_with fail
    refine (HOF.out _ (Below.refl _ _)).mono ?_
    rintro e w1 ⟨g1, B1, d1, rfl, hg1, hR1, hb1⟩
    have HB1 := Lib.hid hb1
    have HR1 := Lib.hid hR1
    have hlt1 : g1 < w1.heap.size := ErrIs.lt hR1.blk
    clear hR1 hb1
    go_wp2_with fail
    refine (HOF.out _ HB1.out).mono ?_
    rintro e w2 ⟨g2, B2, d2, rfl, hg2, hR2, hb2⟩
    have HR1' := Lib.hid (HR1.out.below hb2)
    have HB2 := Lib.hid (HB1.out.trans (hb2.mono HB1.out.size))
    have HR2 := Lib.hid hR2
    have hlt2 : g2 < w2.heap.size := ErrIs.lt hR2.blk
    clear hR2 hb2
    go_wp2_with fail
    refine (HOF.out _ HB2.out).mono ?_
    rintro e w3 ⟨g3, B3, d3, rfl, hg3, hR3, hb3⟩
    have HR1 := Lib.hid (HR1'.out.below hb3)
    have HR2' := Lib.hid (HR2.out.below hb3)
    have HB3 := Lib.hid (HB2.out.trans (hb3.mono HB2.out.size))
    have HR3 := Lib.hid hR3
    have hlt3 : g3 < w3.heap.size := ErrIs.lt hR3.blk
    clear hR3 hb3
    go_wp2_with fail
    refine (HOF.out _ HB3.out).mono ?_
    rintro e w4 ⟨g4, B4, d4, rfl, hg4, hR4, hb4⟩
    have HR1' := Lib.hid (HR1.out.below hb4)
    have HR2 := Lib.hid (HR2'.out.below hb4)
    have HR3' := Lib.hid (HR3.out.below hb4)
    have HB4 := Lib.hid (HB3.out.trans (hb4.mono HB3.out.size))
    have HR4 := Lib.hid hR4
    have hs1 := HB1.out.size
    have hs2 := HB2.out.size
    have hs3 := HB3.out.size
    have HNE : Hid (w.heap.size ≤ g1 ∧ g1 < g2 ∧ g2 < g3 ∧ g3 < g4) := ⟨hg1, by omega, by omega, by omega⟩
    clear hR4 hb4 hs1 hs2 hs3 hg1 hg2 hg3 hg4 hlt1 hlt2 hlt3
    have HN := Lib.hid (nat_st HR1'.out)
    go_wp2_with fail
    refine (HN.out).mono ?_
    rintro e w5 ⟨n, rfl, hn, hS1, hO1⟩
    have hB5 := HB4.out.trans (Below.of_onlyq hO1 HNE.out.1 HB4.out.size)
    have h1has : Has w4 g1 := ⟨_, _, _, _, _, _, HR1'.out⟩
    have HR2a := Lib.hid (HR2.out.otherq HR1'.out (by have := HNE.out; omega) hO1)
    have HR3a := Lib.hid (HR3'.out.otherq HR1'.out (by have := HNE.out; omega) hO1)
    have HR4a := Lib.hid (HR4.out.otherq HR1'.out (by have := HNE.out; omega) hO1)
    have HS1 := Lib.hid hS1
    have HB5 := Lib.hid hB5
    have HN64 := Lib.hid hn
    have hn0 : (0 : Int) ≤ (n : Int) := by omega
    clear hS1 hO1 hB5 h1has hn
    have HN := Lib.hid (num_st HR2a.out)
    go_wp2_with fail
    refine (HN.out).mono ?_
    rintro e w6 ⟨m, rfl, hm0, hm1, hS2, hO2⟩
    have h2has : Has w5 g2 := ⟨_, _, _, _, _, _, HR2a.out⟩
    have HB6 := Lib.hid (HB5.out.trans (Below.of_onlyq hO2 (by have := HNE.out; omega) HB5.out.size))
    have HS1 := Lib.hid (HS1.out.other h2has (by have := HNE.out; omega) hO2)
    have HR3b := Lib.hid (HR3a.out.otherq HR2a.out (by have := HNE.out; omega) hO2)
    have HR4b := Lib.hid (HR4a.out.otherq HR2a.out (by have := HNE.out; omega) hO2)
    have HS2 := Lib.hid hS2
    have HM := Lib.hid (And.intro hm0 hm1)
    clear hS2 hO2 h2has hm0 hm1
    have HN := Lib.hid (str_st HR3b.out)
    go_wp2_with fail
    refine (HN.out).mono ?_
    rintro e w7 ⟨st, rfl, hst, hS3, hO3⟩
    have h3has : Has w6 g3 := ⟨_, _, _, _, _, _, HR3b.out⟩
    have HB7 := Lib.hid (HB6.out.trans (Below.of_onlyq hO3 (by have := HNE.out; omega) HB6.out.size))
    have HS1 := Lib.hid (HS1.out.other h3has (by have := HNE.out; omega) hO3)
    have HS2 := Lib.hid (HS2.out.other h3has (by have := HNE.out; omega) hO3)
    have HR4c := Lib.hid (HR4b.out.otherq HR3b.out (by have := HNE.out; omega) hO3)
    have HS3 := Lib.hid hS3
    have HST := Lib.hid hst
    clear hS3 hO3 h3has hst
    have HN := Lib.hid (strs_st HR4c.out HLE.out)
    go_wp2_with fail
    refine (HN.out).mono ?_
    rintro e w8 ⟨vv, ss, rfl, hT, hss, hbig, hS4, hO4⟩
    have h4has : Has w7 g4 := ⟨_, _, _, _, _, _, HR4c.out⟩
    have HB8 := Lib.hid (HB7.out.trans (Below.of_onlyq hO4 (by have := HNE.out; omega) HB7.out.size))
    have HS1 := Lib.hid (HS1.out.other h4has (by have := HNE.out; omega) hO4)
    have HS2 := Lib.hid (HS2.out.other h4has (by have := HNE.out; omega) hO4)
    have HS3 := Lib.hid (HS3.out.other h4has (by have := HNE.out; omega) hO4)
    have HKA : Hid (KeepA w A cap l g3 g4 (strB st) (strsB ss) vv ss w8) := ⟨HB8.out, HS3.out, hS4, hT, bis_string (HB.out.below HB8.out)⟩
    have HSS := Lib.hid (And.intro hss hbig)
    clear hT hss hbig hS4 hO4 h4has
    go_upto_region 5 with fail
    go_cut [55] (fun b wx => b = .bool false ∧ KeepA w A cap l g3 g4 (strB st) (strsB ss) vv ss wx)
    case first =>
      have K0 := HKA
      have kc : ∀ W, KeepA w A cap l g3 g4 (strB st) (strsB ss) vv ss W → (convert 54 9 (.slice A l.length cap)).run Tryd.prog W = .ok (.string ⟨l.toArray⟩) W := fun W h => h.2.2.2.2
      have kG : ∀ W, KeepA w A cap l g3 g4 (strB st) (strsB ss) vv ss W → Glob W := fun W h => HG.out.below h.1
      have kA : ∀ W W', KeepA w A cap l g3 g4 (strB st) (strsB ss) vv ss W → Has W g1 → Only g1 W W' → KeepA w A cap l g3 g4 (strB st) (strsB ss) vv ss W' := fun W W' h hh ho => KeepA.only HB.out h hh (by have := HNE.out; omega) (by have := HNE.out; omega) (by have := HNE.out; omega) ho
      have kB : ∀ W W', KeepA w A cap l g3 g4 (strB st) (strsB ss) vv ss W → Has W g2 → Only g2 W W' → KeepA w A cap l g3 g4 (strB st) (strsB ss) vv ss W' := fun W W' h hh ho => KeepA.only HB.out h hh (by have := HNE.out; omega) (by have := HNE.out; omega) (by have := HNE.out; omega) ho
      have kW : ∀ W W', KeepA w A cap l g3 g4 (strB st) (strsB ss) vv ss W → Below W.heap.size W W' → KeepA w A cap l g3 g4 (strB st) (strsB ss) vv ss W' := fun W W' h ho => KeepA.below HB.out h ho
      have g1z : g1 ≠ 0 := by have := HNE.out; have := HPOS.out; omega
      have g2z : g2 ≠ 0 := by have := HNE.out; have := HPOS.out; omega
      have k0 := K0.out
      have k1 := kW _ _ k0 (Below.refl w8.heap.size w8).drew
      have c0 := kc _ k0
      have c1 := kc _ k1
      rcases HS1.out.cases with ⟨hd1, he1⟩ | hd1
      · rcases HS2.out.cases with ⟨hd2, he2⟩ | hd2
        · have d0 := hd1
          have d1 := hd1.below (Below.refl w8.heap.size w8).drew
          have x0 := hd2
          have x1 := hd2.below (Below.refl w8.heap.size w8).drew
          have KA : Hid (∀ W, KeepA w A cap l g3 g4 (strB st) (strsB ss) vv ss W → Done W g1 l → Done W g2 l → Calls Tryd.prog 56 #[.pointer (some ⟨g1, 0, none⟩)] W fun e w' => e = .returned (.int .i64 0) ∧ (convert 54 9 (.slice A l.length cap)).run Tryd.prog w' = .ok (.string ⟨l.toArray⟩) w' ∧ KeepA w A cap l g3 g4 (strB st) (strsB ss) vv ss w' ∧ Done w' g2 l) := fun W h hd hx =>
            (end_done (kG W h) hd).mono fun e w' ⟨h1, ho⟩ => ⟨h1, kc w' (kA W w' h hd.has ho), kA W w' h hd.has ho, hx.other hd.has (by have := HNE.out; omega) ho⟩
          have KN : Hid (∀ W, KeepA w A cap l g3 g4 (strB st) (strsB ss) vv ss W → Done W g2 l → Calls Tryd.prog 35 #[.int .u64 (n : Int)] W fun e w' => ∃ v, e = .returned v ∧ (convert 54 9 v).run Tryd.prog w' = .ok (.string ⟨l.toArray⟩) w' ∧ (convert 54 9 (.slice A l.length cap)).run Tryd.prog w' = .ok (.string ⟨l.toArray⟩) w' ∧ KeepA w A cap l g3 g4 (strB st) (strsB ss) vv ss w' ∧ Done w' g2 l) := fun W h hx =>
            (onat_any n HN64.out W).mono fun e w' ⟨v, h1, h2, h3⟩ => ⟨v, h1, by rw [← he1]; exact own_string h2 (natB_ne _), kc w' (kW W w' h h3), kW W w' h h3, hx.below h3⟩
          have KB : Hid (∀ W, KeepA w A cap l g3 g4 (strB st) (strsB ss) vv ss W → Done W g2 l → Calls Tryd.prog 56 #[.pointer (some ⟨g2, 0, none⟩)] W fun e w' => e = .returned (.int .i64 0) ∧ (convert 54 9 (.slice A l.length cap)).run Tryd.prog w' = .ok (.string ⟨l.toArray⟩) w' ∧ KeepA w A cap l g3 g4 (strB st) (strsB ss) vv ss w') := fun W h hd =>
            (end_done (kG W h) hd).mono fun e w' ⟨h1, ho⟩ => ⟨h1, kc w' (kB W w' h hd.has ho), kB W w' h hd.has ho⟩
          have KM : Hid (∀ W, KeepA w A cap l g3 g4 (strB st) (strsB ss) vv ss W → Calls Tryd.prog 36 #[.int .i64 m] W fun e w' => ∃ v, e = .returned v ∧ (convert 54 9 v).run Tryd.prog w' = .ok (.string ⟨l.toArray⟩) w' ∧ (convert 54 9 (.slice A l.length cap)).run Tryd.prog w' = .ok (.string ⟨l.toArray⟩) w' ∧ KeepA w A cap l g3 g4 (strB st) (strsB ss) vv ss w') := fun W h =>
            (onum_any m HM.out.1 HM.out.2 W).mono fun e w' ⟨v, h1, h2, h3⟩ => ⟨v, h1, by rw [← he2]; exact own_string h2 (natB_ne _), kc w' (kW W w' h h3), kW W w' h h3⟩
          clear kc kG kA kB kW
          go_wp2_with fail
          refine wp_region_held_drew (S := (fun w' => (convert 54 9 (.slice A l.length cap)).run Tryd.prog w' = .ok (.string ⟨l.toArray⟩) w')) (by kernel_rfl) c1 (fun hHeld => ?_)
          refine wpAnyH_take (i := 0) (v := ?_) rfl (by kernel_rfl) (by kernel_rfl) (by kernel_rfl) (fun _ _ _ h => h) (Or.inl ⟨by rfl, ?_⟩) (by assumption) ?_
          rotate_left 1
          · (intro wq hSw; (try dsimp only at hSw); go_simp; try with_reducible rfl)
          (try dsimp only)
          (try simp only [List.getElem_toArray, List.getElem_cons_succ, List.getElem_cons_zero, Act.put, List.setIfInBounds_toArray, List.set_cons_zero, List.set_cons_succ])
          refine wpAnyH_ready (rs := [1]) (by kernel_rfl) (by simp) ?_
          refine AllReadyH.cons rfl (fun K hK => ?_) AllReadyH.nil
          go_simp
          go_wp2_with ((with_reducible (show Calls _ _ _ _ _)); go_at_call_of 56 (Value.pointer (some ⟨g1, 0, none⟩)); refine (KA.out _ (by assumption) (by assumption) (by assumption)).mono ?_; rintro e wa ⟨rfl, hca, hka, hxa⟩)
          refine hK.out _ _ (by first | assumption | trivial) (fun hHeld => ?_)
          clear hK K
          refine wpAnyH_take (i := 2) (v := ?_) rfl (by kernel_rfl) (by kernel_rfl) (by kernel_rfl) (fun _ _ _ h => h) (Or.inl ⟨by rfl, ?_⟩) (by assumption) ?_
          rotate_left 1
          · (intro wq hSw; (try dsimp only at hSw); go_simp; try with_reducible rfl)
          (try dsimp only)
          (try simp only [List.getElem_toArray, List.getElem_cons_succ, List.getElem_cons_zero, Act.put, List.setIfInBounds_toArray, List.set_cons_zero, List.set_cons_succ])
          refine wpAnyH_take (i := 3) (v := ?_) rfl (by kernel_rfl) (by kernel_rfl) (by kernel_rfl) (fun _ _ _ h => h) (Or.inl ⟨by rfl, ?_⟩) (by assumption) ?_
          rotate_left 1
          · (intro wq hSw; (try dsimp only at hSw); go_simp; try with_reducible rfl)
          (try dsimp only)
          (try simp only [List.getElem_toArray, List.getElem_cons_succ, List.getElem_cons_zero, Act.put, List.setIfInBounds_toArray, List.set_cons_zero, List.set_cons_succ])
          refine wpAnyH_take (i := 4) (v := ?_) rfl (by kernel_rfl) (by kernel_rfl) (by kernel_rfl) (fun _ _ _ h => h) (Or.inl ⟨by rfl, ?_⟩) (by assumption) ?_
          rotate_left 1
          · (intro wq hSw; (try dsimp only at hSw); go_simp; try with_reducible rfl)
          (try dsimp only)
          (try simp only [List.getElem_toArray, List.getElem_cons_succ, List.getElem_cons_zero, Act.put, List.setIfInBounds_toArray, List.set_cons_zero, List.set_cons_succ])
          refine wpAnyH_take (i := 7) (v := ?_) rfl (by kernel_rfl) (by kernel_rfl) (by kernel_rfl) (fun _ _ _ h => h) (Or.inl ⟨by rfl, ?_⟩) (by assumption) ?_
          rotate_left 1
          · (intro wq hSw; (try dsimp only at hSw); go_simp; try with_reducible rfl)
          (try dsimp only)
          (try simp only [List.getElem_toArray, List.getElem_cons_succ, List.getElem_cons_zero, Act.put, List.setIfInBounds_toArray, List.set_cons_zero, List.set_cons_succ])
          refine wpAnyH_take (i := 8) (v := ?_) rfl (by kernel_rfl) (by kernel_rfl) (by kernel_rfl) (fun _ _ _ h => h) (Or.inl ⟨by rfl, ?_⟩) (by assumption) ?_
          rotate_left 1
          · (intro wq hSw; (try dsimp only at hSw); go_simp; try with_reducible rfl)
          (try dsimp only)
          (try simp only [List.getElem_toArray, List.getElem_cons_succ, List.getElem_cons_zero, Act.put, List.setIfInBounds_toArray, List.set_cons_zero, List.set_cons_succ])
          refine wpAnyH_ready (rs := [5]) (by kernel_rfl) (by simp) ?_
          refine AllReadyH.cons rfl (fun K hK => ?_) AllReadyH.nil
          go_simp
          go_wp2_with ((with_reducible (show Calls _ _ _ _ _)); go_at_call 35; refine (KN.out _ (by assumption) (by assumption)).mono ?_; rintro e wn ⟨vn, rfl, hcn, hcn2, hkn, hxn⟩)
          refine hK.out _ _ (by first | assumption | trivial) (fun hHeld => ?_)
          clear hK K
          refine wpAnyH_ready (rs := [6]) (by kernel_rfl) (by simp) ?_
          refine AllReadyH.cons rfl (fun K hK => ?_) AllReadyH.nil
          go_simp
          refine hK.out _ _ (by first | assumption | trivial) (fun hHeld => ?_)
          clear hK K
          (try dsimp only)
          (try simp only [List.getElem_toArray, List.getElem_cons_succ, List.getElem_cons_zero, Act.put, List.setIfInBounds_toArray, List.set_cons_zero, List.set_cons_succ])
          refine wpAnyH_take (i := 9) (v := ?_) rfl (by kernel_rfl) (by kernel_rfl) (by kernel_rfl) (fun _ _ _ h => h) (Or.inl ⟨by rfl, ?_⟩) (by assumption) ?_
          rotate_left 1
          · (intro wq hSw; (try dsimp only at hSw); go_simp; try with_reducible rfl)
          (try dsimp only)
          (try simp only [List.getElem_toArray, List.getElem_cons_succ, List.getElem_cons_zero, Act.put, List.setIfInBounds_toArray, List.set_cons_zero, List.set_cons_succ])
          refine wpAnyH_take (i := 10) (v := ?_) rfl (by kernel_rfl) (by kernel_rfl) (by kernel_rfl) (fun _ _ _ h => h) (Or.inl ⟨by rfl, ?_⟩) (by assumption) ?_
          rotate_left 1
          · (intro wq hSw; (try dsimp only at hSw); go_simp; try with_reducible rfl)
          (try dsimp only)
          (try simp only [List.getElem_toArray, List.getElem_cons_succ, List.getElem_cons_zero, Act.put, List.setIfInBounds_toArray, List.set_cons_zero, List.set_cons_succ])
          refine wpAnyH_take (i := 11) (v := ?_) rfl (by kernel_rfl) (by kernel_rfl) (by kernel_rfl) (fun _ _ _ h => h) (Or.inl ⟨by rfl, ?_⟩) (by assumption) ?_
          rotate_left 1
          · (intro wq hSw; (try dsimp only at hSw); go_simp; try with_reducible rfl)
          (try dsimp only)
          (try simp only [List.getElem_toArray, List.getElem_cons_succ, List.getElem_cons_zero, Act.put, List.setIfInBounds_toArray, List.set_cons_zero, List.set_cons_succ])
          refine wpAnyH_take (i := 12) (v := ?_) rfl (by kernel_rfl) (by kernel_rfl) (by kernel_rfl) (fun _ _ _ h => h) (Or.inl ⟨by rfl, ?_⟩) (by assumption) ?_
          rotate_left 1
          · (intro wq hSw; (try dsimp only at hSw); go_simp; try with_reducible rfl)
          (try dsimp only)
          (try simp only [List.getElem_toArray, List.getElem_cons_succ, List.getElem_cons_zero, Act.put, List.setIfInBounds_toArray, List.set_cons_zero, List.set_cons_succ])
          refine wpAnyH_ready (rs := [13]) (by kernel_rfl) (by simp) ?_
          refine AllReadyH.cons rfl (fun K hK => ?_) AllReadyH.nil
          go_simp
          go_wp2_with ((with_reducible (show Calls _ _ _ _ _)); go_at_call_of 56 (Value.pointer (some ⟨g2, 0, none⟩)); refine (KB.out _ (by assumption) (by assumption)).mono ?_; rintro e wb ⟨rfl, hcb, hkb⟩)
          refine hK.out _ _ (by first | assumption | trivial) (fun hHeld => ?_)
          clear hK K
          refine wpAnyH_take (i := 14) (v := ?_) rfl (by kernel_rfl) (by kernel_rfl) (by kernel_rfl) (fun _ _ _ h => h) (Or.inl ⟨by rfl, ?_⟩) (by assumption) ?_
          rotate_left 1
          · (intro wq hSw; (try dsimp only at hSw); go_simp; try with_reducible rfl)
          (try dsimp only)
          (try simp only [List.getElem_toArray, List.getElem_cons_succ, List.getElem_cons_zero, Act.put, List.setIfInBounds_toArray, List.set_cons_zero, List.set_cons_succ])
          refine wpAnyH_take (i := 15) (v := ?_) rfl (by kernel_rfl) (by kernel_rfl) (by kernel_rfl) (fun _ _ _ h => h) (Or.inl ⟨by rfl, ?_⟩) (by assumption) ?_
          rotate_left 1
          · (intro wq hSw; (try dsimp only at hSw); go_simp; try with_reducible rfl)
          (try dsimp only)
          (try simp only [List.getElem_toArray, List.getElem_cons_succ, List.getElem_cons_zero, Act.put, List.setIfInBounds_toArray, List.set_cons_zero, List.set_cons_succ])
          refine wpAnyH_take (i := 16) (v := ?_) rfl (by kernel_rfl) (by kernel_rfl) (by kernel_rfl) (fun _ _ _ h => h) (Or.inl ⟨by rfl, ?_⟩) (by assumption) ?_
          rotate_left 1
          · (intro wq hSw; (try dsimp only at hSw); go_simp; try with_reducible rfl)
          (try dsimp only)
          (try simp only [List.getElem_toArray, List.getElem_cons_succ, List.getElem_cons_zero, Act.put, List.setIfInBounds_toArray, List.set_cons_zero, List.set_cons_succ])
          refine wpAnyH_take (i := 19) (v := ?_) rfl (by kernel_rfl) (by kernel_rfl) (by kernel_rfl) (fun _ _ _ h => h) (Or.inl ⟨by rfl, ?_⟩) (by assumption) ?_
          rotate_left 1
          · (intro wq hSw; (try dsimp only at hSw); go_simp; try with_reducible rfl)
          (try dsimp only)
          (try simp only [List.getElem_toArray, List.getElem_cons_succ, List.getElem_cons_zero, Act.put, List.setIfInBounds_toArray, List.set_cons_zero, List.set_cons_succ])
          refine wpAnyH_take (i := 20) (v := ?_) rfl (by kernel_rfl) (by kernel_rfl) (by kernel_rfl) (fun _ _ _ h => h) (Or.inl ⟨by rfl, ?_⟩) (by assumption) ?_
          rotate_left 1
          · (intro wq hSw; (try dsimp only at hSw); go_simp; try with_reducible rfl)
          (try dsimp only)
          (try simp only [List.getElem_toArray, List.getElem_cons_succ, List.getElem_cons_zero, Act.put, List.setIfInBounds_toArray, List.set_cons_zero, List.set_cons_succ])
          refine wpAnyH_ready (rs := [17]) (by kernel_rfl) (by simp) ?_
          refine AllReadyH.cons rfl (fun K hK => ?_) AllReadyH.nil
          go_simp
          go_wp2_with ((with_reducible (show Calls _ _ _ _ _)); go_at_call 36; refine (KM.out _ (by assumption)).mono ?_; rintro e wm ⟨vm, rfl, hcm, hcm2, hkm⟩)
          refine hK.out _ _ (by first | assumption | trivial) (fun hHeld => ?_)
          clear hK K
          refine wpAnyH_ready (rs := [18]) (by kernel_rfl) (by simp) ?_
          refine AllReadyH.cons rfl (fun K hK => ?_) AllReadyH.nil
          go_simp
          refine hK.out _ _ (by first | assumption | trivial) (fun hHeld => ?_)
          clear hK K
          (try dsimp only)
          (try simp only [List.getElem_toArray, List.getElem_cons_succ, List.getElem_cons_zero, Act.put, List.setIfInBounds_toArray, List.set_cons_zero, List.set_cons_succ])
          refine wpAnyH_take (i := 21) (v := ?_) rfl (by kernel_rfl) (by kernel_rfl) (by kernel_rfl) (fun _ _ _ h => h) (Or.inl ⟨by rfl, ?_⟩) (by assumption) ?_
          rotate_left 1
          · (intro wq hSw; (try dsimp only at hSw); go_simp; try with_reducible rfl)
          (try dsimp only)
          (try simp only [List.getElem_toArray, List.getElem_cons_succ, List.getElem_cons_zero, Act.put, List.setIfInBounds_toArray, List.set_cons_zero, List.set_cons_succ])
          refine wpAnyH_take (i := 22) (v := ?_) rfl (by kernel_rfl) (by kernel_rfl) (by kernel_rfl) (fun _ _ _ h => h) (Or.inl ⟨by rfl, ?_⟩) (by assumption) ?_
          rotate_left 1
          · (intro wq hSw; (try dsimp only at hSw); go_simp; try with_reducible rfl)
          (try dsimp only)
          (try simp only [List.getElem_toArray, List.getElem_cons_succ, List.getElem_cons_zero, Act.put, List.setIfInBounds_toArray, List.set_cons_zero, List.set_cons_succ])
          refine wpAnyH_take (i := 23) (v := ?_) rfl (by kernel_rfl) (by kernel_rfl) (by kernel_rfl) (fun _ _ _ h => h) (Or.inl ⟨by rfl, ?_⟩) (by assumption) ?_
          rotate_left 1
          · (intro wq hSw; (try dsimp only at hSw); go_simp; try with_reducible rfl)
          (try dsimp only)
          (try simp only [List.getElem_toArray, List.getElem_cons_succ, List.getElem_cons_zero, Act.put, List.setIfInBounds_toArray, List.set_cons_zero, List.set_cons_succ])
          refine wpAnyH_done (by kernel_rfl) ?_ _
          go_wp2_with fail
          go_meet
          exact ⟨rfl, by assumption⟩
        · have d0 := hd1
          have d1 := hd1.below (Below.refl w8.heap.size w8).drew
          have x0 := hd2
          have x1 := hd2.below (Below.refl w8.heap.size w8).drew
          have KA : Hid (∀ W, KeepA w A cap l g3 g4 (strB st) (strsB ss) vv ss W → Done W g1 l → Opn W g2 l → Calls Tryd.prog 56 #[.pointer (some ⟨g1, 0, none⟩)] W fun e w' => e = .returned (.int .i64 0) ∧ (convert 54 9 (.slice A l.length cap)).run Tryd.prog w' = .ok (.string ⟨l.toArray⟩) w' ∧ KeepA w A cap l g3 g4 (strB st) (strsB ss) vv ss w' ∧ Opn w' g2 l) := fun W h hd hx =>
            (end_done (kG W h) hd).mono fun e w' ⟨h1, ho⟩ => ⟨h1, kc w' (kA W w' h hd.has ho), kA W w' h hd.has ho, hx.other hd.has (by have := HNE.out; omega) ho⟩
          have KN : Hid (∀ W, KeepA w A cap l g3 g4 (strB st) (strsB ss) vv ss W → Opn W g2 l → Calls Tryd.prog 35 #[.int .u64 (n : Int)] W fun e w' => ∃ v, e = .returned v ∧ (convert 54 9 v).run Tryd.prog w' = .ok (.string ⟨l.toArray⟩) w' ∧ (convert 54 9 (.slice A l.length cap)).run Tryd.prog w' = .ok (.string ⟨l.toArray⟩) w' ∧ KeepA w A cap l g3 g4 (strB st) (strsB ss) vv ss w' ∧ Opn w' g2 l) := fun W h hx =>
            (onat_any n HN64.out W).mono fun e w' ⟨v, h1, h2, h3⟩ => ⟨v, h1, by rw [← he1]; exact own_string h2 (natB_ne _), kc w' (kW W w' h h3), kW W w' h h3, hx.below h3⟩
          have KB : Hid (∀ W, KeepA w A cap l g3 g4 (strB st) (strsB ss) vv ss W → Opn W g2 l → Calls Tryd.prog 56 #[.pointer (some ⟨g2, 0, none⟩)] W fun e w' => ∃ x : Int, e = .returned (.int .i64 x) ∧ (x == 0) = false ∧ (convert 54 9 (.slice A l.length cap)).run Tryd.prog w' = .ok (.string ⟨l.toArray⟩) w' ∧ KeepA w A cap l g3 g4 (strB st) (strsB ss) vv ss w') := fun W h hd =>
            (end_open (kG W h) g2z hd).mono fun e w' ⟨x, h1, hz, ho⟩ => ⟨x, h1, hz, kc w' (kB W w' h hd.has ho), kB W w' h hd.has ho⟩
          clear kc kG kA kB kW
          go_wp2_with fail
          refine wp_region_held_drew (S := (fun w' => (convert 54 9 (.slice A l.length cap)).run Tryd.prog w' = .ok (.string ⟨l.toArray⟩) w')) (by kernel_rfl) c1 (fun hHeld => ?_)
          refine wpAnyH_take (i := 0) (v := ?_) rfl (by kernel_rfl) (by kernel_rfl) (by kernel_rfl) (fun _ _ _ h => h) (Or.inl ⟨by rfl, ?_⟩) (by assumption) ?_
          rotate_left 1
          · (intro wq hSw; (try dsimp only at hSw); go_simp; try with_reducible rfl)
          (try dsimp only)
          (try simp only [List.getElem_toArray, List.getElem_cons_succ, List.getElem_cons_zero, Act.put, List.setIfInBounds_toArray, List.set_cons_zero, List.set_cons_succ])
          refine wpAnyH_ready (rs := [1]) (by kernel_rfl) (by simp) ?_
          refine AllReadyH.cons rfl (fun K hK => ?_) AllReadyH.nil
          go_simp
          go_wp2_with ((with_reducible (show Calls _ _ _ _ _)); go_at_call_of 56 (Value.pointer (some ⟨g1, 0, none⟩)); refine (KA.out _ (by assumption) (by assumption) (by assumption)).mono ?_; rintro e wa ⟨rfl, hca, hka, hxa⟩)
          refine hK.out _ _ (by first | assumption | trivial) (fun hHeld => ?_)
          clear hK K
          refine wpAnyH_take (i := 2) (v := ?_) rfl (by kernel_rfl) (by kernel_rfl) (by kernel_rfl) (fun _ _ _ h => h) (Or.inl ⟨by rfl, ?_⟩) (by assumption) ?_
          rotate_left 1
          · (intro wq hSw; (try dsimp only at hSw); go_simp; try with_reducible rfl)
          (try dsimp only)
          (try simp only [List.getElem_toArray, List.getElem_cons_succ, List.getElem_cons_zero, Act.put, List.setIfInBounds_toArray, List.set_cons_zero, List.set_cons_succ])
          refine wpAnyH_take (i := 3) (v := ?_) rfl (by kernel_rfl) (by kernel_rfl) (by kernel_rfl) (fun _ _ _ h => h) (Or.inl ⟨by rfl, ?_⟩) (by assumption) ?_
          rotate_left 1
          · (intro wq hSw; (try dsimp only at hSw); go_simp; try with_reducible rfl)
          (try dsimp only)
          (try simp only [List.getElem_toArray, List.getElem_cons_succ, List.getElem_cons_zero, Act.put, List.setIfInBounds_toArray, List.set_cons_zero, List.set_cons_succ])
          refine wpAnyH_take (i := 4) (v := ?_) rfl (by kernel_rfl) (by kernel_rfl) (by kernel_rfl) (fun _ _ _ h => h) (Or.inl ⟨by rfl, ?_⟩) (by assumption) ?_
          rotate_left 1
          · (intro wq hSw; (try dsimp only at hSw); go_simp; try with_reducible rfl)
          (try dsimp only)
          (try simp only [List.getElem_toArray, List.getElem_cons_succ, List.getElem_cons_zero, Act.put, List.setIfInBounds_toArray, List.set_cons_zero, List.set_cons_succ])
          refine wpAnyH_take (i := 7) (v := ?_) rfl (by kernel_rfl) (by kernel_rfl) (by kernel_rfl) (fun _ _ _ h => h) (Or.inl ⟨by rfl, ?_⟩) (by assumption) ?_
          rotate_left 1
          · (intro wq hSw; (try dsimp only at hSw); go_simp; try with_reducible rfl)
          (try dsimp only)
          (try simp only [List.getElem_toArray, List.getElem_cons_succ, List.getElem_cons_zero, Act.put, List.setIfInBounds_toArray, List.set_cons_zero, List.set_cons_succ])
          refine wpAnyH_take (i := 8) (v := ?_) rfl (by kernel_rfl) (by kernel_rfl) (by kernel_rfl) (fun _ _ _ h => h) (Or.inl ⟨by rfl, ?_⟩) (by assumption) ?_
          rotate_left 1
          · (intro wq hSw; (try dsimp only at hSw); go_simp; try with_reducible rfl)
          (try dsimp only)
          (try simp only [List.getElem_toArray, List.getElem_cons_succ, List.getElem_cons_zero, Act.put, List.setIfInBounds_toArray, List.set_cons_zero, List.set_cons_succ])
          refine wpAnyH_ready (rs := [5]) (by kernel_rfl) (by simp) ?_
          refine AllReadyH.cons rfl (fun K hK => ?_) AllReadyH.nil
          go_simp
          go_wp2_with ((with_reducible (show Calls _ _ _ _ _)); go_at_call 35; refine (KN.out _ (by assumption) (by assumption)).mono ?_; rintro e wn ⟨vn, rfl, hcn, hcn2, hkn, hxn⟩)
          refine hK.out _ _ (by first | assumption | trivial) (fun hHeld => ?_)
          clear hK K
          refine wpAnyH_ready (rs := [6]) (by kernel_rfl) (by simp) ?_
          refine AllReadyH.cons rfl (fun K hK => ?_) AllReadyH.nil
          go_simp
          refine hK.out _ _ (by first | assumption | trivial) (fun hHeld => ?_)
          clear hK K
          (try dsimp only)
          (try simp only [List.getElem_toArray, List.getElem_cons_succ, List.getElem_cons_zero, Act.put, List.setIfInBounds_toArray, List.set_cons_zero, List.set_cons_succ])
          refine wpAnyH_take (i := 9) (v := ?_) rfl (by kernel_rfl) (by kernel_rfl) (by kernel_rfl) (fun _ _ _ h => h) (Or.inl ⟨by rfl, ?_⟩) (by assumption) ?_
          rotate_left 1
          · (intro wq hSw; (try dsimp only at hSw); go_simp; try with_reducible rfl)
          (try dsimp only)
          (try simp only [List.getElem_toArray, List.getElem_cons_succ, List.getElem_cons_zero, Act.put, List.setIfInBounds_toArray, List.set_cons_zero, List.set_cons_succ])
          refine wpAnyH_take (i := 10) (v := ?_) rfl (by kernel_rfl) (by kernel_rfl) (by kernel_rfl) (fun _ _ _ h => h) (Or.inl ⟨by rfl, ?_⟩) (by assumption) ?_
          rotate_left 1
          · (intro wq hSw; (try dsimp only at hSw); go_simp; try with_reducible rfl)
          (try dsimp only)
          (try simp only [List.getElem_toArray, List.getElem_cons_succ, List.getElem_cons_zero, Act.put, List.setIfInBounds_toArray, List.set_cons_zero, List.set_cons_succ])
          refine wpAnyH_take (i := 11) (v := ?_) rfl (by kernel_rfl) (by kernel_rfl) (by kernel_rfl) (fun _ _ _ h => h) (Or.inl ⟨by rfl, ?_⟩) (by assumption) ?_
          rotate_left 1
          · (intro wq hSw; (try dsimp only at hSw); go_simp; try with_reducible rfl)
          (try dsimp only)
          (try simp only [List.getElem_toArray, List.getElem_cons_succ, List.getElem_cons_zero, Act.put, List.setIfInBounds_toArray, List.set_cons_zero, List.set_cons_succ])
          refine wpAnyH_take (i := 12) (v := ?_) rfl (by kernel_rfl) (by kernel_rfl) (by kernel_rfl) (fun _ _ _ h => h) (Or.inl ⟨by rfl, ?_⟩) (by assumption) ?_
          rotate_left 1
          · (intro wq hSw; (try dsimp only at hSw); go_simp; try with_reducible rfl)
          (try dsimp only)
          (try simp only [List.getElem_toArray, List.getElem_cons_succ, List.getElem_cons_zero, Act.put, List.setIfInBounds_toArray, List.set_cons_zero, List.set_cons_succ])
          refine wpAnyH_ready (rs := [13]) (by kernel_rfl) (by simp) ?_
          refine AllReadyH.cons rfl (fun K hK => ?_) AllReadyH.nil
          go_simp
          go_wp2_with ((with_reducible (show Calls _ _ _ _ _)); go_at_call_of 56 (Value.pointer (some ⟨g2, 0, none⟩)); refine (KB.out _ (by assumption) (by assumption)).mono ?_; rintro e wb ⟨xb, rfl, hzb, hcb, hkb⟩)
          refine hK.out _ _ (by first | assumption | trivial) (fun hHeld => ?_)
          clear hK K
          refine wpAnyH_take (i := 14) (v := ?_) rfl (by kernel_rfl) (by kernel_rfl) (by kernel_rfl) (fun _ _ _ h => h) (Or.inl ⟨by rfl, ?_⟩) (by assumption) ?_
          rotate_left 1
          · (intro wq hSw; (try dsimp only at hSw); go_simp; try with_reducible rfl)
          (try dsimp only)
          (try simp only [List.getElem_toArray, List.getElem_cons_succ, List.getElem_cons_zero, Act.put, List.setIfInBounds_toArray, List.set_cons_zero, List.set_cons_succ])
          refine wpAnyH_take (i := 15) (v := ?_) rfl (by kernel_rfl) (by kernel_rfl) (by kernel_rfl) (fun _ _ _ h => h) (Or.inl ⟨by rfl, ?_⟩) (by assumption) ?_
          rotate_left 1
          · (intro wq hSw; (try dsimp only at hSw); go_simp; try with_reducible rfl)
          (try dsimp only)
          (try simp only [List.getElem_toArray, List.getElem_cons_succ, List.getElem_cons_zero, Act.put, List.setIfInBounds_toArray, List.set_cons_zero, List.set_cons_succ])
          refine wpAnyH_take (i := 16) (v := undef) rfl (by kernel_rfl) (by kernel_rfl) (by kernel_rfl) (fun _ _ _ h => h) (Or.inr ⟨by rfl, rfl⟩) (by assumption) ?_
          (try dsimp only)
          (try simp only [List.getElem_toArray, List.getElem_cons_succ, List.getElem_cons_zero, Act.put, List.setIfInBounds_toArray, List.set_cons_zero, List.set_cons_succ])
          refine wpAnyH_take (i := 19) (v := undef) rfl (by kernel_rfl) (by kernel_rfl) (by kernel_rfl) (fun _ _ _ h => h) (Or.inr ⟨by rfl, rfl⟩) (by assumption) ?_
          (try dsimp only)
          (try simp only [List.getElem_toArray, List.getElem_cons_succ, List.getElem_cons_zero, Act.put, List.setIfInBounds_toArray, List.set_cons_zero, List.set_cons_succ])
          refine wpAnyH_take (i := 17) (v := undef) rfl (by kernel_rfl) (by kernel_rfl) (by kernel_rfl) (fun _ _ _ h => h) (Or.inr ⟨by rfl, rfl⟩) (by assumption) ?_
          (try dsimp only)
          (try simp only [List.getElem_toArray, List.getElem_cons_succ, List.getElem_cons_zero, Act.put, List.setIfInBounds_toArray, List.set_cons_zero, List.set_cons_succ])
          refine wpAnyH_take (i := 20) (v := undef) rfl (by kernel_rfl) (by kernel_rfl) (by kernel_rfl) (fun _ _ _ h => h) (Or.inr ⟨by rfl, rfl⟩) (by assumption) ?_
          (try dsimp only)
          (try simp only [List.getElem_toArray, List.getElem_cons_succ, List.getElem_cons_zero, Act.put, List.setIfInBounds_toArray, List.set_cons_zero, List.set_cons_succ])
          refine wpAnyH_take (i := 18) (v := undef) rfl (by kernel_rfl) (by kernel_rfl) (by kernel_rfl) (fun _ _ _ h => h) (Or.inr ⟨by rfl, rfl⟩) (by assumption) ?_
          (try dsimp only)
          (try simp only [List.getElem_toArray, List.getElem_cons_succ, List.getElem_cons_zero, Act.put, List.setIfInBounds_toArray, List.set_cons_zero, List.set_cons_succ])
          refine wpAnyH_take (i := 21) (v := undef) rfl (by kernel_rfl) (by kernel_rfl) (by kernel_rfl) (fun _ _ _ h => h) (Or.inr ⟨by rfl, rfl⟩) (by assumption) ?_
          (try dsimp only)
          (try simp only [List.getElem_toArray, List.getElem_cons_succ, List.getElem_cons_zero, Act.put, List.setIfInBounds_toArray, List.set_cons_zero, List.set_cons_succ])
          refine wpAnyH_take (i := 22) (v := ?_) rfl (by kernel_rfl) (by kernel_rfl) (by kernel_rfl) (fun _ _ _ h => h) (Or.inl ⟨by rfl, ?_⟩) (by assumption) ?_
          rotate_left 1
          · (intro wq hSw; (try dsimp only at hSw); go_simp; try with_reducible rfl)
          (try dsimp only)
          (try simp only [List.getElem_toArray, List.getElem_cons_succ, List.getElem_cons_zero, Act.put, List.setIfInBounds_toArray, List.set_cons_zero, List.set_cons_succ])
          refine wpAnyH_take (i := 23) (v := ?_) rfl (by kernel_rfl) (by kernel_rfl) (by kernel_rfl) (fun _ _ _ h => h) (Or.inl ⟨by rfl, ?_⟩) (by assumption) ?_
          rotate_left 1
          · (intro wq hSw; (try dsimp only at hSw); go_simp; try with_reducible rfl)
          (try dsimp only)
          (try simp only [List.getElem_toArray, List.getElem_cons_succ, List.getElem_cons_zero, Act.put, List.setIfInBounds_toArray, List.set_cons_zero, List.set_cons_succ])
          refine wpAnyH_done (by kernel_rfl) ?_ _
          go_wp2_with fail
          go_meet
          exact ⟨rfl, by assumption⟩
      · rcases HS2.out.cases with ⟨hd2, he2⟩ | hd2
        · have d0 := hd1
          have d1 := hd1.below (Below.refl w8.heap.size w8).drew
          have x0 := hd2
          have x1 := hd2.below (Below.refl w8.heap.size w8).drew
          have KA : Hid (∀ W, KeepA w A cap l g3 g4 (strB st) (strsB ss) vv ss W → Opn W g1 l → Done W g2 l → Calls Tryd.prog 56 #[.pointer (some ⟨g1, 0, none⟩)] W fun e w' => ∃ x : Int, e = .returned (.int .i64 x) ∧ (x == 0) = false ∧ (convert 54 9 (.slice A l.length cap)).run Tryd.prog w' = .ok (.string ⟨l.toArray⟩) w' ∧ KeepA w A cap l g3 g4 (strB st) (strsB ss) vv ss w' ∧ Done w' g2 l) := fun W h hd hx =>
            (end_open (kG W h) g1z hd).mono fun e w' ⟨x, h1, hz, ho⟩ => ⟨x, h1, hz, kc w' (kA W w' h hd.has ho), kA W w' h hd.has ho, hx.other hd.has (by have := HNE.out; omega) ho⟩
          have KB : Hid (∀ W, KeepA w A cap l g3 g4 (strB st) (strsB ss) vv ss W → Done W g2 l → Calls Tryd.prog 56 #[.pointer (some ⟨g2, 0, none⟩)] W fun e w' => e = .returned (.int .i64 0) ∧ (convert 54 9 (.slice A l.length cap)).run Tryd.prog w' = .ok (.string ⟨l.toArray⟩) w' ∧ KeepA w A cap l g3 g4 (strB st) (strsB ss) vv ss w') := fun W h hd =>
            (end_done (kG W h) hd).mono fun e w' ⟨h1, ho⟩ => ⟨h1, kc w' (kB W w' h hd.has ho), kB W w' h hd.has ho⟩
          have KM : Hid (∀ W, KeepA w A cap l g3 g4 (strB st) (strsB ss) vv ss W → Calls Tryd.prog 36 #[.int .i64 m] W fun e w' => ∃ v, e = .returned v ∧ (convert 54 9 v).run Tryd.prog w' = .ok (.string ⟨l.toArray⟩) w' ∧ (convert 54 9 (.slice A l.length cap)).run Tryd.prog w' = .ok (.string ⟨l.toArray⟩) w' ∧ KeepA w A cap l g3 g4 (strB st) (strsB ss) vv ss w') := fun W h =>
            (onum_any m HM.out.1 HM.out.2 W).mono fun e w' ⟨v, h1, h2, h3⟩ => ⟨v, h1, by rw [← he2]; exact own_string h2 (natB_ne _), kc w' (kW W w' h h3), kW W w' h h3⟩
          clear kc kG kA kB kW
          go_wp2_with fail
          refine wp_region_held_drew (S := (fun w' => (convert 54 9 (.slice A l.length cap)).run Tryd.prog w' = .ok (.string ⟨l.toArray⟩) w')) (by kernel_rfl) c1 (fun hHeld => ?_)
          refine wpAnyH_take (i := 0) (v := ?_) rfl (by kernel_rfl) (by kernel_rfl) (by kernel_rfl) (fun _ _ _ h => h) (Or.inl ⟨by rfl, ?_⟩) (by assumption) ?_
          rotate_left 1
          · (intro wq hSw; (try dsimp only at hSw); go_simp; try with_reducible rfl)
          (try dsimp only)
          (try simp only [List.getElem_toArray, List.getElem_cons_succ, List.getElem_cons_zero, Act.put, List.setIfInBounds_toArray, List.set_cons_zero, List.set_cons_succ])
          refine wpAnyH_ready (rs := [1]) (by kernel_rfl) (by simp) ?_
          refine AllReadyH.cons rfl (fun K hK => ?_) AllReadyH.nil
          go_simp
          go_wp2_with ((with_reducible (show Calls _ _ _ _ _)); go_at_call_of 56 (Value.pointer (some ⟨g1, 0, none⟩)); refine (KA.out _ (by assumption) (by assumption) (by assumption)).mono ?_; rintro e wa ⟨xa, rfl, hza, hca, hka, hxa⟩)
          refine hK.out _ _ (by first | assumption | trivial) (fun hHeld => ?_)
          clear hK K
          refine wpAnyH_take (i := 2) (v := ?_) rfl (by kernel_rfl) (by kernel_rfl) (by kernel_rfl) (fun _ _ _ h => h) (Or.inl ⟨by rfl, ?_⟩) (by assumption) ?_
          rotate_left 1
          · (intro wq hSw; (try dsimp only at hSw); go_simp; try with_reducible rfl)
          (try dsimp only)
          (try simp only [List.getElem_toArray, List.getElem_cons_succ, List.getElem_cons_zero, Act.put, List.setIfInBounds_toArray, List.set_cons_zero, List.set_cons_succ])
          refine wpAnyH_take (i := 3) (v := ?_) rfl (by kernel_rfl) (by kernel_rfl) (by kernel_rfl) (fun _ _ _ h => h) (Or.inl ⟨by rfl, ?_⟩) (by assumption) ?_
          rotate_left 1
          · (intro wq hSw; (try dsimp only at hSw); go_simp; try with_reducible rfl)
          (try dsimp only)
          (try simp only [List.getElem_toArray, List.getElem_cons_succ, List.getElem_cons_zero, Act.put, List.setIfInBounds_toArray, List.set_cons_zero, List.set_cons_succ])
          refine wpAnyH_take (i := 4) (v := undef) rfl (by kernel_rfl) (by kernel_rfl) (by kernel_rfl) (fun _ _ _ h => h) (Or.inr ⟨by rfl, rfl⟩) (by assumption) ?_
          (try dsimp only)
          (try simp only [List.getElem_toArray, List.getElem_cons_succ, List.getElem_cons_zero, Act.put, List.setIfInBounds_toArray, List.set_cons_zero, List.set_cons_succ])
          refine wpAnyH_take (i := 7) (v := undef) rfl (by kernel_rfl) (by kernel_rfl) (by kernel_rfl) (fun _ _ _ h => h) (Or.inr ⟨by rfl, rfl⟩) (by assumption) ?_
          (try dsimp only)
          (try simp only [List.getElem_toArray, List.getElem_cons_succ, List.getElem_cons_zero, Act.put, List.setIfInBounds_toArray, List.set_cons_zero, List.set_cons_succ])
          refine wpAnyH_take (i := 5) (v := undef) rfl (by kernel_rfl) (by kernel_rfl) (by kernel_rfl) (fun _ _ _ h => h) (Or.inr ⟨by rfl, rfl⟩) (by assumption) ?_
          (try dsimp only)
          (try simp only [List.getElem_toArray, List.getElem_cons_succ, List.getElem_cons_zero, Act.put, List.setIfInBounds_toArray, List.set_cons_zero, List.set_cons_succ])
          refine wpAnyH_take (i := 8) (v := undef) rfl (by kernel_rfl) (by kernel_rfl) (by kernel_rfl) (fun _ _ _ h => h) (Or.inr ⟨by rfl, rfl⟩) (by assumption) ?_
          (try dsimp only)
          (try simp only [List.getElem_toArray, List.getElem_cons_succ, List.getElem_cons_zero, Act.put, List.setIfInBounds_toArray, List.set_cons_zero, List.set_cons_succ])
          refine wpAnyH_take (i := 6) (v := undef) rfl (by kernel_rfl) (by kernel_rfl) (by kernel_rfl) (fun _ _ _ h => h) (Or.inr ⟨by rfl, rfl⟩) (by assumption) ?_
          (try dsimp only)
          (try simp only [List.getElem_toArray, List.getElem_cons_succ, List.getElem_cons_zero, Act.put, List.setIfInBounds_toArray, List.set_cons_zero, List.set_cons_succ])
          refine wpAnyH_take (i := 9) (v := undef) rfl (by kernel_rfl) (by kernel_rfl) (by kernel_rfl) (fun _ _ _ h => h) (Or.inr ⟨by rfl, rfl⟩) (by assumption) ?_
          (try dsimp only)
          (try simp only [List.getElem_toArray, List.getElem_cons_succ, List.getElem_cons_zero, Act.put, List.setIfInBounds_toArray, List.set_cons_zero, List.set_cons_succ])
          refine wpAnyH_take (i := 10) (v := ?_) rfl (by kernel_rfl) (by kernel_rfl) (by kernel_rfl) (fun _ _ _ h => h) (Or.inl ⟨by rfl, ?_⟩) (by assumption) ?_
          rotate_left 1
          · (intro wq hSw; (try dsimp only at hSw); go_simp; try with_reducible rfl)
          (try dsimp only)
          (try simp only [List.getElem_toArray, List.getElem_cons_succ, List.getElem_cons_zero, Act.put, List.setIfInBounds_toArray, List.set_cons_zero, List.set_cons_succ])
          refine wpAnyH_take (i := 11) (v := ?_) rfl (by kernel_rfl) (by kernel_rfl) (by kernel_rfl) (fun _ _ _ h => h) (Or.inl ⟨by rfl, ?_⟩) (by assumption) ?_
          rotate_left 1
          · (intro wq hSw; (try dsimp only at hSw); go_simp; try with_reducible rfl)
          (try dsimp only)
          (try simp only [List.getElem_toArray, List.getElem_cons_succ, List.getElem_cons_zero, Act.put, List.setIfInBounds_toArray, List.set_cons_zero, List.set_cons_succ])
          refine wpAnyH_take (i := 12) (v := ?_) rfl (by kernel_rfl) (by kernel_rfl) (by kernel_rfl) (fun _ _ _ h => h) (Or.inl ⟨by rfl, ?_⟩) (by assumption) ?_
          rotate_left 1
          · (intro wq hSw; (try dsimp only at hSw); go_simp; try with_reducible rfl)
          (try dsimp only)
          (try simp only [List.getElem_toArray, List.getElem_cons_succ, List.getElem_cons_zero, Act.put, List.setIfInBounds_toArray, List.set_cons_zero, List.set_cons_succ])
          refine wpAnyH_ready (rs := [13]) (by kernel_rfl) (by simp) ?_
          refine AllReadyH.cons rfl (fun K hK => ?_) AllReadyH.nil
          go_simp
          go_wp2_with ((with_reducible (show Calls _ _ _ _ _)); go_at_call_of 56 (Value.pointer (some ⟨g2, 0, none⟩)); refine (KB.out _ (by assumption) (by assumption)).mono ?_; rintro e wb ⟨rfl, hcb, hkb⟩)
          refine hK.out _ _ (by first | assumption | trivial) (fun hHeld => ?_)
          clear hK K
          refine wpAnyH_take (i := 14) (v := ?_) rfl (by kernel_rfl) (by kernel_rfl) (by kernel_rfl) (fun _ _ _ h => h) (Or.inl ⟨by rfl, ?_⟩) (by assumption) ?_
          rotate_left 1
          · (intro wq hSw; (try dsimp only at hSw); go_simp; try with_reducible rfl)
          (try dsimp only)
          (try simp only [List.getElem_toArray, List.getElem_cons_succ, List.getElem_cons_zero, Act.put, List.setIfInBounds_toArray, List.set_cons_zero, List.set_cons_succ])
          refine wpAnyH_take (i := 15) (v := ?_) rfl (by kernel_rfl) (by kernel_rfl) (by kernel_rfl) (fun _ _ _ h => h) (Or.inl ⟨by rfl, ?_⟩) (by assumption) ?_
          rotate_left 1
          · (intro wq hSw; (try dsimp only at hSw); go_simp; try with_reducible rfl)
          (try dsimp only)
          (try simp only [List.getElem_toArray, List.getElem_cons_succ, List.getElem_cons_zero, Act.put, List.setIfInBounds_toArray, List.set_cons_zero, List.set_cons_succ])
          refine wpAnyH_take (i := 16) (v := ?_) rfl (by kernel_rfl) (by kernel_rfl) (by kernel_rfl) (fun _ _ _ h => h) (Or.inl ⟨by rfl, ?_⟩) (by assumption) ?_
          rotate_left 1
          · (intro wq hSw; (try dsimp only at hSw); go_simp; try with_reducible rfl)
          (try dsimp only)
          (try simp only [List.getElem_toArray, List.getElem_cons_succ, List.getElem_cons_zero, Act.put, List.setIfInBounds_toArray, List.set_cons_zero, List.set_cons_succ])
          refine wpAnyH_take (i := 19) (v := ?_) rfl (by kernel_rfl) (by kernel_rfl) (by kernel_rfl) (fun _ _ _ h => h) (Or.inl ⟨by rfl, ?_⟩) (by assumption) ?_
          rotate_left 1
          · (intro wq hSw; (try dsimp only at hSw); go_simp; try with_reducible rfl)
          (try dsimp only)
          (try simp only [List.getElem_toArray, List.getElem_cons_succ, List.getElem_cons_zero, Act.put, List.setIfInBounds_toArray, List.set_cons_zero, List.set_cons_succ])
          refine wpAnyH_take (i := 20) (v := ?_) rfl (by kernel_rfl) (by kernel_rfl) (by kernel_rfl) (fun _ _ _ h => h) (Or.inl ⟨by rfl, ?_⟩) (by assumption) ?_
          rotate_left 1
          · (intro wq hSw; (try dsimp only at hSw); go_simp; try with_reducible rfl)
          (try dsimp only)
          (try simp only [List.getElem_toArray, List.getElem_cons_succ, List.getElem_cons_zero, Act.put, List.setIfInBounds_toArray, List.set_cons_zero, List.set_cons_succ])
          refine wpAnyH_ready (rs := [17]) (by kernel_rfl) (by simp) ?_
          refine AllReadyH.cons rfl (fun K hK => ?_) AllReadyH.nil
          go_simp
          go_wp2_with ((with_reducible (show Calls _ _ _ _ _)); go_at_call 36; refine (KM.out _ (by assumption)).mono ?_; rintro e wm ⟨vm, rfl, hcm, hcm2, hkm⟩)
          refine hK.out _ _ (by first | assumption | trivial) (fun hHeld => ?_)
          clear hK K
          refine wpAnyH_ready (rs := [18]) (by kernel_rfl) (by simp) ?_
          refine AllReadyH.cons rfl (fun K hK => ?_) AllReadyH.nil
          go_simp
          refine hK.out _ _ (by first | assumption | trivial) (fun hHeld => ?_)
          clear hK K
          (try dsimp only)
          (try simp only [List.getElem_toArray, List.getElem_cons_succ, List.getElem_cons_zero, Act.put, List.setIfInBounds_toArray, List.set_cons_zero, List.set_cons_succ])
          refine wpAnyH_take (i := 21) (v := ?_) rfl (by kernel_rfl) (by kernel_rfl) (by kernel_rfl) (fun _ _ _ h => h) (Or.inl ⟨by rfl, ?_⟩) (by assumption) ?_
          rotate_left 1
          · (intro wq hSw; (try dsimp only at hSw); go_simp; try with_reducible rfl)
          (try dsimp only)
          (try simp only [List.getElem_toArray, List.getElem_cons_succ, List.getElem_cons_zero, Act.put, List.setIfInBounds_toArray, List.set_cons_zero, List.set_cons_succ])
          refine wpAnyH_take (i := 22) (v := ?_) rfl (by kernel_rfl) (by kernel_rfl) (by kernel_rfl) (fun _ _ _ h => h) (Or.inl ⟨by rfl, ?_⟩) (by assumption) ?_
          rotate_left 1
          · (intro wq hSw; (try dsimp only at hSw); go_simp; try with_reducible rfl)
          (try dsimp only)
          (try simp only [List.getElem_toArray, List.getElem_cons_succ, List.getElem_cons_zero, Act.put, List.setIfInBounds_toArray, List.set_cons_zero, List.set_cons_succ])
          refine wpAnyH_take (i := 23) (v := ?_) rfl (by kernel_rfl) (by kernel_rfl) (by kernel_rfl) (fun _ _ _ h => h) (Or.inl ⟨by rfl, ?_⟩) (by assumption) ?_
          rotate_left 1
          · (intro wq hSw; (try dsimp only at hSw); go_simp; try with_reducible rfl)
          (try dsimp only)
          (try simp only [List.getElem_toArray, List.getElem_cons_succ, List.getElem_cons_zero, Act.put, List.setIfInBounds_toArray, List.set_cons_zero, List.set_cons_succ])
          refine wpAnyH_done (by kernel_rfl) ?_ _
          go_wp2_with fail
          go_meet
          exact ⟨rfl, by assumption⟩
        · have d0 := hd1
          have d1 := hd1.below (Below.refl w8.heap.size w8).drew
          have x0 := hd2
          have x1 := hd2.below (Below.refl w8.heap.size w8).drew
          have KA : Hid (∀ W, KeepA w A cap l g3 g4 (strB st) (strsB ss) vv ss W → Opn W g1 l → Opn W g2 l → Calls Tryd.prog 56 #[.pointer (some ⟨g1, 0, none⟩)] W fun e w' => ∃ x : Int, e = .returned (.int .i64 x) ∧ (x == 0) = false ∧ (convert 54 9 (.slice A l.length cap)).run Tryd.prog w' = .ok (.string ⟨l.toArray⟩) w' ∧ KeepA w A cap l g3 g4 (strB st) (strsB ss) vv ss w' ∧ Opn w' g2 l) := fun W h hd hx =>
            (end_open (kG W h) g1z hd).mono fun e w' ⟨x, h1, hz, ho⟩ => ⟨x, h1, hz, kc w' (kA W w' h hd.has ho), kA W w' h hd.has ho, hx.other hd.has (by have := HNE.out; omega) ho⟩
          have KB : Hid (∀ W, KeepA w A cap l g3 g4 (strB st) (strsB ss) vv ss W → Opn W g2 l → Calls Tryd.prog 56 #[.pointer (some ⟨g2, 0, none⟩)] W fun e w' => ∃ x : Int, e = .returned (.int .i64 x) ∧ (x == 0) = false ∧ (convert 54 9 (.slice A l.length cap)).run Tryd.prog w' = .ok (.string ⟨l.toArray⟩) w' ∧ KeepA w A cap l g3 g4 (strB st) (strsB ss) vv ss w') := fun W h hd =>
            (end_open (kG W h) g2z hd).mono fun e w' ⟨x, h1, hz, ho⟩ => ⟨x, h1, hz, kc w' (kB W w' h hd.has ho), kB W w' h hd.has ho⟩
          clear kc kG kA kB kW
          go_wp2_with fail
          refine wp_region_held_drew (S := (fun w' => (convert 54 9 (.slice A l.length cap)).run Tryd.prog w' = .ok (.string ⟨l.toArray⟩) w')) (by kernel_rfl) c1 (fun hHeld => ?_)
          refine wpAnyH_take (i := 0) (v := ?_) rfl (by kernel_rfl) (by kernel_rfl) (by kernel_rfl) (fun _ _ _ h => h) (Or.inl ⟨by rfl, ?_⟩) (by assumption) ?_
          rotate_left 1
          · (intro wq hSw; (try dsimp only at hSw); go_simp; try with_reducible rfl)
          (try dsimp only)
          (try simp only [List.getElem_toArray, List.getElem_cons_succ, List.getElem_cons_zero, Act.put, List.setIfInBounds_toArray, List.set_cons_zero, List.set_cons_succ])
          refine wpAnyH_ready (rs := [1]) (by kernel_rfl) (by simp) ?_
          refine AllReadyH.cons rfl (fun K hK => ?_) AllReadyH.nil
          go_simp
          go_wp2_with ((with_reducible (show Calls _ _ _ _ _)); go_at_call_of 56 (Value.pointer (some ⟨g1, 0, none⟩)); refine (KA.out _ (by assumption) (by assumption) (by assumption)).mono ?_; rintro e wa ⟨xa, rfl, hza, hca, hka, hxa⟩)
          refine hK.out _ _ (by first | assumption | trivial) (fun hHeld => ?_)
          clear hK K
          refine wpAnyH_take (i := 2) (v := ?_) rfl (by kernel_rfl) (by kernel_rfl) (by kernel_rfl) (fun _ _ _ h => h) (Or.inl ⟨by rfl, ?_⟩) (by assumption) ?_
          rotate_left 1
          · (intro wq hSw; (try dsimp only at hSw); go_simp; try with_reducible rfl)
          (try dsimp only)
          (try simp only [List.getElem_toArray, List.getElem_cons_succ, List.getElem_cons_zero, Act.put, List.setIfInBounds_toArray, List.set_cons_zero, List.set_cons_succ])
          refine wpAnyH_take (i := 3) (v := ?_) rfl (by kernel_rfl) (by kernel_rfl) (by kernel_rfl) (fun _ _ _ h => h) (Or.inl ⟨by rfl, ?_⟩) (by assumption) ?_
          rotate_left 1
          · (intro wq hSw; (try dsimp only at hSw); go_simp; try with_reducible rfl)
          (try dsimp only)
          (try simp only [List.getElem_toArray, List.getElem_cons_succ, List.getElem_cons_zero, Act.put, List.setIfInBounds_toArray, List.set_cons_zero, List.set_cons_succ])
          refine wpAnyH_take (i := 4) (v := undef) rfl (by kernel_rfl) (by kernel_rfl) (by kernel_rfl) (fun _ _ _ h => h) (Or.inr ⟨by rfl, rfl⟩) (by assumption) ?_
          (try dsimp only)
          (try simp only [List.getElem_toArray, List.getElem_cons_succ, List.getElem_cons_zero, Act.put, List.setIfInBounds_toArray, List.set_cons_zero, List.set_cons_succ])
          refine wpAnyH_take (i := 7) (v := undef) rfl (by kernel_rfl) (by kernel_rfl) (by kernel_rfl) (fun _ _ _ h => h) (Or.inr ⟨by rfl, rfl⟩) (by assumption) ?_
          (try dsimp only)
          (try simp only [List.getElem_toArray, List.getElem_cons_succ, List.getElem_cons_zero, Act.put, List.setIfInBounds_toArray, List.set_cons_zero, List.set_cons_succ])
          refine wpAnyH_take (i := 5) (v := undef) rfl (by kernel_rfl) (by kernel_rfl) (by kernel_rfl) (fun _ _ _ h => h) (Or.inr ⟨by rfl, rfl⟩) (by assumption) ?_
          (try dsimp only)
          (try simp only [List.getElem_toArray, List.getElem_cons_succ, List.getElem_cons_zero, Act.put, List.setIfInBounds_toArray, List.set_cons_zero, List.set_cons_succ])
          refine wpAnyH_take (i := 8) (v := undef) rfl (by kernel_rfl) (by kernel_rfl) (by kernel_rfl) (fun _ _ _ h => h) (Or.inr ⟨by rfl, rfl⟩) (by assumption) ?_
          (try dsimp only)
          (try simp only [List.getElem_toArray, List.getElem_cons_succ, List.getElem_cons_zero, Act.put, List.setIfInBounds_toArray, List.set_cons_zero, List.set_cons_succ])
          refine wpAnyH_take (i := 6) (v := undef) rfl (by kernel_rfl) (by kernel_rfl) (by kernel_rfl) (fun _ _ _ h => h) (Or.inr ⟨by rfl, rfl⟩) (by assumption) ?_
          (try dsimp only)
          (try simp only [List.getElem_toArray, List.getElem_cons_succ, List.getElem_cons_zero, Act.put, List.setIfInBounds_toArray, List.set_cons_zero, List.set_cons_succ])
          refine wpAnyH_take (i := 9) (v := undef) rfl (by kernel_rfl) (by kernel_rfl) (by kernel_rfl) (fun _ _ _ h => h) (Or.inr ⟨by rfl, rfl⟩) (by assumption) ?_
          (try dsimp only)
          (try simp only [List.getElem_toArray, List.getElem_cons_succ, List.getElem_cons_zero, Act.put, List.setIfInBounds_toArray, List.set_cons_zero, List.set_cons_succ])
          refine wpAnyH_take (i := 10) (v := ?_) rfl (by kernel_rfl) (by kernel_rfl) (by kernel_rfl) (fun _ _ _ h => h) (Or.inl ⟨by rfl, ?_⟩) (by assumption) ?_
          rotate_left 1
          · (intro wq hSw; (try dsimp only at hSw); go_simp; try with_reducible rfl)
          (try dsimp only)
          (try simp only [List.getElem_toArray, List.getElem_cons_succ, List.getElem_cons_zero, Act.put, List.setIfInBounds_toArray, List.set_cons_zero, List.set_cons_succ])
          refine wpAnyH_take (i := 11) (v := ?_) rfl (by kernel_rfl) (by kernel_rfl) (by kernel_rfl) (fun _ _ _ h => h) (Or.inl ⟨by rfl, ?_⟩) (by assumption) ?_
          rotate_left 1
          · (intro wq hSw; (try dsimp only at hSw); go_simp; try with_reducible rfl)
          (try dsimp only)
          (try simp only [List.getElem_toArray, List.getElem_cons_succ, List.getElem_cons_zero, Act.put, List.setIfInBounds_toArray, List.set_cons_zero, List.set_cons_succ])
          refine wpAnyH_take (i := 12) (v := ?_) rfl (by kernel_rfl) (by kernel_rfl) (by kernel_rfl) (fun _ _ _ h => h) (Or.inl ⟨by rfl, ?_⟩) (by assumption) ?_
          rotate_left 1
          · (intro wq hSw; (try dsimp only at hSw); go_simp; try with_reducible rfl)
          (try dsimp only)
          (try simp only [List.getElem_toArray, List.getElem_cons_succ, List.getElem_cons_zero, Act.put, List.setIfInBounds_toArray, List.set_cons_zero, List.set_cons_succ])
          refine wpAnyH_ready (rs := [13]) (by kernel_rfl) (by simp) ?_
          refine AllReadyH.cons rfl (fun K hK => ?_) AllReadyH.nil
          go_simp
          go_wp2_with ((with_reducible (show Calls _ _ _ _ _)); go_at_call_of 56 (Value.pointer (some ⟨g2, 0, none⟩)); refine (KB.out _ (by assumption) (by assumption)).mono ?_; rintro e wb ⟨xb, rfl, hzb, hcb, hkb⟩)
          refine hK.out _ _ (by first | assumption | trivial) (fun hHeld => ?_)
          clear hK K
          refine wpAnyH_take (i := 14) (v := ?_) rfl (by kernel_rfl) (by kernel_rfl) (by kernel_rfl) (fun _ _ _ h => h) (Or.inl ⟨by rfl, ?_⟩) (by assumption) ?_
          rotate_left 1
          · (intro wq hSw; (try dsimp only at hSw); go_simp; try with_reducible rfl)
          (try dsimp only)
          (try simp only [List.getElem_toArray, List.getElem_cons_succ, List.getElem_cons_zero, Act.put, List.setIfInBounds_toArray, List.set_cons_zero, List.set_cons_succ])
          refine wpAnyH_take (i := 15) (v := ?_) rfl (by kernel_rfl) (by kernel_rfl) (by kernel_rfl) (fun _ _ _ h => h) (Or.inl ⟨by rfl, ?_⟩) (by assumption) ?_
          rotate_left 1
          · (intro wq hSw; (try dsimp only at hSw); go_simp; try with_reducible rfl)
          (try dsimp only)
          (try simp only [List.getElem_toArray, List.getElem_cons_succ, List.getElem_cons_zero, Act.put, List.setIfInBounds_toArray, List.set_cons_zero, List.set_cons_succ])
          refine wpAnyH_take (i := 16) (v := undef) rfl (by kernel_rfl) (by kernel_rfl) (by kernel_rfl) (fun _ _ _ h => h) (Or.inr ⟨by rfl, rfl⟩) (by assumption) ?_
          (try dsimp only)
          (try simp only [List.getElem_toArray, List.getElem_cons_succ, List.getElem_cons_zero, Act.put, List.setIfInBounds_toArray, List.set_cons_zero, List.set_cons_succ])
          refine wpAnyH_take (i := 19) (v := undef) rfl (by kernel_rfl) (by kernel_rfl) (by kernel_rfl) (fun _ _ _ h => h) (Or.inr ⟨by rfl, rfl⟩) (by assumption) ?_
          (try dsimp only)
          (try simp only [List.getElem_toArray, List.getElem_cons_succ, List.getElem_cons_zero, Act.put, List.setIfInBounds_toArray, List.set_cons_zero, List.set_cons_succ])
          refine wpAnyH_take (i := 17) (v := undef) rfl (by kernel_rfl) (by kernel_rfl) (by kernel_rfl) (fun _ _ _ h => h) (Or.inr ⟨by rfl, rfl⟩) (by assumption) ?_
          (try dsimp only)
          (try simp only [List.getElem_toArray, List.getElem_cons_succ, List.getElem_cons_zero, Act.put, List.setIfInBounds_toArray, List.set_cons_zero, List.set_cons_succ])
          refine wpAnyH_take (i := 20) (v := undef) rfl (by kernel_rfl) (by kernel_rfl) (by kernel_rfl) (fun _ _ _ h => h) (Or.inr ⟨by rfl, rfl⟩) (by assumption) ?_
          (try dsimp only)
          (try simp only [List.getElem_toArray, List.getElem_cons_succ, List.getElem_cons_zero, Act.put, List.setIfInBounds_toArray, List.set_cons_zero, List.set_cons_succ])
          refine wpAnyH_take (i := 18) (v := undef) rfl (by kernel_rfl) (by kernel_rfl) (by kernel_rfl) (fun _ _ _ h => h) (Or.inr ⟨by rfl, rfl⟩) (by assumption) ?_
          (try dsimp only)
          (try simp only [List.getElem_toArray, List.getElem_cons_succ, List.getElem_cons_zero, Act.put, List.setIfInBounds_toArray, List.set_cons_zero, List.set_cons_succ])
          refine wpAnyH_take (i := 21) (v := undef) rfl (by kernel_rfl) (by kernel_rfl) (by kernel_rfl) (fun _ _ _ h => h) (Or.inr ⟨by rfl, rfl⟩) (by assumption) ?_
          (try dsimp only)
          (try simp only [List.getElem_toArray, List.getElem_cons_succ, List.getElem_cons_zero, Act.put, List.setIfInBounds_toArray, List.set_cons_zero, List.set_cons_succ])
          refine wpAnyH_take (i := 22) (v := ?_) rfl (by kernel_rfl) (by kernel_rfl) (by kernel_rfl) (fun _ _ _ h => h) (Or.inl ⟨by rfl, ?_⟩) (by assumption) ?_
          rotate_left 1
          · (intro wq hSw; (try dsimp only at hSw); go_simp; try with_reducible rfl)
          (try dsimp only)
          (try simp only [List.getElem_toArray, List.getElem_cons_succ, List.getElem_cons_zero, Act.put, List.setIfInBounds_toArray, List.set_cons_zero, List.set_cons_succ])
          refine wpAnyH_take (i := 23) (v := ?_) rfl (by kernel_rfl) (by kernel_rfl) (by kernel_rfl) (fun _ _ _ h => h) (Or.inl ⟨by rfl, ?_⟩) (by assumption) ?_
          rotate_left 1
          · (intro wq hSw; (try dsimp only at hSw); go_simp; try with_reducible rfl)
          (try dsimp only)
          (try simp only [List.getElem_toArray, List.getElem_cons_succ, List.getElem_cons_zero, Act.put, List.setIfInBounds_toArray, List.set_cons_zero, List.set_cons_succ])
          refine wpAnyH_done (by kernel_rfl) ?_ _
          go_wp2_with fail
          go_meet
          exact ⟨rfl, by assumption⟩
    case rest =>
      obtain ⟨rfl, hk⟩ := hcut
      have HS3' := Lib.hid hk.2.1
      have HS4' := Lib.hid hk.2.2.1
      have K0 : Hid (KeepB w A cap l vv ss wc) := ⟨hk.1, hk.2.2.2.1, hk.2.2.2.2⟩
      have HSL : Hid (TxtIs wc vv ss) := hk.2.2.2.1
      clear hk
      go_upto_region 7 with fail
      go_cut [79] (fun b wx => b = .bool false ∧ Below w.heap.size w wx)
      case first =>
        have kc : ∀ W, KeepB w A cap l vv ss W → (convert 54 9 (.slice A l.length cap)).run Tryd.prog W = .ok (.string ⟨l.toArray⟩) W := fun W h => h.2.2
        have kG : ∀ W, KeepB w A cap l vv ss W → Glob W := fun W h => HG.out.below h.1
        have kA : ∀ W W', KeepB w A cap l vv ss W → Has W g3 → Only g3 W W' → KeepB w A cap l vv ss W' := fun W W' h hh ho => KeepB.only HB.out h hh (by have := HNE.out; omega) ho
        have kB : ∀ W W', KeepB w A cap l vv ss W → Has W g4 → Only g4 W W' → KeepB w A cap l vv ss W' := fun W W' h hh ho => KeepB.only HB.out h hh (by have := HNE.out; omega) ho
        have kW : ∀ W W', KeepB w A cap l vv ss W → Below W.heap.size W W' → KeepB w A cap l vv ss W' := fun W W' h ho => KeepB.below HB.out h ho
        have g1z : g3 ≠ 0 := by have := HNE.out; have := HPOS.out; omega
        have g2z : g4 ≠ 0 := by have := HNE.out; have := HPOS.out; omega
        have k0 := K0.out
        have k1 := kW _ _ k0 (Below.refl wc.heap.size wc).drew
        have c0 := kc _ k0
        have c1 := kc _ k1
        rcases HS3'.out.cases with ⟨hd1, he1⟩ | hd1
        · rcases HS4'.out.cases with ⟨hd2, he2⟩ | hd2
          · have d0 := hd1
            have d1 := hd1.below (Below.refl wc.heap.size wc).drew
            have x0 := hd2
            have x1 := hd2.below (Below.refl wc.heap.size wc).drew
            have KA : Hid (∀ W, KeepB w A cap l vv ss W → Done W g3 l → Done W g4 l → Calls Tryd.prog 56 #[.pointer (some ⟨g3, 0, none⟩)] W fun e w' => e = .returned (.int .i64 0) ∧ (convert 54 9 (.slice A l.length cap)).run Tryd.prog w' = .ok (.string ⟨l.toArray⟩) w' ∧ KeepB w A cap l vv ss w' ∧ Done w' g4 l) := fun W h hd hx =>
              (end_done (kG W h) hd).mono fun e w' ⟨h1, ho⟩ => ⟨h1, kc w' (kA W w' h hd.has ho), kA W w' h hd.has ho, hx.other hd.has (by have := HNE.out; omega) ho⟩
            have KN : Hid (∀ W, KeepB w A cap l vv ss W → Done W g4 l → Calls Tryd.prog 37 #[.string st] W fun e w' => ∃ v, e = .returned v ∧ (convert 54 9 v).run Tryd.prog w' = .ok (.string ⟨l.toArray⟩) w' ∧ (convert 54 9 (.slice A l.length cap)).run Tryd.prog w' = .ok (.string ⟨l.toArray⟩) w' ∧ KeepB w A cap l vv ss w' ∧ Done w' g4 l) := fun W h hx =>
              (ostr_any st (by have := HST.out; omega) W).mono fun e w' ⟨v, h1, h2, h3⟩ => ⟨v, h1, by rw [← he1]; exact own_string h2 (strB_ne _), kc w' (kW W w' h h3), kW W w' h h3, hx.below h3⟩
            have KB : Hid (∀ W, KeepB w A cap l vv ss W → Done W g4 l → Calls Tryd.prog 56 #[.pointer (some ⟨g4, 0, none⟩)] W fun e w' => e = .returned (.int .i64 0) ∧ (convert 54 9 (.slice A l.length cap)).run Tryd.prog w' = .ok (.string ⟨l.toArray⟩) w' ∧ KeepB w A cap l vv ss w') := fun W h hd =>
              (end_done (kG W h) hd).mono fun e w' ⟨h1, ho⟩ => ⟨h1, kc w' (kB W w' h hd.has ho), kB W w' h hd.has ho⟩
            have KM : Hid (∀ W, KeepB w A cap l vv ss W → Calls Tryd.prog 39 #[vv] W fun e w' => ∃ v, e = .returned v ∧ (convert 54 9 v).run Tryd.prog w' = .ok (.string ⟨l.toArray⟩) w' ∧ (convert 54 9 (.slice A l.length cap)).run Tryd.prog w' = .ok (.string ⟨l.toArray⟩) w' ∧ KeepB w A cap l vv ss w') := fun W h =>
              (ostrs_big h.2.1 HSS.out.1 HSS.out.2).mono fun e w' ⟨v, h1, h2, h3⟩ => ⟨v, h1, by rw [← he2]; exact own_string h2 (strsB_ne _), kc w' (kW W w' h h3), kW W w' h h3⟩
            clear kc kG kA kB kW
            go_wp2_with fail
            refine wp_region_held_drew (S := (fun w' => (convert 54 9 (.slice A l.length cap)).run Tryd.prog w' = .ok (.string ⟨l.toArray⟩) w')) (by kernel_rfl) c1 (fun hHeld => ?_)
            refine wpAnyH_take (i := 0) (v := ?_) rfl (by kernel_rfl) (by kernel_rfl) (by kernel_rfl) (fun _ _ _ h => h) (Or.inl ⟨by rfl, ?_⟩) (by assumption) ?_
            rotate_left 1
            · (intro wq hSw; (try dsimp only at hSw); go_simp; try with_reducible rfl)
            (try dsimp only)
            (try simp only [List.getElem_toArray, List.getElem_cons_succ, List.getElem_cons_zero, Act.put, List.setIfInBounds_toArray, List.set_cons_zero, List.set_cons_succ])
            refine wpAnyH_ready (rs := [1]) (by kernel_rfl) (by simp) ?_
            refine AllReadyH.cons rfl (fun K hK => ?_) AllReadyH.nil
            go_simp
            go_wp2_with ((with_reducible (show Calls _ _ _ _ _)); go_at_call_of 56 (Value.pointer (some ⟨g3, 0, none⟩)); refine (KA.out _ (by assumption) (by assumption) (by assumption)).mono ?_; rintro e wa ⟨rfl, hca, hka, hxa⟩)
            refine hK.out _ _ (by first | assumption | trivial) (fun hHeld => ?_)
            clear hK K
            refine wpAnyH_take (i := 2) (v := ?_) rfl (by kernel_rfl) (by kernel_rfl) (by kernel_rfl) (fun _ _ _ h => h) (Or.inl ⟨by rfl, ?_⟩) (by assumption) ?_
            rotate_left 1
            · (intro wq hSw; (try dsimp only at hSw); go_simp; try with_reducible rfl)
            (try dsimp only)
            (try simp only [List.getElem_toArray, List.getElem_cons_succ, List.getElem_cons_zero, Act.put, List.setIfInBounds_toArray, List.set_cons_zero, List.set_cons_succ])
            refine wpAnyH_take (i := 3) (v := ?_) rfl (by kernel_rfl) (by kernel_rfl) (by kernel_rfl) (fun _ _ _ h => h) (Or.inl ⟨by rfl, ?_⟩) (by assumption) ?_
            rotate_left 1
            · (intro wq hSw; (try dsimp only at hSw); go_simp; try with_reducible rfl)
            (try dsimp only)
            (try simp only [List.getElem_toArray, List.getElem_cons_succ, List.getElem_cons_zero, Act.put, List.setIfInBounds_toArray, List.set_cons_zero, List.set_cons_succ])
            refine wpAnyH_take (i := 4) (v := ?_) rfl (by kernel_rfl) (by kernel_rfl) (by kernel_rfl) (fun _ _ _ h => h) (Or.inl ⟨by rfl, ?_⟩) (by assumption) ?_
            rotate_left 1
            · (intro wq hSw; (try dsimp only at hSw); go_simp; try with_reducible rfl)
            (try dsimp only)
            (try simp only [List.getElem_toArray, List.getElem_cons_succ, List.getElem_cons_zero, Act.put, List.setIfInBounds_toArray, List.set_cons_zero, List.set_cons_succ])
            refine wpAnyH_take (i := 7) (v := ?_) rfl (by kernel_rfl) (by kernel_rfl) (by kernel_rfl) (fun _ _ _ h => h) (Or.inl ⟨by rfl, ?_⟩) (by assumption) ?_
            rotate_left 1
            · (intro wq hSw; (try dsimp only at hSw); go_simp; try with_reducible rfl)
            (try dsimp only)
            (try simp only [List.getElem_toArray, List.getElem_cons_succ, List.getElem_cons_zero, Act.put, List.setIfInBounds_toArray, List.set_cons_zero, List.set_cons_succ])
            refine wpAnyH_take (i := 8) (v := ?_) rfl (by kernel_rfl) (by kernel_rfl) (by kernel_rfl) (fun _ _ _ h => h) (Or.inl ⟨by rfl, ?_⟩) (by assumption) ?_
            rotate_left 1
            · (intro wq hSw; (try dsimp only at hSw); go_simp; try with_reducible rfl)
            (try dsimp only)
            (try simp only [List.getElem_toArray, List.getElem_cons_succ, List.getElem_cons_zero, Act.put, List.setIfInBounds_toArray, List.set_cons_zero, List.set_cons_succ])
            refine wpAnyH_ready (rs := [5]) (by kernel_rfl) (by simp) ?_
            refine AllReadyH.cons rfl (fun K hK => ?_) AllReadyH.nil
            go_simp
            go_wp2_with ((with_reducible (show Calls _ _ _ _ _)); go_at_call 37; refine (KN.out _ (by assumption) (by assumption)).mono ?_; rintro e wn ⟨vn, rfl, hcn, hcn2, hkn, hxn⟩)
            refine hK.out _ _ (by first | assumption | trivial) (fun hHeld => ?_)
            clear hK K
            refine wpAnyH_ready (rs := [6]) (by kernel_rfl) (by simp) ?_
            refine AllReadyH.cons rfl (fun K hK => ?_) AllReadyH.nil
            go_simp
            refine hK.out _ _ (by first | assumption | trivial) (fun hHeld => ?_)
            clear hK K
            (try dsimp only)
            (try simp only [List.getElem_toArray, List.getElem_cons_succ, List.getElem_cons_zero, Act.put, List.setIfInBounds_toArray, List.set_cons_zero, List.set_cons_succ])
            refine wpAnyH_take (i := 9) (v := ?_) rfl (by kernel_rfl) (by kernel_rfl) (by kernel_rfl) (fun _ _ _ h => h) (Or.inl ⟨by rfl, ?_⟩) (by assumption) ?_
            rotate_left 1
            · (intro wq hSw; (try dsimp only at hSw); go_simp; try with_reducible rfl)
            (try dsimp only)
            (try simp only [List.getElem_toArray, List.getElem_cons_succ, List.getElem_cons_zero, Act.put, List.setIfInBounds_toArray, List.set_cons_zero, List.set_cons_succ])
            refine wpAnyH_take (i := 10) (v := ?_) rfl (by kernel_rfl) (by kernel_rfl) (by kernel_rfl) (fun _ _ _ h => h) (Or.inl ⟨by rfl, ?_⟩) (by assumption) ?_
            rotate_left 1
            · (intro wq hSw; (try dsimp only at hSw); go_simp; try with_reducible rfl)
            (try dsimp only)
            (try simp only [List.getElem_toArray, List.getElem_cons_succ, List.getElem_cons_zero, Act.put, List.setIfInBounds_toArray, List.set_cons_zero, List.set_cons_succ])
            refine wpAnyH_take (i := 11) (v := ?_) rfl (by kernel_rfl) (by kernel_rfl) (by kernel_rfl) (fun _ _ _ h => h) (Or.inl ⟨by rfl, ?_⟩) (by assumption) ?_
            rotate_left 1
            · (intro wq hSw; (try dsimp only at hSw); go_simp; try with_reducible rfl)
            (try dsimp only)
            (try simp only [List.getElem_toArray, List.getElem_cons_succ, List.getElem_cons_zero, Act.put, List.setIfInBounds_toArray, List.set_cons_zero, List.set_cons_succ])
            refine wpAnyH_take (i := 12) (v := ?_) rfl (by kernel_rfl) (by kernel_rfl) (by kernel_rfl) (fun _ _ _ h => h) (Or.inl ⟨by rfl, ?_⟩) (by assumption) ?_
            rotate_left 1
            · (intro wq hSw; (try dsimp only at hSw); go_simp; try with_reducible rfl)
            (try dsimp only)
            (try simp only [List.getElem_toArray, List.getElem_cons_succ, List.getElem_cons_zero, Act.put, List.setIfInBounds_toArray, List.set_cons_zero, List.set_cons_succ])
            refine wpAnyH_ready (rs := [13]) (by kernel_rfl) (by simp) ?_
            refine AllReadyH.cons rfl (fun K hK => ?_) AllReadyH.nil
            go_simp
            go_wp2_with ((with_reducible (show Calls _ _ _ _ _)); go_at_call_of 56 (Value.pointer (some ⟨g4, 0, none⟩)); refine (KB.out _ (by assumption) (by assumption)).mono ?_; rintro e wb ⟨rfl, hcb, hkb⟩)
            refine hK.out _ _ (by first | assumption | trivial) (fun hHeld => ?_)
            clear hK K
            refine wpAnyH_take (i := 14) (v := ?_) rfl (by kernel_rfl) (by kernel_rfl) (by kernel_rfl) (fun _ _ _ h => h) (Or.inl ⟨by rfl, ?_⟩) (by assumption) ?_
            rotate_left 1
            · (intro wq hSw; (try dsimp only at hSw); go_simp; try with_reducible rfl)
            (try dsimp only)
            (try simp only [List.getElem_toArray, List.getElem_cons_succ, List.getElem_cons_zero, Act.put, List.setIfInBounds_toArray, List.set_cons_zero, List.set_cons_succ])
            refine wpAnyH_take (i := 15) (v := ?_) rfl (by kernel_rfl) (by kernel_rfl) (by kernel_rfl) (fun _ _ _ h => h) (Or.inl ⟨by rfl, ?_⟩) (by assumption) ?_
            rotate_left 1
            · (intro wq hSw; (try dsimp only at hSw); go_simp; try with_reducible rfl)
            (try dsimp only)
            (try simp only [List.getElem_toArray, List.getElem_cons_succ, List.getElem_cons_zero, Act.put, List.setIfInBounds_toArray, List.set_cons_zero, List.set_cons_succ])
            refine wpAnyH_take (i := 16) (v := ?_) rfl (by kernel_rfl) (by kernel_rfl) (by kernel_rfl) (fun _ _ _ h => h) (Or.inl ⟨by rfl, ?_⟩) (by assumption) ?_
            rotate_left 1
            · (intro wq hSw; (try dsimp only at hSw); go_simp; try with_reducible rfl)
            (try dsimp only)
            (try simp only [List.getElem_toArray, List.getElem_cons_succ, List.getElem_cons_zero, Act.put, List.setIfInBounds_toArray, List.set_cons_zero, List.set_cons_succ])
            refine wpAnyH_take (i := 19) (v := ?_) rfl (by kernel_rfl) (by kernel_rfl) (by kernel_rfl) (fun _ _ _ h => h) (Or.inl ⟨by rfl, ?_⟩) (by assumption) ?_
            rotate_left 1
            · (intro wq hSw; (try dsimp only at hSw); go_simp; try with_reducible rfl)
            (try dsimp only)
            (try simp only [List.getElem_toArray, List.getElem_cons_succ, List.getElem_cons_zero, Act.put, List.setIfInBounds_toArray, List.set_cons_zero, List.set_cons_succ])
            refine wpAnyH_take (i := 20) (v := ?_) rfl (by kernel_rfl) (by kernel_rfl) (by kernel_rfl) (fun _ _ _ h => h) (Or.inl ⟨by rfl, ?_⟩) (by assumption) ?_
            rotate_left 1
            · (intro wq hSw; (try dsimp only at hSw); go_simp; try with_reducible rfl)
            (try dsimp only)
            (try simp only [List.getElem_toArray, List.getElem_cons_succ, List.getElem_cons_zero, Act.put, List.setIfInBounds_toArray, List.set_cons_zero, List.set_cons_succ])
            refine wpAnyH_ready (rs := [17]) (by kernel_rfl) (by simp) ?_
            refine AllReadyH.cons rfl (fun K hK => ?_) AllReadyH.nil
            go_simp
            go_wp2_with ((with_reducible (show Calls _ _ _ _ _)); go_at_call 39; refine (KM.out _ (by assumption)).mono ?_; rintro e wm ⟨vm, rfl, hcm, hcm2, hkm⟩)
            refine hK.out _ _ (by first | assumption | trivial) (fun hHeld => ?_)
            clear hK K
            refine wpAnyH_ready (rs := [18]) (by kernel_rfl) (by simp) ?_
            refine AllReadyH.cons rfl (fun K hK => ?_) AllReadyH.nil
            go_simp
            refine hK.out _ _ (by first | assumption | trivial) (fun hHeld => ?_)
            clear hK K
            (try dsimp only)
            (try simp only [List.getElem_toArray, List.getElem_cons_succ, List.getElem_cons_zero, Act.put, List.setIfInBounds_toArray, List.set_cons_zero, List.set_cons_succ])
            refine wpAnyH_take (i := 21) (v := ?_) rfl (by kernel_rfl) (by kernel_rfl) (by kernel_rfl) (fun _ _ _ h => h) (Or.inl ⟨by rfl, ?_⟩) (by assumption) ?_
            rotate_left 1
            · (intro wq hSw; (try dsimp only at hSw); go_simp; try with_reducible rfl)
            (try dsimp only)
            (try simp only [List.getElem_toArray, List.getElem_cons_succ, List.getElem_cons_zero, Act.put, List.setIfInBounds_toArray, List.set_cons_zero, List.set_cons_succ])
            refine wpAnyH_take (i := 22) (v := ?_) rfl (by kernel_rfl) (by kernel_rfl) (by kernel_rfl) (fun _ _ _ h => h) (Or.inl ⟨by rfl, ?_⟩) (by assumption) ?_
            rotate_left 1
            · (intro wq hSw; (try dsimp only at hSw); go_simp; try with_reducible rfl)
            (try dsimp only)
            (try simp only [List.getElem_toArray, List.getElem_cons_succ, List.getElem_cons_zero, Act.put, List.setIfInBounds_toArray, List.set_cons_zero, List.set_cons_succ])
            refine wpAnyH_take (i := 23) (v := ?_) rfl (by kernel_rfl) (by kernel_rfl) (by kernel_rfl) (fun _ _ _ h => h) (Or.inl ⟨by rfl, ?_⟩) (by assumption) ?_
            rotate_left 1
            · (intro wq hSw; (try dsimp only at hSw); go_simp; try with_reducible rfl)
            (try dsimp only)
            (try simp only [List.getElem_toArray, List.getElem_cons_succ, List.getElem_cons_zero, Act.put, List.setIfInBounds_toArray, List.set_cons_zero, List.set_cons_succ])
            refine wpAnyH_done (by kernel_rfl) ?_ _
            go_wp2_with fail
            go_meet
            refine ⟨rfl, And.left (b := _) (show KeepB w A cap l vv ss _ from by assumption)⟩
          · have d0 := hd1
            have d1 := hd1.below (Below.refl wc.heap.size wc).drew
            have x0 := hd2
            have x1 := hd2.below (Below.refl wc.heap.size wc).drew
            have KA : Hid (∀ W, KeepB w A cap l vv ss W → Done W g3 l → Opn W g4 l → Calls Tryd.prog 56 #[.pointer (some ⟨g3, 0, none⟩)] W fun e w' => e = .returned (.int .i64 0) ∧ (convert 54 9 (.slice A l.length cap)).run Tryd.prog w' = .ok (.string ⟨l.toArray⟩) w' ∧ KeepB w A cap l vv ss w' ∧ Opn w' g4 l) := fun W h hd hx =>
              (end_done (kG W h) hd).mono fun e w' ⟨h1, ho⟩ => ⟨h1, kc w' (kA W w' h hd.has ho), kA W w' h hd.has ho, hx.other hd.has (by have := HNE.out; omega) ho⟩
            have KN : Hid (∀ W, KeepB w A cap l vv ss W → Opn W g4 l → Calls Tryd.prog 37 #[.string st] W fun e w' => ∃ v, e = .returned v ∧ (convert 54 9 v).run Tryd.prog w' = .ok (.string ⟨l.toArray⟩) w' ∧ (convert 54 9 (.slice A l.length cap)).run Tryd.prog w' = .ok (.string ⟨l.toArray⟩) w' ∧ KeepB w A cap l vv ss w' ∧ Opn w' g4 l) := fun W h hx =>
              (ostr_any st (by have := HST.out; omega) W).mono fun e w' ⟨v, h1, h2, h3⟩ => ⟨v, h1, by rw [← he1]; exact own_string h2 (strB_ne _), kc w' (kW W w' h h3), kW W w' h h3, hx.below h3⟩
            have KB : Hid (∀ W, KeepB w A cap l vv ss W → Opn W g4 l → Calls Tryd.prog 56 #[.pointer (some ⟨g4, 0, none⟩)] W fun e w' => ∃ x : Int, e = .returned (.int .i64 x) ∧ (x == 0) = false ∧ (convert 54 9 (.slice A l.length cap)).run Tryd.prog w' = .ok (.string ⟨l.toArray⟩) w' ∧ KeepB w A cap l vv ss w') := fun W h hd =>
              (end_open (kG W h) g2z hd).mono fun e w' ⟨x, h1, hz, ho⟩ => ⟨x, h1, hz, kc w' (kB W w' h hd.has ho), kB W w' h hd.has ho⟩
            clear kc kG kA kB kW
            go_wp2_with fail
            refine wp_region_held_drew (S := (fun w' => (convert 54 9 (.slice A l.length cap)).run Tryd.prog w' = .ok (.string ⟨l.toArray⟩) w')) (by kernel_rfl) c1 (fun hHeld => ?_)
            refine wpAnyH_take (i := 0) (v := ?_) rfl (by kernel_rfl) (by kernel_rfl) (by kernel_rfl) (fun _ _ _ h => h) (Or.inl ⟨by rfl, ?_⟩) (by assumption) ?_
            rotate_left 1
            · (intro wq hSw; (try dsimp only at hSw); go_simp; try with_reducible rfl)
            (try dsimp only)
            (try simp only [List.getElem_toArray, List.getElem_cons_succ, List.getElem_cons_zero, Act.put, List.setIfInBounds_toArray, List.set_cons_zero, List.set_cons_succ])
            refine wpAnyH_ready (rs := [1]) (by kernel_rfl) (by simp) ?_
            refine AllReadyH.cons rfl (fun K hK => ?_) AllReadyH.nil
            go_simp
            go_wp2_with ((with_reducible (show Calls _ _ _ _ _)); go_at_call_of 56 (Value.pointer (some ⟨g3, 0, none⟩)); refine (KA.out _ (by assumption) (by assumption) (by assumption)).mono ?_; rintro e wa ⟨rfl, hca, hka, hxa⟩)
            refine hK.out _ _ (by first | assumption | trivial) (fun hHeld => ?_)
            clear hK K
            refine wpAnyH_take (i := 2) (v := ?_) rfl (by kernel_rfl) (by kernel_rfl) (by kernel_rfl) (fun _ _ _ h => h) (Or.inl ⟨by rfl, ?_⟩) (by assumption) ?_
            rotate_left 1
            · (intro wq hSw; (try dsimp only at hSw); go_simp; try with_reducible rfl)
            (try dsimp only)
            (try simp only [List.getElem_toArray, List.getElem_cons_succ, List.getElem_cons_zero, Act.put, List.setIfInBounds_toArray, List.set_cons_zero, List.set_cons_succ])
            refine wpAnyH_take (i := 3) (v := ?_) rfl (by kernel_rfl) (by kernel_rfl) (by kernel_rfl) (fun _ _ _ h => h) (Or.inl ⟨by rfl, ?_⟩) (by assumption) ?_
            rotate_left 1
            · (intro wq hSw; (try dsimp only at hSw); go_simp; try with_reducible rfl)
            (try dsimp only)
            (try simp only [List.getElem_toArray, List.getElem_cons_succ, List.getElem_cons_zero, Act.put, List.setIfInBounds_toArray, List.set_cons_zero, List.set_cons_succ])
            refine wpAnyH_take (i := 4) (v := ?_) rfl (by kernel_rfl) (by kernel_rfl) (by kernel_rfl) (fun _ _ _ h => h) (Or.inl ⟨by rfl, ?_⟩) (by assumption) ?_
            rotate_left 1
            · (intro wq hSw; (try dsimp only at hSw); go_simp; try with_reducible rfl)
            (try dsimp only)
            (try simp only [List.getElem_toArray, List.getElem_cons_succ, List.getElem_cons_zero, Act.put, List.setIfInBounds_toArray, List.set_cons_zero, List.set_cons_succ])
            refine wpAnyH_take (i := 7) (v := ?_) rfl (by kernel_rfl) (by kernel_rfl) (by kernel_rfl) (fun _ _ _ h => h) (Or.inl ⟨by rfl, ?_⟩) (by assumption) ?_
            rotate_left 1
            · (intro wq hSw; (try dsimp only at hSw); go_simp; try with_reducible rfl)
            (try dsimp only)
            (try simp only [List.getElem_toArray, List.getElem_cons_succ, List.getElem_cons_zero, Act.put, List.setIfInBounds_toArray, List.set_cons_zero, List.set_cons_succ])
            refine wpAnyH_take (i := 8) (v := ?_) rfl (by kernel_rfl) (by kernel_rfl) (by kernel_rfl) (fun _ _ _ h => h) (Or.inl ⟨by rfl, ?_⟩) (by assumption) ?_
            rotate_left 1
            · (intro wq hSw; (try dsimp only at hSw); go_simp; try with_reducible rfl)
            (try dsimp only)
            (try simp only [List.getElem_toArray, List.getElem_cons_succ, List.getElem_cons_zero, Act.put, List.setIfInBounds_toArray, List.set_cons_zero, List.set_cons_succ])
            refine wpAnyH_ready (rs := [5]) (by kernel_rfl) (by simp) ?_
            refine AllReadyH.cons rfl (fun K hK => ?_) AllReadyH.nil
            go_simp
            go_wp2_with ((with_reducible (show Calls _ _ _ _ _)); go_at_call 37; refine (KN.out _ (by assumption) (by assumption)).mono ?_; rintro e wn ⟨vn, rfl, hcn, hcn2, hkn, hxn⟩)
            refine hK.out _ _ (by first | assumption | trivial) (fun hHeld => ?_)
            clear hK K
            refine wpAnyH_ready (rs := [6]) (by kernel_rfl) (by simp) ?_
            refine AllReadyH.cons rfl (fun K hK => ?_) AllReadyH.nil
            go_simp
            refine hK.out _ _ (by first | assumption | trivial) (fun hHeld => ?_)
            clear hK K
            (try dsimp only)
            (try simp only [List.getElem_toArray, List.getElem_cons_succ, List.getElem_cons_zero, Act.put, List.setIfInBounds_toArray, List.set_cons_zero, List.set_cons_succ])
            refine wpAnyH_take (i := 9) (v := ?_) rfl (by kernel_rfl) (by kernel_rfl) (by kernel_rfl) (fun _ _ _ h => h) (Or.inl ⟨by rfl, ?_⟩) (by assumption) ?_
            rotate_left 1
            · (intro wq hSw; (try dsimp only at hSw); go_simp; try with_reducible rfl)
            (try dsimp only)
            (try simp only [List.getElem_toArray, List.getElem_cons_succ, List.getElem_cons_zero, Act.put, List.setIfInBounds_toArray, List.set_cons_zero, List.set_cons_succ])
            refine wpAnyH_take (i := 10) (v := ?_) rfl (by kernel_rfl) (by kernel_rfl) (by kernel_rfl) (fun _ _ _ h => h) (Or.inl ⟨by rfl, ?_⟩) (by assumption) ?_
            rotate_left 1
            · (intro wq hSw; (try dsimp only at hSw); go_simp; try with_reducible rfl)
            (try dsimp only)
            (try simp only [List.getElem_toArray, List.getElem_cons_succ, List.getElem_cons_zero, Act.put, List.setIfInBounds_toArray, List.set_cons_zero, List.set_cons_succ])
            refine wpAnyH_take (i := 11) (v := ?_) rfl (by kernel_rfl) (by kernel_rfl) (by kernel_rfl) (fun _ _ _ h => h) (Or.inl ⟨by rfl, ?_⟩) (by assumption) ?_
            rotate_left 1
            · (intro wq hSw; (try dsimp only at hSw); go_simp; try with_reducible rfl)
            (try dsimp only)
            (try simp only [List.getElem_toArray, List.getElem_cons_succ, List.getElem_cons_zero, Act.put, List.setIfInBounds_toArray, List.set_cons_zero, List.set_cons_succ])
            refine wpAnyH_take (i := 12) (v := ?_) rfl (by kernel_rfl) (by kernel_rfl) (by kernel_rfl) (fun _ _ _ h => h) (Or.inl ⟨by rfl, ?_⟩) (by assumption) ?_
            rotate_left 1
            · (intro wq hSw; (try dsimp only at hSw); go_simp; try with_reducible rfl)
            (try dsimp only)
            (try simp only [List.getElem_toArray, List.getElem_cons_succ, List.getElem_cons_zero, Act.put, List.setIfInBounds_toArray, List.set_cons_zero, List.set_cons_succ])
            refine wpAnyH_ready (rs := [13]) (by kernel_rfl) (by simp) ?_
            refine AllReadyH.cons rfl (fun K hK => ?_) AllReadyH.nil
            go_simp
            go_wp2_with ((with_reducible (show Calls _ _ _ _ _)); go_at_call_of 56 (Value.pointer (some ⟨g4, 0, none⟩)); refine (KB.out _ (by assumption) (by assumption)).mono ?_; rintro e wb ⟨xb, rfl, hzb, hcb, hkb⟩)
            refine hK.out _ _ (by first | assumption | trivial) (fun hHeld => ?_)
            clear hK K
            refine wpAnyH_take (i := 14) (v := ?_) rfl (by kernel_rfl) (by kernel_rfl) (by kernel_rfl) (fun _ _ _ h => h) (Or.inl ⟨by rfl, ?_⟩) (by assumption) ?_
            rotate_left 1
            · (intro wq hSw; (try dsimp only at hSw); go_simp; try with_reducible rfl)
            (try dsimp only)
            (try simp only [List.getElem_toArray, List.getElem_cons_succ, List.getElem_cons_zero, Act.put, List.setIfInBounds_toArray, List.set_cons_zero, List.set_cons_succ])
            refine wpAnyH_take (i := 15) (v := ?_) rfl (by kernel_rfl) (by kernel_rfl) (by kernel_rfl) (fun _ _ _ h => h) (Or.inl ⟨by rfl, ?_⟩) (by assumption) ?_
            rotate_left 1
            · (intro wq hSw; (try dsimp only at hSw); go_simp; try with_reducible rfl)
            (try dsimp only)
            (try simp only [List.getElem_toArray, List.getElem_cons_succ, List.getElem_cons_zero, Act.put, List.setIfInBounds_toArray, List.set_cons_zero, List.set_cons_succ])
            refine wpAnyH_take (i := 16) (v := undef) rfl (by kernel_rfl) (by kernel_rfl) (by kernel_rfl) (fun _ _ _ h => h) (Or.inr ⟨by rfl, rfl⟩) (by assumption) ?_
            (try dsimp only)
            (try simp only [List.getElem_toArray, List.getElem_cons_succ, List.getElem_cons_zero, Act.put, List.setIfInBounds_toArray, List.set_cons_zero, List.set_cons_succ])
            refine wpAnyH_take (i := 19) (v := undef) rfl (by kernel_rfl) (by kernel_rfl) (by kernel_rfl) (fun _ _ _ h => h) (Or.inr ⟨by rfl, rfl⟩) (by assumption) ?_
            (try dsimp only)
            (try simp only [List.getElem_toArray, List.getElem_cons_succ, List.getElem_cons_zero, Act.put, List.setIfInBounds_toArray, List.set_cons_zero, List.set_cons_succ])
            refine wpAnyH_take (i := 17) (v := undef) rfl (by kernel_rfl) (by kernel_rfl) (by kernel_rfl) (fun _ _ _ h => h) (Or.inr ⟨by rfl, rfl⟩) (by assumption) ?_
            (try dsimp only)
            (try simp only [List.getElem_toArray, List.getElem_cons_succ, List.getElem_cons_zero, Act.put, List.setIfInBounds_toArray, List.set_cons_zero, List.set_cons_succ])
            refine wpAnyH_take (i := 20) (v := undef) rfl (by kernel_rfl) (by kernel_rfl) (by kernel_rfl) (fun _ _ _ h => h) (Or.inr ⟨by rfl, rfl⟩) (by assumption) ?_
            (try dsimp only)
            (try simp only [List.getElem_toArray, List.getElem_cons_succ, List.getElem_cons_zero, Act.put, List.setIfInBounds_toArray, List.set_cons_zero, List.set_cons_succ])
            refine wpAnyH_take (i := 18) (v := undef) rfl (by kernel_rfl) (by kernel_rfl) (by kernel_rfl) (fun _ _ _ h => h) (Or.inr ⟨by rfl, rfl⟩) (by assumption) ?_
            (try dsimp only)
            (try simp only [List.getElem_toArray, List.getElem_cons_succ, List.getElem_cons_zero, Act.put, List.setIfInBounds_toArray, List.set_cons_zero, List.set_cons_succ])
            refine wpAnyH_take (i := 21) (v := undef) rfl (by kernel_rfl) (by kernel_rfl) (by kernel_rfl) (fun _ _ _ h => h) (Or.inr ⟨by rfl, rfl⟩) (by assumption) ?_
            (try dsimp only)
            (try simp only [List.getElem_toArray, List.getElem_cons_succ, List.getElem_cons_zero, Act.put, List.setIfInBounds_toArray, List.set_cons_zero, List.set_cons_succ])
            refine wpAnyH_take (i := 22) (v := ?_) rfl (by kernel_rfl) (by kernel_rfl) (by kernel_rfl) (fun _ _ _ h => h) (Or.inl ⟨by rfl, ?_⟩) (by assumption) ?_
            rotate_left 1
            · (intro wq hSw; (try dsimp only at hSw); go_simp; try with_reducible rfl)
            (try dsimp only)
            (try simp only [List.getElem_toArray, List.getElem_cons_succ, List.getElem_cons_zero, Act.put, List.setIfInBounds_toArray, List.set_cons_zero, List.set_cons_succ])
            refine wpAnyH_take (i := 23) (v := ?_) rfl (by kernel_rfl) (by kernel_rfl) (by kernel_rfl) (fun _ _ _ h => h) (Or.inl ⟨by rfl, ?_⟩) (by assumption) ?_
            rotate_left 1
            · (intro wq hSw; (try dsimp only at hSw); go_simp; try with_reducible rfl)
            (try dsimp only)
            (try simp only [List.getElem_toArray, List.getElem_cons_succ, List.getElem_cons_zero, Act.put, List.setIfInBounds_toArray, List.set_cons_zero, List.set_cons_succ])
            refine wpAnyH_done (by kernel_rfl) ?_ _
            go_wp2_with fail
            go_meet
            refine ⟨rfl, And.left (b := _) (show KeepB w A cap l vv ss _ from by assumption)⟩
        · rcases HS4'.out.cases with ⟨hd2, he2⟩ | hd2
          · have d0 := hd1
            have d1 := hd1.below (Below.refl wc.heap.size wc).drew
            have x0 := hd2
            have x1 := hd2.below (Below.refl wc.heap.size wc).drew
            have KA : Hid (∀ W, KeepB w A cap l vv ss W → Opn W g3 l → Done W g4 l → Calls Tryd.prog 56 #[.pointer (some ⟨g3, 0, none⟩)] W fun e w' => ∃ x : Int, e = .returned (.int .i64 x) ∧ (x == 0) = false ∧ (convert 54 9 (.slice A l.length cap)).run Tryd.prog w' = .ok (.string ⟨l.toArray⟩) w' ∧ KeepB w A cap l vv ss w' ∧ Done w' g4 l) := fun W h hd hx =>
              (end_open (kG W h) g1z hd).mono fun e w' ⟨x, h1, hz, ho⟩ => ⟨x, h1, hz, kc w' (kA W w' h hd.has ho), kA W w' h hd.has ho, hx.other hd.has (by have := HNE.out; omega) ho⟩
            have KB : Hid (∀ W, KeepB w A cap l vv ss W → Done W g4 l → Calls Tryd.prog 56 #[.pointer (some ⟨g4, 0, none⟩)] W fun e w' => e = .returned (.int .i64 0) ∧ (convert 54 9 (.slice A l.length cap)).run Tryd.prog w' = .ok (.string ⟨l.toArray⟩) w' ∧ KeepB w A cap l vv ss w') := fun W h hd =>
              (end_done (kG W h) hd).mono fun e w' ⟨h1, ho⟩ => ⟨h1, kc w' (kB W w' h hd.has ho), kB W w' h hd.has ho⟩
            have KM : Hid (∀ W, KeepB w A cap l vv ss W → Calls Tryd.prog 39 #[vv] W fun e w' => ∃ v, e = .returned v ∧ (convert 54 9 v).run Tryd.prog w' = .ok (.string ⟨l.toArray⟩) w' ∧ (convert 54 9 (.slice A l.length cap)).run Tryd.prog w' = .ok (.string ⟨l.toArray⟩) w' ∧ KeepB w A cap l vv ss w') := fun W h =>
              (ostrs_big h.2.1 HSS.out.1 HSS.out.2).mono fun e w' ⟨v, h1, h2, h3⟩ => ⟨v, h1, by rw [← he2]; exact own_string h2 (strsB_ne _), kc w' (kW W w' h h3), kW W w' h h3⟩
            clear kc kG kA kB kW
            go_wp2_with fail
            refine wp_region_held_drew (S := (fun w' => (convert 54 9 (.slice A l.length cap)).run Tryd.prog w' = .ok (.string ⟨l.toArray⟩) w')) (by kernel_rfl) c1 (fun hHeld => ?_)
            refine wpAnyH_take (i := 0) (v := ?_) rfl (by kernel_rfl) (by kernel_rfl) (by kernel_rfl) (fun _ _ _ h => h) (Or.inl ⟨by rfl, ?_⟩) (by assumption) ?_
            rotate_left 1
            · (intro wq hSw; (try dsimp only at hSw); go_simp; try with_reducible rfl)
            (try dsimp only)
            (try simp only [List.getElem_toArray, List.getElem_cons_succ, List.getElem_cons_zero, Act.put, List.setIfInBounds_toArray, List.set_cons_zero, List.set_cons_succ])
            refine wpAnyH_ready (rs := [1]) (by kernel_rfl) (by simp) ?_
            refine AllReadyH.cons rfl (fun K hK => ?_) AllReadyH.nil
            go_simp
            go_wp2_with ((with_reducible (show Calls _ _ _ _ _)); go_at_call_of 56 (Value.pointer (some ⟨g3, 0, none⟩)); refine (KA.out _ (by assumption) (by assumption) (by assumption)).mono ?_; rintro e wa ⟨xa, rfl, hza, hca, hka, hxa⟩)
            refine hK.out _ _ (by first | assumption | trivial) (fun hHeld => ?_)
            clear hK K
            refine wpAnyH_take (i := 2) (v := ?_) rfl (by kernel_rfl) (by kernel_rfl) (by kernel_rfl) (fun _ _ _ h => h) (Or.inl ⟨by rfl, ?_⟩) (by assumption) ?_
            rotate_left 1
            · (intro wq hSw; (try dsimp only at hSw); go_simp; try with_reducible rfl)
            (try dsimp only)
            (try simp only [List.getElem_toArray, List.getElem_cons_succ, List.getElem_cons_zero, Act.put, List.setIfInBounds_toArray, List.set_cons_zero, List.set_cons_succ])
            refine wpAnyH_take (i := 3) (v := ?_) rfl (by kernel_rfl) (by kernel_rfl) (by kernel_rfl) (fun _ _ _ h => h) (Or.inl ⟨by rfl, ?_⟩) (by assumption) ?_
            rotate_left 1
            · (intro wq hSw; (try dsimp only at hSw); go_simp; try with_reducible rfl)
            (try dsimp only)
            (try simp only [List.getElem_toArray, List.getElem_cons_succ, List.getElem_cons_zero, Act.put, List.setIfInBounds_toArray, List.set_cons_zero, List.set_cons_succ])
            refine wpAnyH_take (i := 4) (v := undef) rfl (by kernel_rfl) (by kernel_rfl) (by kernel_rfl) (fun _ _ _ h => h) (Or.inr ⟨by rfl, rfl⟩) (by assumption) ?_
            (try dsimp only)
            (try simp only [List.getElem_toArray, List.getElem_cons_succ, List.getElem_cons_zero, Act.put, List.setIfInBounds_toArray, List.set_cons_zero, List.set_cons_succ])
            refine wpAnyH_take (i := 7) (v := undef) rfl (by kernel_rfl) (by kernel_rfl) (by kernel_rfl) (fun _ _ _ h => h) (Or.inr ⟨by rfl, rfl⟩) (by assumption) ?_
            (try dsimp only)
            (try simp only [List.getElem_toArray, List.getElem_cons_succ, List.getElem_cons_zero, Act.put, List.setIfInBounds_toArray, List.set_cons_zero, List.set_cons_succ])
            refine wpAnyH_take (i := 5) (v := undef) rfl (by kernel_rfl) (by kernel_rfl) (by kernel_rfl) (fun _ _ _ h => h) (Or.inr ⟨by rfl, rfl⟩) (by assumption) ?_
            (try dsimp only)
            (try simp only [List.getElem_toArray, List.getElem_cons_succ, List.getElem_cons_zero, Act.put, List.setIfInBounds_toArray, List.set_cons_zero, List.set_cons_succ])
            refine wpAnyH_take (i := 8) (v := undef) rfl (by kernel_rfl) (by kernel_rfl) (by kernel_rfl) (fun _ _ _ h => h) (Or.inr ⟨by rfl, rfl⟩) (by assumption) ?_
            (try dsimp only)
            (try simp only [List.getElem_toArray, List.getElem_cons_succ, List.getElem_cons_zero, Act.put, List.setIfInBounds_toArray, List.set_cons_zero, List.set_cons_succ])
            refine wpAnyH_take (i := 6) (v := undef) rfl (by kernel_rfl) (by kernel_rfl) (by kernel_rfl) (fun _ _ _ h => h) (Or.inr ⟨by rfl, rfl⟩) (by assumption) ?_
            (try dsimp only)
            (try simp only [List.getElem_toArray, List.getElem_cons_succ, List.getElem_cons_zero, Act.put, List.setIfInBounds_toArray, List.set_cons_zero, List.set_cons_succ])
            refine wpAnyH_take (i := 9) (v := undef) rfl (by kernel_rfl) (by kernel_rfl) (by kernel_rfl) (fun _ _ _ h => h) (Or.inr ⟨by rfl, rfl⟩) (by assumption) ?_
            (try dsimp only)
            (try simp only [List.getElem_toArray, List.getElem_cons_succ, List.getElem_cons_zero, Act.put, List.setIfInBounds_toArray, List.set_cons_zero, List.set_cons_succ])
            refine wpAnyH_take (i := 10) (v := ?_) rfl (by kernel_rfl) (by kernel_rfl) (by kernel_rfl) (fun _ _ _ h => h) (Or.inl ⟨by rfl, ?_⟩) (by assumption) ?_
            rotate_left 1
            · (intro wq hSw; (try dsimp only at hSw); go_simp; try with_reducible rfl)
            (try dsimp only)
            (try simp only [List.getElem_toArray, List.getElem_cons_succ, List.getElem_cons_zero, Act.put, List.setIfInBounds_toArray, List.set_cons_zero, List.set_cons_succ])
            refine wpAnyH_take (i := 11) (v := ?_) rfl (by kernel_rfl) (by kernel_rfl) (by kernel_rfl) (fun _ _ _ h => h) (Or.inl ⟨by rfl, ?_⟩) (by assumption) ?_
            rotate_left 1
            · (intro wq hSw; (try dsimp only at hSw); go_simp; try with_reducible rfl)
            (try dsimp only)
            (try simp only [List.getElem_toArray, List.getElem_cons_succ, List.getElem_cons_zero, Act.put, List.setIfInBounds_toArray, List.set_cons_zero, List.set_cons_succ])
            refine wpAnyH_take (i := 12) (v := ?_) rfl (by kernel_rfl) (by kernel_rfl) (by kernel_rfl) (fun _ _ _ h => h) (Or.inl ⟨by rfl, ?_⟩) (by assumption) ?_
            rotate_left 1
            · (intro wq hSw; (try dsimp only at hSw); go_simp; try with_reducible rfl)
            (try dsimp only)
            (try simp only [List.getElem_toArray, List.getElem_cons_succ, List.getElem_cons_zero, Act.put, List.setIfInBounds_toArray, List.set_cons_zero, List.set_cons_succ])
            refine wpAnyH_ready (rs := [13]) (by kernel_rfl) (by simp) ?_
            refine AllReadyH.cons rfl (fun K hK => ?_) AllReadyH.nil
            go_simp
            go_wp2_with ((with_reducible (show Calls _ _ _ _ _)); go_at_call_of 56 (Value.pointer (some ⟨g4, 0, none⟩)); refine (KB.out _ (by assumption) (by assumption)).mono ?_; rintro e wb ⟨rfl, hcb, hkb⟩)
            refine hK.out _ _ (by first | assumption | trivial) (fun hHeld => ?_)
            clear hK K
            refine wpAnyH_take (i := 14) (v := ?_) rfl (by kernel_rfl) (by kernel_rfl) (by kernel_rfl) (fun _ _ _ h => h) (Or.inl ⟨by rfl, ?_⟩) (by assumption) ?_
            rotate_left 1
            · (intro wq hSw; (try dsimp only at hSw); go_simp; try with_reducible rfl)
            (try dsimp only)
            (try simp only [List.getElem_toArray, List.getElem_cons_succ, List.getElem_cons_zero, Act.put, List.setIfInBounds_toArray, List.set_cons_zero, List.set_cons_succ])
            refine wpAnyH_take (i := 15) (v := ?_) rfl (by kernel_rfl) (by kernel_rfl) (by kernel_rfl) (fun _ _ _ h => h) (Or.inl ⟨by rfl, ?_⟩) (by assumption) ?_
            rotate_left 1
            · (intro wq hSw; (try dsimp only at hSw); go_simp; try with_reducible rfl)
            (try dsimp only)
            (try simp only [List.getElem_toArray, List.getElem_cons_succ, List.getElem_cons_zero, Act.put, List.setIfInBounds_toArray, List.set_cons_zero, List.set_cons_succ])
            refine wpAnyH_take (i := 16) (v := ?_) rfl (by kernel_rfl) (by kernel_rfl) (by kernel_rfl) (fun _ _ _ h => h) (Or.inl ⟨by rfl, ?_⟩) (by assumption) ?_
            rotate_left 1
            · (intro wq hSw; (try dsimp only at hSw); go_simp; try with_reducible rfl)
            (try dsimp only)
            (try simp only [List.getElem_toArray, List.getElem_cons_succ, List.getElem_cons_zero, Act.put, List.setIfInBounds_toArray, List.set_cons_zero, List.set_cons_succ])
            refine wpAnyH_take (i := 19) (v := ?_) rfl (by kernel_rfl) (by kernel_rfl) (by kernel_rfl) (fun _ _ _ h => h) (Or.inl ⟨by rfl, ?_⟩) (by assumption) ?_
            rotate_left 1
            · (intro wq hSw; (try dsimp only at hSw); go_simp; try with_reducible rfl)
            (try dsimp only)
            (try simp only [List.getElem_toArray, List.getElem_cons_succ, List.getElem_cons_zero, Act.put, List.setIfInBounds_toArray, List.set_cons_zero, List.set_cons_succ])
            refine wpAnyH_take (i := 20) (v := ?_) rfl (by kernel_rfl) (by kernel_rfl) (by kernel_rfl) (fun _ _ _ h => h) (Or.inl ⟨by rfl, ?_⟩) (by assumption) ?_
            rotate_left 1
            · (intro wq hSw; (try dsimp only at hSw); go_simp; try with_reducible rfl)
            (try dsimp only)
            (try simp only [List.getElem_toArray, List.getElem_cons_succ, List.getElem_cons_zero, Act.put, List.setIfInBounds_toArray, List.set_cons_zero, List.set_cons_succ])
            refine wpAnyH_ready (rs := [17]) (by kernel_rfl) (by simp) ?_
            refine AllReadyH.cons rfl (fun K hK => ?_) AllReadyH.nil
            go_simp
            go_wp2_with ((with_reducible (show Calls _ _ _ _ _)); go_at_call 39; refine (KM.out _ (by assumption)).mono ?_; rintro e wm ⟨vm, rfl, hcm, hcm2, hkm⟩)
            refine hK.out _ _ (by first | assumption | trivial) (fun hHeld => ?_)
            clear hK K
            refine wpAnyH_ready (rs := [18]) (by kernel_rfl) (by simp) ?_
            refine AllReadyH.cons rfl (fun K hK => ?_) AllReadyH.nil
            go_simp
            refine hK.out _ _ (by first | assumption | trivial) (fun hHeld => ?_)
            clear hK K
            (try dsimp only)
            (try simp only [List.getElem_toArray, List.getElem_cons_succ, List.getElem_cons_zero, Act.put, List.setIfInBounds_toArray, List.set_cons_zero, List.set_cons_succ])
            refine wpAnyH_take (i := 21) (v := ?_) rfl (by kernel_rfl) (by kernel_rfl) (by kernel_rfl) (fun _ _ _ h => h) (Or.inl ⟨by rfl, ?_⟩) (by assumption) ?_
            rotate_left 1
            · (intro wq hSw; (try dsimp only at hSw); go_simp; try with_reducible rfl)
            (try dsimp only)
            (try simp only [List.getElem_toArray, List.getElem_cons_succ, List.getElem_cons_zero, Act.put, List.setIfInBounds_toArray, List.set_cons_zero, List.set_cons_succ])
            refine wpAnyH_take (i := 22) (v := ?_) rfl (by kernel_rfl) (by kernel_rfl) (by kernel_rfl) (fun _ _ _ h => h) (Or.inl ⟨by rfl, ?_⟩) (by assumption) ?_
            rotate_left 1
            · (intro wq hSw; (try dsimp only at hSw); go_simp; try with_reducible rfl)
            (try dsimp only)
            (try simp only [List.getElem_toArray, List.getElem_cons_succ, List.getElem_cons_zero, Act.put, List.setIfInBounds_toArray, List.set_cons_zero, List.set_cons_succ])
            refine wpAnyH_take (i := 23) (v := ?_) rfl (by kernel_rfl) (by kernel_rfl) (by kernel_rfl) (fun _ _ _ h => h) (Or.inl ⟨by rfl, ?_⟩) (by assumption) ?_
            rotate_left 1
            · (intro wq hSw; (try dsimp only at hSw); go_simp; try with_reducible rfl)
            (try dsimp only)
            (try simp only [List.getElem_toArray, List.getElem_cons_succ, List.getElem_cons_zero, Act.put, List.setIfInBounds_toArray, List.set_cons_zero, List.set_cons_succ])
            refine wpAnyH_done (by kernel_rfl) ?_ _
            go_wp2_with fail
            go_meet
            refine ⟨rfl, And.left (b := _) (show KeepB w A cap l vv ss _ from by assumption)⟩
          · have d0 := hd1
            have d1 := hd1.below (Below.refl wc.heap.size wc).drew
            have x0 := hd2
            have x1 := hd2.below (Below.refl wc.heap.size wc).drew
            have KA : Hid (∀ W, KeepB w A cap l vv ss W → Opn W g3 l → Opn W g4 l → Calls Tryd.prog 56 #[.pointer (some ⟨g3, 0, none⟩)] W fun e w' => ∃ x : Int, e = .returned (.int .i64 x) ∧ (x == 0) = false ∧ (convert 54 9 (.slice A l.length cap)).run Tryd.prog w' = .ok (.string ⟨l.toArray⟩) w' ∧ KeepB w A cap l vv ss w' ∧ Opn w' g4 l) := fun W h hd hx =>
              (end_open (kG W h) g1z hd).mono fun e w' ⟨x, h1, hz, ho⟩ => ⟨x, h1, hz, kc w' (kA W w' h hd.has ho), kA W w' h hd.has ho, hx.other hd.has (by have := HNE.out; omega) ho⟩
            have KB : Hid (∀ W, KeepB w A cap l vv ss W → Opn W g4 l → Calls Tryd.prog 56 #[.pointer (some ⟨g4, 0, none⟩)] W fun e w' => ∃ x : Int, e = .returned (.int .i64 x) ∧ (x == 0) = false ∧ (convert 54 9 (.slice A l.length cap)).run Tryd.prog w' = .ok (.string ⟨l.toArray⟩) w' ∧ KeepB w A cap l vv ss w') := fun W h hd =>
              (end_open (kG W h) g2z hd).mono fun e w' ⟨x, h1, hz, ho⟩ => ⟨x, h1, hz, kc w' (kB W w' h hd.has ho), kB W w' h hd.has ho⟩
            clear kc kG kA kB kW
            go_wp2_with fail
            refine wp_region_held_drew (S := (fun w' => (convert 54 9 (.slice A l.length cap)).run Tryd.prog w' = .ok (.string ⟨l.toArray⟩) w')) (by kernel_rfl) c1 (fun hHeld => ?_)
            refine wpAnyH_take (i := 0) (v := ?_) rfl (by kernel_rfl) (by kernel_rfl) (by kernel_rfl) (fun _ _ _ h => h) (Or.inl ⟨by rfl, ?_⟩) (by assumption) ?_
            rotate_left 1
            · (intro wq hSw; (try dsimp only at hSw); go_simp; try with_reducible rfl)
            (try dsimp only)
            (try simp only [List.getElem_toArray, List.getElem_cons_succ, List.getElem_cons_zero, Act.put, List.setIfInBounds_toArray, List.set_cons_zero, List.set_cons_succ])
            refine wpAnyH_ready (rs := [1]) (by kernel_rfl) (by simp) ?_
            refine AllReadyH.cons rfl (fun K hK => ?_) AllReadyH.nil
            go_simp
            go_wp2_with ((with_reducible (show Calls _ _ _ _ _)); go_at_call_of 56 (Value.pointer (some ⟨g3, 0, none⟩)); refine (KA.out _ (by assumption) (by assumption) (by assumption)).mono ?_; rintro e wa ⟨xa, rfl, hza, hca, hka, hxa⟩)
            refine hK.out _ _ (by first | assumption | trivial) (fun hHeld => ?_)
            clear hK K
            refine wpAnyH_take (i := 2) (v := ?_) rfl (by kernel_rfl) (by kernel_rfl) (by kernel_rfl) (fun _ _ _ h => h) (Or.inl ⟨by rfl, ?_⟩) (by assumption) ?_
            rotate_left 1
            · (intro wq hSw; (try dsimp only at hSw); go_simp; try with_reducible rfl)
            (try dsimp only)
            (try simp only [List.getElem_toArray, List.getElem_cons_succ, List.getElem_cons_zero, Act.put, List.setIfInBounds_toArray, List.set_cons_zero, List.set_cons_succ])
            refine wpAnyH_take (i := 3) (v := ?_) rfl (by kernel_rfl) (by kernel_rfl) (by kernel_rfl) (fun _ _ _ h => h) (Or.inl ⟨by rfl, ?_⟩) (by assumption) ?_
            rotate_left 1
            · (intro wq hSw; (try dsimp only at hSw); go_simp; try with_reducible rfl)
            (try dsimp only)
            (try simp only [List.getElem_toArray, List.getElem_cons_succ, List.getElem_cons_zero, Act.put, List.setIfInBounds_toArray, List.set_cons_zero, List.set_cons_succ])
            refine wpAnyH_take (i := 4) (v := undef) rfl (by kernel_rfl) (by kernel_rfl) (by kernel_rfl) (fun _ _ _ h => h) (Or.inr ⟨by rfl, rfl⟩) (by assumption) ?_
            (try dsimp only)
            (try simp only [List.getElem_toArray, List.getElem_cons_succ, List.getElem_cons_zero, Act.put, List.setIfInBounds_toArray, List.set_cons_zero, List.set_cons_succ])
            refine wpAnyH_take (i := 7) (v := undef) rfl (by kernel_rfl) (by kernel_rfl) (by kernel_rfl) (fun _ _ _ h => h) (Or.inr ⟨by rfl, rfl⟩) (by assumption) ?_
            (try dsimp only)
            (try simp only [List.getElem_toArray, List.getElem_cons_succ, List.getElem_cons_zero, Act.put, List.setIfInBounds_toArray, List.set_cons_zero, List.set_cons_succ])
            refine wpAnyH_take (i := 5) (v := undef) rfl (by kernel_rfl) (by kernel_rfl) (by kernel_rfl) (fun _ _ _ h => h) (Or.inr ⟨by rfl, rfl⟩) (by assumption) ?_
            (try dsimp only)
            (try simp only [List.getElem_toArray, List.getElem_cons_succ, List.getElem_cons_zero, Act.put, List.setIfInBounds_toArray, List.set_cons_zero, List.set_cons_succ])
            refine wpAnyH_take (i := 8) (v := undef) rfl (by kernel_rfl) (by kernel_rfl) (by kernel_rfl) (fun _ _ _ h => h) (Or.inr ⟨by rfl, rfl⟩) (by assumption) ?_
            (try dsimp only)
            (try simp only [List.getElem_toArray, List.getElem_cons_succ, List.getElem_cons_zero, Act.put, List.setIfInBounds_toArray, List.set_cons_zero, List.set_cons_succ])
            refine wpAnyH_take (i := 6) (v := undef) rfl (by kernel_rfl) (by kernel_rfl) (by kernel_rfl) (fun _ _ _ h => h) (Or.inr ⟨by rfl, rfl⟩) (by assumption) ?_
            (try dsimp only)
            (try simp only [List.getElem_toArray, List.getElem_cons_succ, List.getElem_cons_zero, Act.put, List.setIfInBounds_toArray, List.set_cons_zero, List.set_cons_succ])
            refine wpAnyH_take (i := 9) (v := undef) rfl (by kernel_rfl) (by kernel_rfl) (by kernel_rfl) (fun _ _ _ h => h) (Or.inr ⟨by rfl, rfl⟩) (by assumption) ?_
            (try dsimp only)
            (try simp only [List.getElem_toArray, List.getElem_cons_succ, List.getElem_cons_zero, Act.put, List.setIfInBounds_toArray, List.set_cons_zero, List.set_cons_succ])
            refine wpAnyH_take (i := 10) (v := ?_) rfl (by kernel_rfl) (by kernel_rfl) (by kernel_rfl) (fun _ _ _ h => h) (Or.inl ⟨by rfl, ?_⟩) (by assumption) ?_
            rotate_left 1
            · (intro wq hSw; (try dsimp only at hSw); go_simp; try with_reducible rfl)
            (try dsimp only)
            (try simp only [List.getElem_toArray, List.getElem_cons_succ, List.getElem_cons_zero, Act.put, List.setIfInBounds_toArray, List.set_cons_zero, List.set_cons_succ])
            refine wpAnyH_take (i := 11) (v := ?_) rfl (by kernel_rfl) (by kernel_rfl) (by kernel_rfl) (fun _ _ _ h => h) (Or.inl ⟨by rfl, ?_⟩) (by assumption) ?_
            rotate_left 1
            · (intro wq hSw; (try dsimp only at hSw); go_simp; try with_reducible rfl)
            (try dsimp only)
            (try simp only [List.getElem_toArray, List.getElem_cons_succ, List.getElem_cons_zero, Act.put, List.setIfInBounds_toArray, List.set_cons_zero, List.set_cons_succ])
            refine wpAnyH_take (i := 12) (v := ?_) rfl (by kernel_rfl) (by kernel_rfl) (by kernel_rfl) (fun _ _ _ h => h) (Or.inl ⟨by rfl, ?_⟩) (by assumption) ?_
            rotate_left 1
            · (intro wq hSw; (try dsimp only at hSw); go_simp; try with_reducible rfl)
            (try dsimp only)
            (try simp only [List.getElem_toArray, List.getElem_cons_succ, List.getElem_cons_zero, Act.put, List.setIfInBounds_toArray, List.set_cons_zero, List.set_cons_succ])
            refine wpAnyH_ready (rs := [13]) (by kernel_rfl) (by simp) ?_
            refine AllReadyH.cons rfl (fun K hK => ?_) AllReadyH.nil
            go_simp
            go_wp2_with ((with_reducible (show Calls _ _ _ _ _)); go_at_call_of 56 (Value.pointer (some ⟨g4, 0, none⟩)); refine (KB.out _ (by assumption) (by assumption)).mono ?_; rintro e wb ⟨xb, rfl, hzb, hcb, hkb⟩)
            refine hK.out _ _ (by first | assumption | trivial) (fun hHeld => ?_)
            clear hK K
            refine wpAnyH_take (i := 14) (v := ?_) rfl (by kernel_rfl) (by kernel_rfl) (by kernel_rfl) (fun _ _ _ h => h) (Or.inl ⟨by rfl, ?_⟩) (by assumption) ?_
            rotate_left 1
            · (intro wq hSw; (try dsimp only at hSw); go_simp; try with_reducible rfl)
            (try dsimp only)
            (try simp only [List.getElem_toArray, List.getElem_cons_succ, List.getElem_cons_zero, Act.put, List.setIfInBounds_toArray, List.set_cons_zero, List.set_cons_succ])
            refine wpAnyH_take (i := 15) (v := ?_) rfl (by kernel_rfl) (by kernel_rfl) (by kernel_rfl) (fun _ _ _ h => h) (Or.inl ⟨by rfl, ?_⟩) (by assumption) ?_
            rotate_left 1
            · (intro wq hSw; (try dsimp only at hSw); go_simp; try with_reducible rfl)
            (try dsimp only)
            (try simp only [List.getElem_toArray, List.getElem_cons_succ, List.getElem_cons_zero, Act.put, List.setIfInBounds_toArray, List.set_cons_zero, List.set_cons_succ])
            refine wpAnyH_take (i := 16) (v := undef) rfl (by kernel_rfl) (by kernel_rfl) (by kernel_rfl) (fun _ _ _ h => h) (Or.inr ⟨by rfl, rfl⟩) (by assumption) ?_
            (try dsimp only)
            (try simp only [List.getElem_toArray, List.getElem_cons_succ, List.getElem_cons_zero, Act.put, List.setIfInBounds_toArray, List.set_cons_zero, List.set_cons_succ])
            refine wpAnyH_take (i := 19) (v := undef) rfl (by kernel_rfl) (by kernel_rfl) (by kernel_rfl) (fun _ _ _ h => h) (Or.inr ⟨by rfl, rfl⟩) (by assumption) ?_
            (try dsimp only)
            (try simp only [List.getElem_toArray, List.getElem_cons_succ, List.getElem_cons_zero, Act.put, List.setIfInBounds_toArray, List.set_cons_zero, List.set_cons_succ])
            refine wpAnyH_take (i := 17) (v := undef) rfl (by kernel_rfl) (by kernel_rfl) (by kernel_rfl) (fun _ _ _ h => h) (Or.inr ⟨by rfl, rfl⟩) (by assumption) ?_
            (try dsimp only)
            (try simp only [List.getElem_toArray, List.getElem_cons_succ, List.getElem_cons_zero, Act.put, List.setIfInBounds_toArray, List.set_cons_zero, List.set_cons_succ])
            refine wpAnyH_take (i := 20) (v := undef) rfl (by kernel_rfl) (by kernel_rfl) (by kernel_rfl) (fun _ _ _ h => h) (Or.inr ⟨by rfl, rfl⟩) (by assumption) ?_
            (try dsimp only)
            (try simp only [List.getElem_toArray, List.getElem_cons_succ, List.getElem_cons_zero, Act.put, List.setIfInBounds_toArray, List.set_cons_zero, List.set_cons_succ])
            refine wpAnyH_take (i := 18) (v := undef) rfl (by kernel_rfl) (by kernel_rfl) (by kernel_rfl) (fun _ _ _ h => h) (Or.inr ⟨by rfl, rfl⟩) (by assumption) ?_
            (try dsimp only)
            (try simp only [List.getElem_toArray, List.getElem_cons_succ, List.getElem_cons_zero, Act.put, List.setIfInBounds_toArray, List.set_cons_zero, List.set_cons_succ])
            refine wpAnyH_take (i := 21) (v := undef) rfl (by kernel_rfl) (by kernel_rfl) (by kernel_rfl) (fun _ _ _ h => h) (Or.inr ⟨by rfl, rfl⟩) (by assumption) ?_
            (try dsimp only)
            (try simp only [List.getElem_toArray, List.getElem_cons_succ, List.getElem_cons_zero, Act.put, List.setIfInBounds_toArray, List.set_cons_zero, List.set_cons_succ])
            refine wpAnyH_take (i := 22) (v := ?_) rfl (by kernel_rfl) (by kernel_rfl) (by kernel_rfl) (fun _ _ _ h => h) (Or.inl ⟨by rfl, ?_⟩) (by assumption) ?_
            rotate_left 1
            · (intro wq hSw; (try dsimp only at hSw); go_simp; try with_reducible rfl)
            (try dsimp only)
            (try simp only [List.getElem_toArray, List.getElem_cons_succ, List.getElem_cons_zero, Act.put, List.setIfInBounds_toArray, List.set_cons_zero, List.set_cons_succ])
            refine wpAnyH_take (i := 23) (v := ?_) rfl (by kernel_rfl) (by kernel_rfl) (by kernel_rfl) (fun _ _ _ h => h) (Or.inl ⟨by rfl, ?_⟩) (by assumption) ?_
            rotate_left 1
            · (intro wq hSw; (try dsimp only at hSw); go_simp; try with_reducible rfl)
            (try dsimp only)
            (try simp only [List.getElem_toArray, List.getElem_cons_succ, List.getElem_cons_zero, Act.put, List.setIfInBounds_toArray, List.set_cons_zero, List.set_cons_succ])
            refine wpAnyH_done (by kernel_rfl) ?_ _
            go_wp2_with fail
            go_meet
            refine ⟨rfl, And.left (b := _) (show KeepB w A cap l vv ss _ from by assumption)⟩
      case rest =>
        obtain ⟨rfl, hb⟩ := hcut
        have HBZ := Lib.hid hb
        have HAW := Lib.hid (awake2 (HG.out.below hb))
        clear hb
        go_wp2_with fail
        refine (HAW.out).mono ?_
        rintro e wz ⟨rfl, hbz⟩
        have HBY := Lib.hid (HBZ.out.trans (hbz.mono HBZ.out.size))
        clear hbz
        go_wp2
        go_ret
        exact ⟨rfl, HBY.out⟩
end Go.Proofs.YtakdhhapckcnaaaDoor
