/- JournalLasts: the law's walk. -/
import Derived.Test.YtnegnokielmgkaaGreatDoorZJlaN
set_option linter.unusedSimpArgs false
set_option linter.unusedVariables false
set_option linter.unnecessarySimpa false
namespace Go.Proofs.YtnegnokielmgkaaGreatDoor
open Go.RowKit

set_option maxRecDepth 100000 in
set_option maxHeartbeats 4000000 in
theorem law_lasts {w : World} (hG : Glob w) (hM : Mov w) (seg fuse : Int) (hfu : fuse ≤ 9223372036854775807) {ov kv : Value} {m : Nat} {ks : List Int} (ho : JopsIs w ov m) (hk : IIs w kv ks) (hkr : ∀ k ∈ ks, -9223372036854775808 ≤ k ∧ k ≤ 9223372036854775807) : Calls Tryz.prog 5 #[.int .i64 seg, ov, .int .i64 fuse, kv] w fun e w' => e = .returned (.bool true) ∧ Below w.heap.size w w' := by
  have HG := Lib.hid hG
  have HM := Lib.hid hM
  have HKS := Lib.hid hk
  have HKR := Lib.hid hkr
  have HFU := Lib.hid hfu
  obtain ⟨A, cap, rfl, ho1, ho2, ho3⟩ := ho
  have HO3 := Lib.hid ho3
  unfold maxLen at ho2
  obtain ⟨Ak, ck, rfl, hk1, hk2, _⟩ := HKS.out
  unfold maxLen at hk2
  clear hG hM hk hkr ho3 hfu
  go_enter Tryz.func5, Tryz.ntmps5
  go_upto_if 26 with fail
  go_cut [3] from 27 to 28 (fun v wx => ∃ ks', IIs w v ks' ∧ (∀ k ∈ ks', -9223372036854775808 ≤ k ∧ k ≤ 9223372036854775807) ∧ w = wx)
  case first =>
    by_cases g2 : 20 < ks.length
    · have q3 : (20 : Int) < (ks.length : Int) := by omega
      have q4 : 20 ≤ ck := by omega
      go_wp2_with fail
      go_meet
      exact ⟨ks.take 20, iis_upto HKS.out 20 (by omega), fun k hk => HKR.out k (List.mem_of_mem_take hk), rfl⟩
    · have q3 : ¬ (20 : Int) < (ks.length : Int) := by omega
      go_wp2_with fail
      go_meet
      exact ⟨ks, HKS.out, HKR.out, rfl⟩
  case rest =>
    obtain ⟨ks2, hks2, hkr2, rfl⟩ := hcut
    have HK2 := Lib.hid hks2
    have HKR2 := Lib.hid hkr2
    clear hks2 hkr2 HKS HKR
    go_wp2_with fail
    refine (sized_any w seg).mono ?_
    rintro e w1 ⟨n, hn1, hn2, rfl, rfl⟩
    have HBG := Lib.hid (begun_any HG.out HM.out (room := 20000) (seg := n) (by omega) (by omega) (by omega))
    go_wp2_with fail
    refine (HBG.out).mono ?_
    intro e w1 hbeg
    obtain ⟨t, j, q, rfl, hq1, hq2⟩ := beg_awd hbeg
    have HF := Lib.hid (jad_fuse hq1 rfl HFU.out)
    have HQ1 := Lib.hid hq1
    have HQ2 := Lib.hid hq2
    clear hbeg hq1 hq2 HBG
    go_wp2_with fail
    refine (HF.out).mono ?_
    rintro e w2 ⟨rfl, k2, kk2⟩
    have HST := Lib.hid (las_start (f := fuseN fuse) k2 (cell_q (D := (· = q)) rfl HQ1.out HQ2.out kk2))
    clear k2 kk2 HF
    go_upto_block 0 with fail
    go_cut [12, 13, 14, 15, 16, 17, 18, 19, 20] from 44 to 117 (fun stv suv alv sav bv iv xv vv ev wx => ∃ (k : Nat) (b : Bool), k ≤ 41 ∧ bv = .bool b ∧ LasI w wx n k j t q stv suv alv sav b)
    case first =>
      go_wp2_with fail
      go_loopw [12, 13, 14, 15, 16, 17, 18, 19, 20, 43] (fun stv suv alv sav bv iv xv vv ev i wx => ∃ (k : Nat) (b : Bool), k ≤ m ∧ k ≤ 40 ∧ i = .int .i64 k ∧ bv = .bool b ∧ LasI w wx n k j t q stv suv alv sav b) (fun _ _ _ _ _ _ _ _ _ i _ => m - (intOf i).toNat)
      case atStart => exact ⟨0, false, by omega, by omega, rfl, rfl, HST.out⟩
      case round =>
        obtain ⟨k, b, hkm, hk40, rfl, rfl, hL⟩ := hrel
        have HL := Lib.hid hL
        clear hL
        by_cases hlt : k < m
        · obtain ⟨a, kd, lv, on, ls, rfl, hab, k0, k1, k2, hp⟩ := HO3.out k hlt
          have hop : OldP w w lv ls := hp
          have HLT := Lib.hid hlt
          have l1 : (k : Int) < (m : Int) := by omega
          obtain ⟨J, D, st, sv, als, sus, hDq, hcq, hst, hsv, hli, hor⟩ := HL.out
          have hbw : Below w.heap.size w wr := by
            rcases hor with ⟨_, u⟩ | ⟨u, _⟩
            · exact u.awd.below
            · exact u.awd.below
          have HB := Lib.hid hbw
          replace k0 := (HB.out.cell (p := a.add (k * 3)) (by rw [add_block]; exact hab)).trans k0
          replace k1 : wr.cell? ⟨(a.add (k * 3)).block, (a.add (k * 3)).off + 1, none⟩ = some lv := (HB.out.cell (p := (a.add (k * 3)).add 1) (by rw [add_block, add_block]; exact hab)).trans k1
          replace k2 : wr.cell? ⟨(a.add (k * 3)).block, (a.add (k * 3)).off + 2, none⟩ = some (.int .i64 on) := (HB.out.cell (p := (a.add (k * 3)).add 2) (by rw [add_block, add_block]; exact hab)).trans k2
          obtain ⟨Al, cl, rfl, _⟩ := id hop
          have HOP := Lib.hid hop
          have HDQ := Lib.hid hDq
          have HCQ := Lib.hid hcq
          have HSTV := Lib.hid hst
          have HSAV := Lib.hid hsv
          have HLI := Lib.hid hli
          have hb3 := below_new (w := wr) (.cells #[.int .i64 kd, .slice Al ls.length cl, .int .i64 on] 61)
          have hat := alloc_at wr (.cells #[.int .i64 kd, .slice Al ls.length cl, .int .i64 on] 61)
          have HAT := Lib.hid hat
          have HB3 := Lib.hid hb3
          clear hp hop hDq hcq hst hsv hli hbw hb3 hat
          by_cases h40 : k < 40
          · have l2 : ¬ (40 : Int) ≤ (k : Int) := by omega
            rcases hor with ⟨rfl, hu⟩ | ⟨hdn, hop2⟩
            · have HU := Lib.hid hu
              have HDW := Lib.hid (jad_down (hu.keep HB3.out).awd)
              rw [hu.live.down] at HDW
              clear hu
              go_wp2_with fail
              refine (HDW.out).mono ?_
              rintro e w3 ⟨rfl, hb3'⟩
              have hsz3 : (wr.alloc (.cells #[.int .i64 kd, .slice Al ls.length cl, .int .i64 on] 61)).heap.size = wr.heap.size + 1 := asz _ _
              have c0 : w3.cell? ⟨wr.heap.size, 0, none⟩ = some (.int .i64 kd) := (hb3'.cell (p := ⟨wr.heap.size, 0, none⟩) (by rw [hsz3]; exact Nat.lt_succ_self _)).trans (cell_of HAT.out 0)
              have c1 : w3.cell? ⟨wr.heap.size, 1, none⟩ = some (.slice Al ls.length cl) := (hb3'.cell (p := ⟨wr.heap.size, 1, none⟩) (by rw [hsz3]; exact Nat.lt_succ_self _)).trans (cell_of HAT.out 1)
              have hb4 := HB3.out.trans (hb3'.mono HB3.out.size)
              have HB4 := Lib.hid hb4
              have HSO := Lib.hid (some_any (HOP.out.below (HB.out.trans (hb4.mono HB.out.size))))
              clear hb3' hsz3 hb4
              go_wp2_with fail
              refine (HSO.out).mono ?_
              rintro e w4 ⟨v4, xs4, rfl, hown, hold, hb5⟩
              have HU4 := Lib.hid ((HU.out.keep HB4.out).more hb5 hown)
              have hbw4 := HB4.out.trans (hb5.mono HB4.out.size)
              have HL4 := Lib.hid ((HLI.out.keep hbw4).more (D' := fun g => D g ∨ v4.ownBlock = some g) (fun g h => .inl h))
              have HC4 := Lib.hid (cell_q HDQ.out HU.out.awd HCQ.out (.of_below hbw4))
              have c0' : w4.cell? ⟨wr.heap.size, 0, none⟩ = some (.int .i64 kd) := (hb5.cell (p := ⟨wr.heap.size, 0, none⟩) (World.block_lt_of_cell? _ _ c0)).trans c0
              have HOW := Lib.hid hown
              have HOL := Lib.hid hold
              clear hb5 hown hold hbw4 HSO c0 c1
              by_cases hk0 : kd = 0
              · subst hk0
                have HA := Lib.hid (las_append HU4.out hk40 HOW.out (fun g e => .inr e) HOL.out)
                go_wp2_with fail
                refine (HA.out).mono ?_
                rintro e w5 ⟨hkd, hres⟩
                have HL5 := Lib.hid (HL4.out.kept hkd)
                have HC5 := Lib.hid (cell_q (.inl HDQ.out) HU4.out.awd HC4.out hkd)
                have HO5 := Lib.hid (HOW.out.keptD (fun g e => .inr e) hkd)
                clear hkd
                rcases hres with ⟨rfl, J5, hu5⟩ | ⟨rfl, J5, hd5, hop5⟩
                · obtain ⟨xa, a1, a2⟩ := HL5.out.all
                  have HU5 := Lib.hid hu5
                  have A1 := Lib.hid a1
                  have A2 := Lib.hid a2
                  have src := Lib.hid (HO5.out.src HOL.out.sl)
                  clear hu5 a1 a2
                  go_wp2_with (at_builtin; refine wpList_append_sl _ rfl _ _ 42 rfl w.heap.size xa xs4 _ _ rfl rfl A1.out src.out ?_ ?_ ?_ HL5.out.allS ?_)
                  · have := A2.out.1; have := HOL.out.1; have := HL5.out.lens; have := someB_len ls; omega
                  · exact HU5.out.awd.below.size
                  · intro u hu
                    rcases List.mem_append.1 hu with hu | hu
                    · exact A2.out.sl u hu
                    · exact HOL.out.sl u hu
                  intro v6 w6 hown6 hg6 hv6 hS6
                  have HR := Lib.hid (las_added (.inl HDQ.out) HC5.out HSTV.out HSAV.out HL5.out HU5.out (someB_len ls) (someB_le ls) A1.out A2.out HOL.out hown6 hg6 hv6 hS6)
                  clear hown6 hg6 hv6 hS6
                  go_wp2_with fail
                  go_roundw
                  case rel => exact ⟨k + 1, false, HLT.out, by omega, by go_num, rfl, HR.out⟩
                  case measure => have := HLT.out; simp [intOf]; omega
                · have HR := Lib.hid (las_dn (.inl HDQ.out) HC5.out HSTV.out HSAV.out HL5.out.next hd5 hop5)
                  clear hd5 hop5
                  go_wp2_with fail
                  go_roundw
                  case rel => exact ⟨k + 1, false, HLT.out, by omega, by go_num, rfl, HR.out⟩
                  case measure => have := HLT.out; simp [intOf]; omega
              by_cases hk1 : kd = 1
              · subst hk1
                have HA := Lib.hid (las_append HU4.out hk40 HOW.out (fun g e => .inr e) HOL.out)
                go_wp2_with fail
                refine (HA.out).mono ?_
                rintro e w5 ⟨hkd, hres⟩
                have HL5 := Lib.hid (HL4.out.kept hkd)
                have HC5 := Lib.hid (cell_q (.inl HDQ.out) HU4.out.awd HC4.out hkd)
                have HO5 := Lib.hid (HOW.out.keptD (fun g e => .inr e) hkd)
                clear hkd
                rcases hres with ⟨rfl, J5, hu5⟩ | ⟨rfl, J5, hd5, hop5⟩
                · obtain ⟨xa, a1, a2⟩ := HL5.out.all
                  have HU5 := Lib.hid hu5
                  have A1 := Lib.hid a1
                  have A2 := Lib.hid a2
                  have src := Lib.hid (HO5.out.src HOL.out.sl)
                  clear hu5 a1 a2
                  go_wp2_with (at_builtin; refine wpList_append_sl _ rfl _ _ 42 rfl w.heap.size xa xs4 _ _ rfl rfl A1.out src.out ?_ ?_ ?_ HL5.out.allS ?_)
                  · have := A2.out.1; have := HOL.out.1; have := HL5.out.lens; have := someB_len ls; omega
                  · exact HU5.out.awd.below.size
                  · intro u hu
                    rcases List.mem_append.1 hu with hu | hu
                    · exact A2.out.sl u hu
                    · exact HOL.out.sl u hu
                  intro v6 w6 hown6 hg6 hv6 hS6
                  have HR := Lib.hid (las_added (.inl HDQ.out) HC5.out HSTV.out HSAV.out HL5.out HU5.out (someB_len ls) (someB_le ls) A1.out A2.out HOL.out hown6 hg6 hv6 hS6)
                  clear hown6 hg6 hv6 hS6
                  go_wp2_with fail
                  go_roundw
                  case rel => exact ⟨k + 1, false, HLT.out, by omega, by go_num, rfl, HR.out⟩
                  case measure => have := HLT.out; simp [intOf]; omega
                · have HR := Lib.hid (las_dn (.inl HDQ.out) HC5.out HSTV.out HSAV.out HL5.out.next hd5 hop5)
                  clear hd5 hop5
                  go_wp2_with fail
                  go_roundw
                  case rel => exact ⟨k + 1, false, HLT.out, by omega, by go_num, rfl, HR.out⟩
                  case measure => have := HLT.out; simp [intOf]; omega
              by_cases hk2' : kd = 2
              · subst hk2'
                have HA := Lib.hid (las_write HU4.out hk40 HOW.out (fun g e => .inr e) HOL.out)
                go_wp2_with fail
                refine (HA.out).mono ?_
                rintro e w5 ⟨hkd, hres⟩
                have HL5 := Lib.hid (HL4.out.kept hkd)
                have HC5 := Lib.hid (cell_q (.inl HDQ.out) HU4.out.awd HC4.out hkd)
                have HO5 := Lib.hid (HOW.out.keptD (fun g e => .inr e) hkd)
                clear hkd
                rcases hres with ⟨rfl, J5, hu5⟩ | ⟨rfl, J5, hd5, hop5⟩
                · obtain ⟨xa, a1, a2⟩ := HL5.out.all
                  have HU5 := Lib.hid hu5
                  have A1 := Lib.hid a1
                  have A2 := Lib.hid a2
                  have src := Lib.hid (HO5.out.src HOL.out.sl)
                  clear hu5 a1 a2
                  go_wp2_with (at_builtin; refine wpList_append_sl _ rfl _ _ 42 rfl w.heap.size xa xs4 _ _ rfl rfl A1.out src.out ?_ ?_ ?_ HL5.out.allS ?_)
                  · have := A2.out.1; have := HOL.out.1; have := HL5.out.lens; have := someB_len ls; omega
                  · exact HU5.out.awd.below.size
                  · intro u hu
                    rcases List.mem_append.1 hu with hu | hu
                    · exact A2.out.sl u hu
                    · exact HOL.out.sl u hu
                  intro v6 w6 hown6 hg6 hv6 hS6
                  have hL6 := HL5.out.grown (someB_len ls) (someB_le ls) A1.out A2.out HOL.out hown6 hg6 hv6 hS6
                  have HU6 := Lib.hid (HU5.out.grown hg6 HL5.out.allD (fun g e => (A1.out.lt g e).1) HL5.out.allS hv6 hown6)
                  have HC6 := Lib.hid (cell_grown HC5.out hg6 HL5.out.allS)
                  have HX6 := Lib.hid (A2.out.append HOL.out)
                  have HE := Lib.hid (own_empty w6)
                  have hbe := below_new (w := w6) (.cells #[] 32)
                  have HBE := Lib.hid hbe
                  have HO6 := Lib.hid hown6
                  have src6 := Lib.hid ((hown6.below hbe).src HX6.out.sl)
                  have HL6 := Lib.hid hL6
                  clear hown6 hg6 hv6 hS6 hL6 hbe
                  go_wp2_with (at_builtin; refine wpList_append_vals _ rfl _ _ 42 rfl w6.heap.size [] (xa ++ xs4) _ _ rfl rfl HE.out src6.out ?_ ?_ ?_)
                  · have h1 := HX6.out.1; have h2 := HL6.out.lens.1; show 0 + (xa ++ xs4).length ≤ 1073741824; omega
                  · rw [asz]; exact Nat.le_succ _
                  intro v7 w7 hown7 hg7 hv7
                  have hb7 := HBE.out.grown hg7 (by rw [asz]; exact Nat.le_succ _) (fun g e => by obtain rfl := Option.some.inj e; exact Nat.le_refl _)
                  have HR := Lib.hid (las_sure (.inl (.inl HDQ.out)) HC6.out HSTV.out HSAV.out HL6.out HU6.out hb7 hown7 HX6.out)
                  clear hown7 hg7 hv7 hb7
                  go_wp2_with fail
                  go_roundw
                  case rel => exact ⟨k + 1, false, HLT.out, by omega, by go_num, rfl, HR.out⟩
                  case measure => have := HLT.out; simp [intOf]; omega
                · obtain ⟨xa, a1, a2⟩ := HL5.out.all
                  have HD5 := Lib.hid hd5
                  have HOP5 := Lib.hid hop5
                  have A1 := Lib.hid a1
                  have A2 := Lib.hid a2
                  have src := Lib.hid (HO5.out.src HOL.out.sl)
                  clear hd5 hop5 a1 a2
                  go_wp2_with (at_builtin; refine wpList_append_sl _ rfl _ _ 42 rfl w.heap.size xa xs4 _ _ rfl rfl A1.out src.out ?_ ?_ ?_ HL5.out.allS ?_)
                  · have := A2.out.1; have := HOL.out.1; have := HL5.out.lens; have := someB_len ls; omega
                  · exact HD5.out.awd.below.size
                  · intro u hu
                    rcases List.mem_append.1 hu with hu | hu
                    · exact A2.out.sl u hu
                    · exact HOL.out.sl u hu
                  intro v6 w6 hown6 hg6 hv6 hS6
                  have HR := Lib.hid (las_addedD (.inl HDQ.out) HC5.out HSTV.out HSAV.out HL5.out HD5.out HOP5.out (someB_len ls) (someB_le ls) A1.out A2.out HOL.out hown6 hg6 hv6 hS6)
                  clear hown6 hg6 hv6 hS6
                  go_wp2_with fail
                  go_roundw
                  case rel => exact ⟨k + 1, false, HLT.out, by omega, by go_num, rfl, HR.out⟩
                  case measure => have := HLT.out; simp [intOf]; omega
              by_cases hk3 : kd = 3
              · subst hk3
                have HA := Lib.hid (las_write HU4.out hk40 HOW.out (fun g e => .inr e) HOL.out)
                go_wp2_with fail
                refine (HA.out).mono ?_
                rintro e w5 ⟨hkd, hres⟩
                have HL5 := Lib.hid (HL4.out.kept hkd)
                have HC5 := Lib.hid (cell_q (.inl HDQ.out) HU4.out.awd HC4.out hkd)
                have HO5 := Lib.hid (HOW.out.keptD (fun g e => .inr e) hkd)
                clear hkd
                rcases hres with ⟨rfl, J5, hu5⟩ | ⟨rfl, J5, hd5, hop5⟩
                · obtain ⟨xa, a1, a2⟩ := HL5.out.all
                  have HU5 := Lib.hid hu5
                  have A1 := Lib.hid a1
                  have A2 := Lib.hid a2
                  have src := Lib.hid (HO5.out.src HOL.out.sl)
                  clear hu5 a1 a2
                  go_wp2_with (at_builtin; refine wpList_append_sl _ rfl _ _ 42 rfl w.heap.size xa xs4 _ _ rfl rfl A1.out src.out ?_ ?_ ?_ HL5.out.allS ?_)
                  · have := A2.out.1; have := HOL.out.1; have := HL5.out.lens; have := someB_len ls; omega
                  · exact HU5.out.awd.below.size
                  · intro u hu
                    rcases List.mem_append.1 hu with hu | hu
                    · exact A2.out.sl u hu
                    · exact HOL.out.sl u hu
                  intro v6 w6 hown6 hg6 hv6 hS6
                  have hL6 := HL5.out.grown (someB_len ls) (someB_le ls) A1.out A2.out HOL.out hown6 hg6 hv6 hS6
                  have HU6 := Lib.hid (HU5.out.grown hg6 HL5.out.allD (fun g e => (A1.out.lt g e).1) HL5.out.allS hv6 hown6)
                  have HC6 := Lib.hid (cell_grown HC5.out hg6 HL5.out.allS)
                  have HX6 := Lib.hid (A2.out.append HOL.out)
                  have HE := Lib.hid (own_empty w6)
                  have hbe := below_new (w := w6) (.cells #[] 32)
                  have HBE := Lib.hid hbe
                  have HO6 := Lib.hid hown6
                  have src6 := Lib.hid ((hown6.below hbe).src HX6.out.sl)
                  have HL6 := Lib.hid hL6
                  clear hown6 hg6 hv6 hS6 hL6 hbe
                  go_wp2_with (at_builtin; refine wpList_append_vals _ rfl _ _ 42 rfl w6.heap.size [] (xa ++ xs4) _ _ rfl rfl HE.out src6.out ?_ ?_ ?_)
                  · have h1 := HX6.out.1; have h2 := HL6.out.lens.1; show 0 + (xa ++ xs4).length ≤ 1073741824; omega
                  · rw [asz]; exact Nat.le_succ _
                  intro v7 w7 hown7 hg7 hv7
                  have hb7 := HBE.out.grown hg7 (by rw [asz]; exact Nat.le_succ _) (fun g e => by obtain rfl := Option.some.inj e; exact Nat.le_refl _)
                  have HR := Lib.hid (las_sure (.inl (.inl HDQ.out)) HC6.out HSTV.out HSAV.out HL6.out HU6.out hb7 hown7 HX6.out)
                  clear hown7 hg7 hv7 hb7
                  go_wp2_with fail
                  go_roundw
                  case rel => exact ⟨k + 1, false, HLT.out, by omega, by go_num, rfl, HR.out⟩
                  case measure => have := HLT.out; simp [intOf]; omega
                · obtain ⟨xa, a1, a2⟩ := HL5.out.all
                  have HD5 := Lib.hid hd5
                  have HOP5 := Lib.hid hop5
                  have A1 := Lib.hid a1
                  have A2 := Lib.hid a2
                  have src := Lib.hid (HO5.out.src HOL.out.sl)
                  clear hd5 hop5 a1 a2
                  go_wp2_with (at_builtin; refine wpList_append_sl _ rfl _ _ 42 rfl w.heap.size xa xs4 _ _ rfl rfl A1.out src.out ?_ ?_ ?_ HL5.out.allS ?_)
                  · have := A2.out.1; have := HOL.out.1; have := HL5.out.lens; have := someB_len ls; omega
                  · exact HD5.out.awd.below.size
                  · intro u hu
                    rcases List.mem_append.1 hu with hu | hu
                    · exact A2.out.sl u hu
                    · exact HOL.out.sl u hu
                  intro v6 w6 hown6 hg6 hv6 hS6
                  have HR := Lib.hid (las_addedD (.inl HDQ.out) HC5.out HSTV.out HSAV.out HL5.out HD5.out HOP5.out (someB_len ls) (someB_le ls) A1.out A2.out HOL.out hown6 hg6 hv6 hS6)
                  clear hown6 hg6 hv6 hS6
                  go_wp2_with fail
                  go_roundw
                  case rel => exact ⟨k + 1, false, HLT.out, by omega, by go_num, rfl, HR.out⟩
                  case measure => have := HLT.out; simp [intOf]; omega
              by_cases hk4 : kd = 4
              · subst hk4
                have HA := Lib.hid (las_sync HU4.out hk40)
                go_wp2_with fail
                refine (HA.out).mono ?_
                rintro e w5 ⟨hkd, hres⟩
                have HL5 := Lib.hid (HL4.out.kept hkd)
                have HC5 := Lib.hid (cell_q (.inl HDQ.out) HU4.out.awd HC4.out hkd)
                have HO5 := Lib.hid (HOW.out.keptD (fun g e => .inr e) hkd)
                clear hkd
                rcases hres with ⟨rfl, J5, hu5⟩ | ⟨rfl, J5, hd5, hop5⟩
                · obtain ⟨xa, a1, a2⟩ := HL5.out.all
                  have HU5 := Lib.hid hu5
                  have A2 := Lib.hid a2
                  have HE := Lib.hid (own_empty w5)
                  have hbe := below_new (w := w5) (.cells #[] 32)
                  have HBE := Lib.hid hbe
                  have src6 := Lib.hid ((a1.below hbe).src A2.out.sl)
                  clear hu5 a1 a2 hbe
                  go_wp2_with (at_builtin; refine wpList_append_vals _ rfl _ _ 42 rfl w5.heap.size [] xa _ _ rfl rfl HE.out src6.out ?_ ?_ ?_)
                  · have h1 := A2.out.1; have h2 := HL5.out.lens.1; show 0 + xa.length ≤ 1073741824; omega
                  · rw [asz]; exact Nat.le_succ _
                  intro v7 w7 hown7 hg7 hv7
                  have hb7 := HBE.out.grown hg7 (by rw [asz]; exact Nat.le_succ _) (fun g e => by obtain rfl := Option.some.inj e; exact Nat.le_refl _)
                  have HR := Lib.hid (las_sure (.inl HDQ.out) HC5.out HSTV.out HSAV.out HL5.out.next HU5.out hb7 hown7 A2.out)
                  clear hown7 hg7 hv7 hb7
                  go_wp2_with fail
                  go_roundw
                  case rel => exact ⟨k + 1, false, HLT.out, by omega, by go_num, rfl, HR.out⟩
                  case measure => have := HLT.out; simp [intOf]; omega
                · have HR := Lib.hid (las_dn (.inl HDQ.out) HC5.out HSTV.out HSAV.out HL5.out.next hd5 hop5)
                  clear hd5 hop5
                  go_wp2_with fail
                  go_roundw
                  case rel => exact ⟨k + 1, false, HLT.out, by omega, by go_num, rfl, HR.out⟩
                  case measure => have := HLT.out; simp [intOf]; omega
              by_cases hk5 : kd = 5
              · subst hk5
                have HA := Lib.hid (las_save HU4.out hk40 HOL.out)
                have HFI := Lib.hid (jfirst_any HOW.out (by rw [HOL.out.1]; have := someB_len ls; omega))
                have HH : Hid (BI60 w (headV xs4) (firstB (someB ls))) := Lib.hid ⟨head_old HOL.out, firstB_le ls⟩
                go_wp2_with fail
                refine (HFI.out).mono ?_
                rintro e w4' ⟨rfl, rfl⟩
                go_wp2_with fail
                refine (HA.out).mono ?_
                rintro e w5 ⟨hkd, hres⟩
                have HL5 := Lib.hid (HL4.out.kept hkd)
                have HC5 := Lib.hid (cell_q (.inl HDQ.out) HU4.out.awd HC4.out hkd)
                have HO5 := Lib.hid (HOW.out.keptD (fun g e => .inr e) hkd)
                clear hkd
                have HFI5 := Lib.hid (jfirst_any HO5.out (by rw [HOL.out.1]; have := someB_len ls; omega))
                rcases hres with ⟨rfl, J5, hu5⟩ | ⟨rfl, J5, hd5, hop5⟩
                · have HR := Lib.hid (las_up (.inl HDQ.out) HC5.out HH.out HSAV.out (lists_nil w w5 (fun g => D g ∨ v4.ownBlock = some g) (k + 1)) hu5)
                  clear hu5
                  go_wp2_with fail
                  refine (HFI5.out).mono ?_
                  rintro e w6 ⟨rfl, rfl⟩
                  go_wp2_with fail
                  go_roundw
                  case rel => exact ⟨k + 1, false, HLT.out, by omega, by go_num, rfl, HR.out⟩
                  case measure => have := HLT.out; simp [intOf]; omega
                · have HR := Lib.hid (las_or (.inl HDQ.out) HC5.out HSTV.out HH.out HL5.out.next hd5 hop5)
                  clear hd5 hop5
                  go_wp2_with fail
                  refine (HFI5.out).mono ?_
                  rintro e w6 ⟨rfl, rfl⟩
                  go_wp2_with fail
                  go_roundw
                  case rel => exact ⟨k + 1, true, HLT.out, by omega, by go_num, rfl, HR.out⟩
                  case measure => have := HLT.out; simp [intOf]; omega
              have e0 : (kd == 0) = false := by rw [beq_eq_false_iff_ne]; exact hk0
              have e1 : (kd == 1) = false := by rw [beq_eq_false_iff_ne]; exact hk1
              have e2 : (kd == 2) = false := by rw [beq_eq_false_iff_ne]; exact hk2'
              have e3 : (kd == 3) = false := by rw [beq_eq_false_iff_ne]; exact hk3
              have e4 : (kd == 4) = false := by rw [beq_eq_false_iff_ne]; exact hk4
              have e5 : (kd == 5) = false := by rw [beq_eq_false_iff_ne]; exact hk5
              have HR := Lib.hid (las_up (.inl HDQ.out) HC4.out HSTV.out HSAV.out HL4.out.next HU4.out.next)
              go_wp2_with fail
              go_roundw
              case rel => exact ⟨k + 1, false, HLT.out, by omega, by go_num, rfl, HR.out⟩
              case measure => have := HLT.out; simp [intOf]; omega
            · have HDW := Lib.hid (jad_down (hdn.keep HB3.out).awd)
              rw [hdn.down] at HDW
              clear hdn hop2
              go_wp2_with fail
              refine (HDW.out).mono ?_
              rintro e w3 ⟨rfl, hb3'⟩
              have HL9 := Lib.hid ((HL.out.keep HB3.out).keep hb3')
              clear hb3'
              go_wp2_with fail
              go_meet
              exact ⟨k, b, by omega, rfl, HL9.out⟩
          · have l2 : (40 : Int) ≤ (k : Int) := by omega
            have HL9 := Lib.hid (HL.out.keep HB3.out)
            clear hor
            go_wp2_with fail
            go_meet
            exact ⟨k, b, by omega, rfl, HL9.out⟩
        · have l1 : ¬ (k : Int) < (m : Int) := by omega
          go_wp2_with fail
          go_meet
          exact ⟨k, b, by omega, rfl, HL.out⟩
    case rest =>
      obtain ⟨k, b, hk41, rfl, hL⟩ := hcut
      obtain ⟨J, D, st, sv, als, sus, hDq, hcq, hst, hsv, hli, hawd, hfit, hop⟩ := las_exit hL
      have hld : ∃ p2 s rs, loadP (crashP J.p ks2) n = (0, ⟨p2, n, s, rs⟩) ∧ ((s = st ∧ sus <+: rs ∧ rs <+: als) ∨ (b = true ∧ s = sv ∧ rs = [])) := by
        rcases hop with ⟨_, ho⟩ | ⟨hb, ho⟩
        · obtain ⟨p2, rs, e, g1, g2⟩ := ho J.p.room n ks2
          exact ⟨p2, st, rs, e, .inl ⟨rfl, g1, g2⟩⟩
        · obtain ⟨p2, s, rs, e, g⟩ := ho J.p.room n ks2
          exact ⟨p2, s, rs, e, g.imp id fun ⟨a, c⟩ => ⟨hb, a, c⟩⟩
      obtain ⟨p2, s, rs, hload, hcase⟩ := hld
      have hpre : rs <+: als := by
        rcases hcase with ⟨_, _, h⟩ | ⟨_, _, h⟩
        · exact h
        · rw [h]; exact List.nil_prefix
      have HA6 := Lib.hid (hawd.keep (below_drew (Below.refl _ _)))
      have HCR := Lib.hid (jad_crash HA6.out HK2.out HKR2.out)
      have HSTV := Lib.hid hst
      have HSAV := Lib.hid hsv
      have HLI := Lib.hid (hli.keep (below_drew (Below.refl _ _)))
      have HFIT := Lib.hid (hfit.crash ks2)
      have HLOAD := Lib.hid hload
      have HCASE := Lib.hid hcase
      have HPRE := Lib.hid hpre
      have HDQ := Lib.hid hDq
      have HLEN := Lib.hid hli.lens
      clear hst hsv hli hfit hload hcase hpre hop hL hawd
      go_wp2_with fail
      go_region_held (fun W => W.cell? ⟨q, 1, none⟩ = some (.int .i64 (n : Int))) ((first | go_keep | assumption)) (first | (go_at_call 12; refine (HCR.out).mono ?_; rintro e w7 ⟨c, TC, rfl, htc, hnc, hb7⟩; have HTC := Lib.hid htc; have HNC := Lib.hid hnc; have HA7 := Lib.hid (HA6.out.keep hb7); have HL7 := Lib.hid (HLI.out.keep hb7); have HB7 := Lib.hid hb7; have hqc7 := cell_q (n := n) HDQ.out HA6.out (by first | assumption | go_keep) (.of_below hb7); clear htc hnc hb7) | (go_at_call 24; refine (open_any HG.out HM.out HA7.out.below HTC.out HNC.out HA6.out.below.size HB7.out.size hn1 hn2 HFIT.out HLOAD.out).mono ?_; rintro e w8 ⟨kj, rfl, k8, hb8⟩; have K8 := Lib.hid k8; have HL8 := Lib.hid (HLI.out.keep (HB7.out.trans hb8)); have hqc8 := cell_q (n := n) HDQ.out HA6.out (by first | assumption | go_keep) (.of_below (HB7.out.trans hb8)); clear k8 hb8))
      clear hqc7 hqc8
      have HRC := Lib.hid (recs_any K8.out.at.choose_spec.choose_spec.choose_spec.choose_spec HPRE.out (by have := HLEN.out.1; omega) HLEN.out.2.2)
      go_wp2_with fail
      refine (HRC.out).mono ?_
      rintro e w9 ⟨A9, c9, rfl, hp9, hb9⟩
      have K9 := Lib.hid (K8.out.keep hb9)
      have HL9 := Lib.hid (HL8.out.keep hb9)
      have HP9 := Lib.hid hp9
      clear hp9 hb9
      have HS60 : Hid (s.length ≤ 60) := Lib.hid (by
        rcases HCASE.out with ⟨h, _⟩ | ⟨_, h, _⟩
        · rw [h]; exact HSTV.out.2
        · rw [h]; exact HSAV.out.2)
      have K9D := Lib.hid (K9.out.keep (below_drew (Below.refl _ _)))
      go_upto_region 45 with fail
      go_cut [150] from 137 to 149 (fun cv wx => Below w9.heap.size w9 wx ∧ ∃ d, cv = .bool d ∧ (d = false → s = st ∧ sus <+: rs))
      case first =>
        cases b with
        | false =>
          have hc := HCASE.out.resolve_right (by simp)
          have HC := Lib.hid hc
          clear hc
          first | (go_region_with fail) | fail
          all_goals (go_wp2_with fail; go_meet; exact ⟨by first | exact Below.refl _ _ | exact below_drew (Below.refl _ _), false, rfl, fun _ => ⟨HC.out.1, HC.out.2.1⟩⟩)
        | true =>
          obtain ⟨As, cs, rfl, _⟩ := id HSAV.out.1
          have CV := Lib.hid (fun (W : World) (hb : Below w.heap.size w W) => bis_string (HSAV.out.1.below hb))
          have HJS := Lib.hid (jstate_str K9D.out.at.choose_spec.choose_spec.choose_spec.choose_spec (show s.length ≤ 1000 by have := HS60.out; omega))
          have CW := Lib.hid (fun (W : World) (hb : Below w9.heap.size w9 W) => CV.out W (K9.out.below.trans (hb.mono K9.out.below.size)))
          by_cases hs : s = sv
          · have hB : (s == sv) = true := by rw [hs]; exact beq_self_eq_true _
            by_cases hr : rs = []
            · have l1 : ((rs.length : Int) == 0) = true := by rw [hr]; rfl
              have l2 : (rs.length : Int) = 0 := by rw [hr]; rfl
              clear hs hr
              go_region_held (fun W => (convert 32 9 (.slice As sv.length cs)).run Tryz.prog W = .ok (.string ⟨sv.toArray⟩) W) ((first | go_keep | assumption | exact CW.out _ (Below.refl _ _) | exact CW.out _ (below_drew (Below.refl _ _)))) (first | (go_at_call 36; refine (HJS.out).mono ?_; rintro e w10 ⟨A10, c10, rfl, hcv10, hb10⟩; have HB10 := Lib.hid ((below_drew (Below.refl _ w9)).trans hb10); have hcv := CW.out _ HB10.out; clear hb10))
              go_wp2_with fail
              go_meet
              exact ⟨HB10.out, true, rfl, fun h => by cases h⟩
            · have HR := Lib.hid hr
              have l1 : ((rs.length : Int) == 0) = false := by rw [beq_eq_false_iff_ne]; intro h; exact hr (List.length_eq_zero_iff.1 (by omega))
              have HC := Lib.hid (HCASE.out.resolve_right (fun h => hr h.2.2))
              clear hs hr
              go_region_held (fun W => (convert 32 9 (.slice As sv.length cs)).run Tryz.prog W = .ok (.string ⟨sv.toArray⟩) W) ((first | go_keep | assumption | exact CW.out _ (Below.refl _ _) | exact CW.out _ (below_drew (Below.refl _ _)))) (first | (go_at_call 36; refine (HJS.out).mono ?_; rintro e w10 ⟨A10, c10, rfl, hcv10, hb10⟩; have HB10 := Lib.hid ((below_drew (Below.refl _ w9)).trans hb10); have hcv := CW.out _ HB10.out; clear hb10))
              go_wp2_with fail
              go_meet
              exact ⟨HB10.out, false, rfl, fun _ => ⟨HC.out.1, HC.out.2.1⟩⟩
          · have hB : (s == sv) = false := by rw [beq_eq_false_iff_ne]; exact hs
            have HC := Lib.hid (HCASE.out.resolve_right (fun h => hs h.2.1))
            clear hs
            first | (go_region_held (fun W => (convert 32 9 (.slice As sv.length cs)).run Tryz.prog W = .ok (.string ⟨sv.toArray⟩) W) ((first | go_keep | assumption | exact CW.out _ (Below.refl _ _) | exact CW.out _ (below_drew (Below.refl _ _)))) (first | (go_at_call 36; refine (HJS.out).mono ?_; rintro e w10 ⟨A10, c10, rfl, hcv10, hb10⟩; have HB10 := Lib.hid ((below_drew (Below.refl _ w9)).trans hb10); have hcv := CW.out _ HB10.out; clear hb10))) | fail
            all_goals (go_wp2_with fail; go_meet; exact ⟨HB10.out, false, rfl, fun _ => ⟨HC.out.1, HC.out.2.1⟩⟩)
      case rest =>
        obtain ⟨hb10, d, rfl, hd⟩ := hcut
        cases d with
        | true =>
          have K10 := Lib.hid (K9.out.keep hb10)
          have HAW := Lib.hid (awake5 K10.out.ok2.1 K10.out.ok2.2)
          clear hb10 hd
          go_wp2_with fail
          refine (HAW.out).mono ?_
          rintro e w11 ⟨rfl, hb11⟩
          have HB11 := Lib.hid (K10.out.keep hb11).below
          clear hb11
          go_wp2_with fail
          go_ret
          exact ⟨rfl, HB11.out⟩
        | false =>
          obtain ⟨hst, hsub⟩ := hd rfl
          have hlen1 := hsub.length_le
          have hlen2 := HPRE.out.length_le
          have K10 := Lib.hid (K9.out.keep hb10)
          have HB10 := Lib.hid (K9.out.below.trans (hb10.mono K9.out.below.size))
          have HPI := Lib.hid (pis_upto' (HL9.out.keep hb10) HB10.out HPRE.out)
          have HP10 := Lib.hid (HP9.out.below hb10)
          obtain ⟨Asu, csu, rfl⟩ := HL9.out.sureV
          obtain ⟨Aal, cal, rfl, hca⟩ := HL9.out.allV
          obtain ⟨Ast, cst, rfl, _⟩ := id HSTV.out.1
          have CT := Lib.hid (fun (W : World) (hb : Below wc.heap.size wc W) => bis_string (HSTV.out.1.below (HB10.out.trans (hb.mono HB10.out.size))))
          have K10D := Lib.hid (K10.out.keep (below_drew (Below.refl _ _)))
          have HJS := Lib.hid (jstate_str K10D.out.at.choose_spec.choose_spec.choose_spec.choose_spec (show s.length ≤ 1000 by have := HS60.out; omega))
          have hB : (s == st) = true := by rw [hst]; exact beq_self_eq_true _
          have l1 : ((rs.length : Int) < (sus.length : Int)) = False := eq_false (by omega)
          have l2 : ((als.length : Int) < (rs.length : Int)) = False := eq_false (by omega)
          have l1n : (rs.length < sus.length) = False := eq_false (by omega)
          have l2n : (als.length < rs.length) = False := eq_false (by omega)
          have l3 : rs.length ≤ cal := by omega
          clear hb10 hst hsub hd
          go_wp2_with fail
          go_region_held (fun W => (convert 32 9 (.slice Ast st.length cst)).run Tryz.prog W = .ok (.string ⟨st.toArray⟩) W) ((first | go_keep | assumption | exact CT.out _ (Below.refl _ _) | exact CT.out _ (below_drew (Below.refl _ _)))) (first | (go_at_call 36; refine (HJS.out).mono ?_; rintro e w11 ⟨A11, c11, rfl, hcv11, hb11⟩; have HB11 := Lib.hid ((below_drew (Below.refl _ wc)).trans hb11); have hcv := CT.out _ HB11.out; clear hb11))
          have HB11W := Lib.hid (HB10.out.trans (HB11.out.mono HB10.out.size))
          have HSM := Lib.hid (rsame_eq (HP10.out.below HB11.out) ((HPI.out _ _ rfl).below HB11.out))
          have K11 := Lib.hid (K10.out.keep HB11.out)
          clear hcv
          go_wp2_with fail
          refine (HSM.out).mono ?_
          rintro e w12 ⟨rfl, hb12⟩
          have K12 := Lib.hid (K11.out.keep hb12)
          have HAW := Lib.hid (awake5 K12.out.ok2.1 K12.out.ok2.2)
          clear hb12
          go_wp2_with fail
          refine (HAW.out).mono ?_
          rintro e w13 ⟨rfl, hb13⟩
          have HB13 := Lib.hid (K12.out.keep hb13).below
          clear hb13
          go_wp2_with fail
          go_ret
          exact ⟨rfl, HB13.out⟩
end Go.Proofs.YtnegnokielmgkaaGreatDoor
